/- Plain facts: runs of all numbers together are as many as the list is long. -/
import Derived.Test.YtdakeegeleegiaaT10
import Derived.Test.YtdakeegeleegiaaA11
namespace Go.Proofs.Ytdakeegeleegiaa
set_option linter.unusedSimpArgs false
set_option linter.unusedVariables false

/-- The runs of the numbers that come first among the first i. -/
def sumF (xs : List Int) : Nat → Nat
  | 0 => 0
  | i + 1 => if plc xs (xs.getD i 0) == (i : Int) then sumF xs i + cnt xs (xs.getD i 0) else sumF xs i

theorem countP_lt_succ (f : Nat → Nat) (i : Nat) (l : List Nat) : l.countP (fun t => decide (f t < i + 1)) = l.countP (fun t => decide (f t < i)) + l.countP (fun t => f t == i) := by
  induction l with
  | nil => rfl
  | cons t l ih =>
    simp only [List.countP_cons, ih]
    rcases Nat.lt_trichotomy (f t) i with h | h | h
    · have h1 : decide (f t < i + 1) = true := by simp; omega
      have h2 : decide (f t < i) = true := by simp; omega
      have h3 : (f t == i) = false := by simp; omega
      simp only [h1, h2, h3]; simp; omega
    · have h1 : decide (f t < i + 1) = true := by simp; omega
      have h2 : decide (f t < i) = false := by simp; omega
      have h3 : (f t == i) = true := by simp; omega
      simp only [h1, h2, h3]; simp; omega
    · have h1 : decide (f t < i + 1) = false := by simp; omega
      have h2 : decide (f t < i) = false := by simp; omega
      have h3 : (f t == i) = false := by simp; omega
      simp only [h1, h2, h3]; simp

theorem cnt_range (xs : List Int) (y : Int) : (List.range xs.length).countP (fun t => xs.getD t 0 == y) = cnt xs y := by
  have h : xs = (List.range xs.length).map fun t => xs.getD t 0 := by
    apply List.ext_getElem (by simp)
    intro i h1 h2
    simp [List.getD, h1]
  unfold cnt
  rw [show xs.countP (fun x => x == y) = ((List.range xs.length).map fun t => xs.getD t 0).countP (fun x => x == y) from congrArg _ h, List.countP_map]
  rfl

theorem idx_le (xs : List Int) (t : Nat) (h : t < xs.length) : xs.idxOf (xs.getD t 0) < xs.length := List.idxOf_lt_length_of_mem (by simp [List.getD, h])
theorem idx_get (xs : List Int) (y : Int) (h : xs.idxOf y < xs.length) : xs.getD (xs.idxOf y) 0 = y := by
  simp [List.getD, h]

theorem sumF_eq (xs : List Int) : ∀ i, i ≤ xs.length → sumF xs i = (List.range xs.length).countP (fun t => decide (xs.idxOf (xs.getD t 0) < i)) := by
  intro i
  induction i with
  | zero => intro _; simp [sumF]
  | succ i ih =>
    intro hi
    have hm : xs.getD i 0 ∈ xs := by simp [List.getD, show i < xs.length by omega]
    have hp : plc xs (xs.getD i 0) = (xs.idxOf (xs.getD i 0) : Int) := by unfold plc; rw [if_pos hm]
    rw [countP_lt_succ (fun t => xs.idxOf (xs.getD t 0)) i, ← ih (by omega)]
    show (if plc xs (xs.getD i 0) == (i : Int) then sumF xs i + cnt xs (xs.getD i 0) else sumF xs i) = _
    by_cases h : xs.idxOf (xs.getD i 0) = i
    · have h1 : (plc xs (xs.getD i 0) == (i : Int)) = true := by rw [hp, h]; exact beq_self_eq_true _
      rw [if_pos h1, ← cnt_range]
      congr 1
      apply List.countP_congr
      intro t ht
      have ht' := List.mem_range.1 ht
      simp only [beq_iff_eq]
      constructor
      · intro e; rw [e]; exact h
      · intro e
        have := idx_get xs (xs.getD t 0) (idx_le xs t ht')
        rw [e] at this
        exact this.symm
    · have h1 : ¬ (plc xs (xs.getD i 0) == (i : Int)) = true := by rw [hp, beq_iff_eq]; omega
      rw [if_neg h1]
      have h0 : (List.range xs.length).countP (fun t => xs.idxOf (xs.getD t 0) == i) = 0 := by
        rw [List.countP_eq_zero]
        intro t ht
        have ht' := List.mem_range.1 ht
        simp only [beq_iff_eq]
        intro e
        apply h
        have := idx_get xs (xs.getD t 0) (idx_le xs t ht')
        rw [e] at this
        rw [this]; exact e
      omega

theorem sumF_all (xs : List Int) : sumF xs xs.length = xs.length := by
  rw [sumF_eq xs _ (Nat.le_refl _)]
  have : (List.range xs.length).countP (fun t => decide (xs.idxOf (xs.getD t 0) < xs.length)) = (List.range xs.length).length := by
    rw [List.countP_eq_length]
    intro t ht
    have ht' := List.mem_range.1 ht
    exact decide_eq_true (idx_le xs t ht')
  rw [this]; simp

theorem sumF_le (xs : List Int) (i : Nat) (h : i ≤ xs.length) : sumF xs i ≤ xs.length := by
  rw [sumF_eq xs i h]
  have := List.countP_le_length (p := fun t => decide (xs.idxOf (xs.getD t 0) < i)) (l := List.range xs.length)
  simpa using this

theorem runs_pos (xs : List Int) (y : Int) : decide (runsF xs y > 0) = decide (y ∈ xs) := by
  unfold runsF cnt
  have : 0 < xs.countP (fun x => x == y) ↔ y ∈ xs := by
    rw [List.countP_pos_iff]
    constructor
    · rintro ⟨a, ha, he⟩; simp at he; rw [← he]; exact ha
    · intro h; exact ⟨y, h, by simp⟩
  by_cases h : y ∈ xs
  · have := this.2 h
    rw [decide_eq_true h, decide_eq_true (by omega)]
  · have h2 : ¬ 0 < xs.countP (fun x => x == y) := fun e => h (this.1 e)
    rw [decide_eq_false h, decide_eq_false (by omega)]
end Go.Proofs.Ytdakeegeleegiaa
