/- ValueOf and ReadsOf's values: both sides. -/
import Derived.Test.YtkmhpiojbocjkaaA14
namespace Go.Proofs.Ytkmhpiojbocjkaa
set_option linter.unusedSimpArgs false
set_option linter.unusedVariables false
open Go.RowKit

theorem mayR_sorted (ps : List Pt) : (mayR ps).Pairwise (· < ·) := by
  unfold mayR
  rw [List.pairwise_map]
  exact (List.pairwise_lt_range.filter _).imp (by intro a b h; omega)

theorem mem_mayR (ps : List Pt) (x : Int) : x ∈ mayR ps ↔ ∃ m : Nat, m < 10 ∧ hasNode ps m = true ∧ x = m := by
  unfold mayR
  simp only [List.mem_map, List.mem_filter, List.mem_range]
  constructor
  · rintro ⟨m, ⟨h1, h2⟩, rfl⟩; exact ⟨m, h1, h2, rfl⟩
  · rintro ⟨m, h1, h2, rfl⟩; exact ⟨m, ⟨h1, h2⟩, rfl⟩

theorem le_last (l : List Int) (h : l.Pairwise (· < ·)) (x : Int) (hx : x ∈ l) : x ≤ l.getD (l.length - 1) 0 := by
  obtain ⟨i, hi, rfl⟩ := List.mem_iff_getElem.1 hx
  have hl : l.length - 1 < l.length := by omega
  rw [show l.getD (l.length - 1) 0 = l[l.length - 1] by simp [List.getD, hl]]
  rcases Nat.lt_or_ge i (l.length - 1) with h1 | h1
  · have := List.pairwise_iff_getElem.1 h i (l.length - 1) hi hl h1
    omega
  · have : i = l.length - 1 := by omega
    subst this
    exact Int.le_refl _

theorem last_each (ps : List Pt) (n : Nat) (hg : AllGood ps) : lastOK (mayR ps) n = eachOK ps n := by
  rw [Bool.eq_iff_iff]
  unfold lastOK eachOK
  simp only [Bool.or_eq_true, decide_eq_true_eq, List.all_eq_true]
  constructor
  · intro h p hp
    cases hq : (p.k == 1 && decide ((n : Int) ≤ p.n))
    · rfl
    · exfalso
      simp only [Bool.and_eq_true, beq_iff_eq, decide_eq_true_eq] at hq
      obtain ⟨i, hi, rfl⟩ := List.mem_iff_getElem.1 hp
      have hgi := hg i hi
      rw [show ps.getD i default = ps[i] by simp [List.getD, hi]] at hgi
      have hr := (good_num _ _ hgi).2 hq.1
      have hm : ps[i].n ∈ mayR ps := by
        rw [mem_mayR]
        refine ⟨ps[i].n.toNat, by omega, ?_, by omega⟩
        unfold hasNode
        rw [List.any_eq_true]
        exact ⟨ps[i], hp, by simp [hq.1]; omega⟩
      rcases h with h | h
      · rw [List.eq_nil_of_length_eq_zero h] at hm; cases hm
      · have := le_last _ (mayR_sorted ps) _ hm
        omega
  · intro h
    by_cases h0 : (mayR ps).length = 0
    · exact .inl h0
    · right
      have hl : (mayR ps).length - 1 < (mayR ps).length := by omega
      have hm : (mayR ps).getD ((mayR ps).length - 1) 0 ∈ mayR ps := by simp [List.getD, hl]
      generalize (mayR ps).getD ((mayR ps).length - 1) 0 = x at *
      rw [mem_mayR] at hm
      obtain ⟨m, hm1, hm2, rfl⟩ := hm
      unfold hasNode at hm2
      rw [List.any_eq_true] at hm2
      obtain ⟨p, hp, hpp⟩ := hm2
      have := h p hp
      simp only [Bool.and_eq_true, beq_iff_eq] at hpp
      rw [hpp.1, hpp.2] at this
      simp at this
      omega

theorem canEv_val (ps : List Pt) (vs : List Int) (hv : validF ps = true) : valOK ps vs = canEv ps vs := by
  unfold valOK canEv
  rw [hv, last_each ps vs.length (validF_good ps hv).1]
  cases allR vs 0 999 <;> cases decide (vs.length ≤ 10) <;> simp

theorem allR_VOK (vs : List Int) (h : allR vs 0 999 = true) : VOK vs := by
  intro j hj
  unfold allR at h
  rw [List.all_eq_true] at h
  have := h (vs.getD j 0) (by simp [List.getD, hj])
  simpa [rng] using this

theorem canEv_parts (ps : List Pt) (vs : List Int) (h : canEv ps vs = true) : validF ps = true ∧ VOK vs ∧ vs.length ≤ 10 ∧ eachOK ps vs.length = true := by
  unfold canEv at h
  simp only [Bool.and_eq_true, decide_eq_true_eq] at h
  exact ⟨h.1, allR_VOK vs h.2.1.2, h.2.1.1, h.2.2⟩

/-- The whole of a formula as a term. -/
def whole (ps : List Pt) : Tm := tmAt ps ps.length (ps.length - 1)

/-- What ValueOf answers. -/
def valF (ps : List Pt) (vs : List Int) : Int := if canEv ps vs then (whole ps).ev vs else 0

end Go.Proofs.Ytkmhpiojbocjkaa
