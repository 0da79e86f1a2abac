/- Plain facts: counting parts that are below one, with marks. No walk. -/
import Derived.Test.YtkmhpiojbocjkaaM1
import Derived.Test.YtkmhpiojbocjkaaA3
namespace Go.Proofs.Ytkmhpiojbocjkaa
set_option linter.unusedSimpArgs false
set_option linter.unusedVariables false
open Go.RowKit

theorem pbI_bel (p : Pt) : pbI p = bel p := by
  unfold pbI
  by_cases h8 : p.k = 8
  · simp [h8]
  · by_cases h2 : ar p.k = 2
    · simp [h2]
    · have h3 : ar p.k ≠ 3 := by
        unfold ar at h2 ⊢
        split
        · omega
        · split
          · omega
          · simp
      simp [h8, h2, bel, h3]

theorem good_iff (p : Pt) (i : Int) : goodPt p i = (pbOk p && decide (∀ b ∈ bel p, 0 ≤ b ∧ b ≤ i - 1)) := by
  by_cases h0 : p.k = 0
  · have : ar p.k = 0 := by simp [ar, h0]
    simp [goodPt, pbOk, h0, this, bel, noneB, ar]
  · by_cases h1 : p.k = 1
    · have : ar p.k = 0 := by simp [ar, h1]
      simp [goodPt, pbOk, h1, this, bel, noneB, ar]
    · have hn : ar p.k ≠ 0 := by
        unfold ar
        split
        · omega
        · split
          · omega
          · split <;> omega
      by_cases h2 : ar p.k = 2
      · simp [goodPt, pbOk, h0, h1, h2, bel, rng]
        rw [Bool.eq_iff_iff]
        simp
        constructor
        · rintro ⟨⟨⟨⟨a1, a2⟩, b1, b2⟩, c⟩, d⟩; exact ⟨⟨c, d⟩, ⟨a1, a2⟩, b1, b2⟩
        · rintro ⟨⟨c, d⟩, ⟨a1, a2⟩, b1, b2⟩; exact ⟨⟨⟨⟨a1, a2⟩, b1, b2⟩, c⟩, d⟩
      · by_cases h3 : ar p.k = 3
        · simp [goodPt, pbOk, h0, h1, h3, bel, rng]
          rw [Bool.eq_iff_iff]
          simp
          constructor
          · rintro ⟨⟨⟨⟨a1, a2⟩, b1, b2⟩, c1, c2⟩, d⟩; exact ⟨d, ⟨a1, a2⟩, ⟨b1, b2⟩, c1, c2⟩
          · rintro ⟨d, ⟨a1, a2⟩, ⟨b1, b2⟩, c1, c2⟩; exact ⟨⟨⟨⟨a1, a2⟩, b1, b2⟩, c1, c2⟩, d⟩
        · simp [goodPt, pbOk, h0, h1, h2, h3, hn]

theorem sum_counts_cons (x : Int) (L : List Int) (m : Nat) : ((List.range m).map fun i : Nat => (x :: L).count (i : Int)).sum = ((List.range m).map fun i : Nat => L.count (i : Int)).sum + if 0 ≤ x ∧ x < m then 1 else 0 := by
  induction m with
  | zero =>
    rw [if_neg (by omega)]; rfl
  | succ m ih =>
    rw [List.range_succ, List.map_append, List.sum_append, ih, List.map_append, List.sum_append]
    simp only [List.map_cons, List.map_nil, List.sum_cons, List.sum_nil, List.count_cons]
    by_cases e : x = (m : Int)
    · subst e
      have e1 : ¬ (0 ≤ (m : Int) ∧ (m : Int) < (m : Int)) := by omega
      have e2 : 0 ≤ (m : Int) ∧ (m : Int) < ((m + 1 : Nat) : Int) := by omega
      rw [if_neg e1, if_pos e2]
      simp; omega
    · have : ((x == (m : Int)) = true) = False := by simp [e]
      simp only [this, if_false]
      by_cases h : 0 ≤ x ∧ x < (m : Int)
      · rw [if_pos h, if_pos (by omega)]; omega
      · rw [if_neg h, if_neg (by omega)]; omega

theorem sum_counts (L : List Int) (m : Nat) (h : ∀ x ∈ L, 0 ≤ x ∧ x < (m : Int)) : ((List.range m).map fun i : Nat => L.count (i : Int)).sum = L.length := by
  induction L with
  | nil =>
    clear h
    induction m with
    | zero => rfl
    | succ m ih => rw [List.range_succ, List.map_append, List.sum_append, ih]; simp
  | cons x L ih =>
    rw [sum_counts_cons, ih fun y hy => h y (List.mem_cons_of_mem _ hy), if_pos (h x List.mem_cons_self)]; simp

theorem sum_ones (f : Nat → Nat) (m : Nat) (h : ∀ i, i < m → f i ≤ 1) : ((List.range m).map f).sum ≤ m ∧ (((List.range m).map f).sum = m ↔ ∀ i, i < m → f i = 1) := by
  induction m with
  | zero => simp
  | succ m ih =>
    obtain ⟨h1, h2⟩ := ih fun i hi => h i (by omega)
    have h3 := h m (by omega)
    rw [List.range_succ, List.map_append, List.sum_append]
    simp only [List.map_cons, List.map_nil, List.sum_cons, List.sum_nil]
    refine ⟨by omega, fun e => ?_, fun e => ?_⟩
    · have hm : ((List.range m).map f).sum = m := by omega
      have := h2.1 hm
      intro i hi
      rcases Nat.lt_or_ge i m with hlt | hge
      · exact this i hlt
      · obtain rfl : i = m := by omega
        omega
    · have := h2.2 fun i hi => e i (by omega)
      have := e m (by omega)
      omega

theorem marks_fin (L : List Int) (m : Nat) (hn : L.Nodup) (h : ∀ x ∈ L, 0 ≤ x ∧ x < (m : Int)) : L.length = m ↔ ∀ i, i < m → L.count (i : Int) = 1 := by
  have h1 := sum_ones (fun i : Nat => L.count (i : Int)) m fun i _ => by
    exact List.nodup_iff_count.1 hn _
  rw [← sum_counts L m h]
  exact h1.2

theorem validF_dup (ps : List Pt) (k m : Nat) (h : k < ps.length) (hm : m < (bel (ps.getD k default)).length) (t : Nat) (ht : (bel (ps.getD k default)).getD m 0 = (t : Int)) (htk : t < k)
    (hin : (t : Int) ∈ (ps.take k).flatMap bel ++ (bel (ps.getD k default)).take m) : validF ps = false := by
  refine validF_cnt ps t (by omega) ?_
  have hsplit : ps = ps.take (k + 1) ++ ps.drop (k + 1) := (List.take_append_drop _ _).symm
  have h1 : (ps.flatMap bel).count (t : Int) = ((ps.take (k + 1)).flatMap bel).count (t : Int) + ((ps.drop (k + 1)).flatMap bel).count (t : Int) := by
    conv => lhs; rw [hsplit]
    rw [List.flatMap_append, List.count_append]
  have h2 := take_flat ps k h
  have h3 : bel (ps.getD k default) = (bel (ps.getD k default)).take m ++ (bel (ps.getD k default)).drop m := (List.take_append_drop _ _).symm
  have h4 : (t : Int) ∈ (bel (ps.getD k default)).drop m := by
    rw [List.drop_eq_getElem_cons hm]
    refine List.mem_cons.2 (.inl ?_)
    rw [← ht]
    generalize bel (ps.getD k default) = M at *
    simp [List.getD, hm]
  have h5 : ((ps.take (k + 1)).flatMap bel).count (t : Int) = ((ps.take k).flatMap bel ++ (bel (ps.getD k default)).take m).count (t : Int) + ((bel (ps.getD k default)).drop m).count (t : Int) := by
    rw [h2]
    conv => lhs; rw [h3]
    rw [← List.append_assoc, List.count_append]
  have h6 := List.count_pos_iff.2 hin
  have h7 := List.count_pos_iff.2 h4
  omega

theorem take_succ_int (M : List Int) (m : Nat) (x : Int) (h : m < M.length) (hx : M.getD m 0 = x) : M.take (m + 1) = M.take m ++ [x] := by
  rw [List.take_succ_eq_append_getElem h, ← hx]; simp [List.getD, h]

/-- With good parts and no number twice: valid exactly if there are as many below as there are parts but one. -/
theorem validF_marks (ps : List Pt) (h1 : 1 ≤ ps.length) (h12 : ps.length ≤ 12) (hg : ∀ i, i < ps.length → goodPt (ps.getD i default) i = true) (hd : (ps.flatMap bel).Nodup) :
    validF ps = ((((ps.flatMap bel).length : Nat) : Int) == (ps.length : Int) - 1) := by
  have hr : ∀ x ∈ ps.flatMap bel, 0 ≤ x ∧ x < ((ps.length - 1 : Nat) : Int) := by
    intro x hx
    obtain ⟨p, hp, hxp⟩ := List.mem_flatMap.1 hx
    obtain ⟨i, hi, rfl⟩ := List.mem_iff_getElem.1 hp
    have := hg i hi
    rw [show ps.getD i default = ps[i] by simp [List.getD, hi]] at this
    have := good_bel _ _ this x hxp
    omega
  have hm := marks_fin _ _ hd hr
  have hrng : rng ps.length 1 12 = true := by simp [rng]; omega
  have hgd : decide (∀ i, i < ps.length → goodPt (ps.getD i default) i = true) = true := decide_eq_true hg
  unfold validF
  rw [hgd, hrng, Bool.eq_iff_iff]
  simp only [Bool.true_and, Bool.and_true, decide_eq_true_eq, beq_iff_eq]
  rw [← hm]
  omega
end Go.Proofs.Ytkmhpiojbocjkaa
