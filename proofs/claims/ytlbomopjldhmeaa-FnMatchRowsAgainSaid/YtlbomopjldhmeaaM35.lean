/- Plain facts on rows of keys: numbers are kept, new ones come from the free number on, and rows that stay are not made again. -/
import Derived.Test.YtlbomopjldhmeaaB14a

namespace Go.Proofs.Ytlbomopjldhmeaa
set_option linter.unusedSimpArgs false
set_option linter.unusedVariables false

/-- The row for a key. -/
def rowAt (rs : List Rk) (ys : List Int) (nx : Int) (k : Nat) : Rk := if ys.getD k 0 ∈ kyW rs then ⟨ys.getD k 0, idOf rs (ys.getD k 0)⟩ else ⟨ys.getD k 0, (mtc rs ys nx k).2⟩
theorem mtc_step (rs : List Rk) (ys : List Int) (nx : Int) (k : Nat) : (mtc rs ys nx (k + 1)).1 = (mtc rs ys nx k).1 ++ [rowAt rs ys nx k] ∧ (mtc rs ys nx (k + 1)).2 = if ys.getD k 0 ∈ kyW rs then (mtc rs ys nx k).2 else (mtc rs ys nx k).2 + 1 := by
  unfold rowAt
  by_cases h : ys.getD k 0 ∈ kyW rs
  · rw [mtc_yes _ _ _ _ h, if_pos h, if_pos h]; exact ⟨rfl, rfl⟩
  · rw [mtc_no _ _ _ _ h, if_neg h, if_neg h]; exact ⟨rfl, rfl⟩
theorem rowAt_key (rs : List Rk) (ys : List Int) (nx : Int) (k : Nat) : (rowAt rs ys nx k).k = ys.getD k 0 := by unfold rowAt; split <;> rfl
theorem mtc_get (rs : List Rk) (ys : List Int) (nx : Int) (n : Nat) : ∀ k, k < n → (mtc rs ys nx n).1.getD k default = rowAt rs ys nx k := by
  induction n with
  | zero => intro k h; omega
  | succ n ih =>
    intro k hk
    rw [(mtc_step rs ys nx n).1]
    have hl := (mtc_bd rs ys nx n).1
    by_cases h : k < n
    · rw [← ih k h]
      simp [List.getD, List.getElem?_append_left (show k < (mtc rs ys nx n).1.length by omega)]
    · obtain rfl : k = n := by omega
      simp [List.getD, List.getElem?_append_right (show (mtc rs ys nx k).1.length ≤ k by omega), hl]
theorem mtc_take (rs : List Rk) (ys : List Int) (nx : Int) (n : Nat) : ∀ k, k ≤ n → (mtc rs ys nx n).1.take k = (mtc rs ys nx k).1 := by
  induction n with
  | zero => intro k h; obtain rfl : k = 0 := by omega
            rfl
  | succ n ih =>
    intro k hk
    have hl := (mtc_bd rs ys nx n).1
    by_cases h : k = n + 1
    · subst h
      rw [List.take_of_length_le (by rw [(mtc_bd rs ys nx (n + 1)).1]; exact Nat.le_refl _)]
    · rw [(mtc_step rs ys nx n).1, List.take_append_of_le_length (by omega), ih k (by omega)]

theorem matchN_neg {rs : List Rk} {nx : Int} {ys : List Int} (h : matchB rs nx ys = false) : matchN rs nx ys = -1 := by unfold matchN; rw [h]; rfl
theorem match_parts {rs : List Rk} {nx : Int} {ys : List Int} (h : matchB rs nx ys = true) :
    (kyW rs).Nodup ∧ (idW rs).Nodup ∧ (∀ x ∈ idW rs, 0 ≤ x ∧ x ≤ nx - 1) ∧ validK ys = true ∧ 0 ≤ nx ∧ matchF rs nx ys = (mtc rs ys nx ys.length).1 ∧ matchN rs nx ys = (mtc rs ys nx ys.length).2 ∧ (mtc rs ys nx ys.length).2 ≤ 100 := by
  have h0 := h
  unfold matchB matchOK rowsOK at h
  simp only [Bool.and_eq_true, decide_eq_true_eq] at h
  obtain ⟨⟨⟨h1, h2, h3⟩, h4⟩, h5⟩ := h
  unfold difB at h3
  simp only [Bool.and_eq_true, decide_eq_true_eq] at h3
  refine ⟨(validK_parts h2).2.2, h3.2, fun x hx => ?_, h4, ?_, by unfold matchF; rw [if_pos h0], by unfold matchN; rw [if_pos h0], h5⟩
  · have h6 := h3.1
    unfold allR at h6
    rw [List.all_eq_true] at h6
    have := h6 x hx
    unfold rng at this
    simpa using this
  · unfold rng at h1
    simp at h1
    exact h1.1
theorem idOf_mem (rs : List Rk) (y : Int) (h : y ∈ kyW rs) : ∃ p, p < rs.length ∧ (rs.getD p default).k = y ∧ idOf rs y = (idW rs).getD p 0 ∧ idOf rs y ∈ idW rs := by
  obtain ⟨p, hp, hpl, hpy⟩ := plc_index _ _ h
  rw [kyW_len] at hpl
  have e : idOf rs y = (idW rs).getD p 0 := by rw [idW_get]; unfold idOf; rw [hp]; rfl
  refine ⟨p, hpl, by rw [← kyW_get]; exact hpy, e, ?_⟩
  rw [e]
  exact getD_memI _ _ (by rw [idW_len]; exact hpl)
theorem idOf_inj (rs : List Rk) (hi : (idW rs).Nodup) (y z : Int) (hy : y ∈ kyW rs) (hz : z ∈ kyW rs) (h : idOf rs y = idOf rs z) : y = z := by
  obtain ⟨p, hp, e1, e2, _⟩ := idOf_mem rs y hy
  obtain ⟨q, hq, f1, f2, _⟩ := idOf_mem rs z hz
  rw [e2, f2] at h
  have a1 := plc_nd _ hi p (by rw [idW_len]; exact hp)
  have a2 := plc_nd _ hi q (by rw [idW_len]; exact hq)
  rw [h, a2] at a1
  have : q = p := by omega
  subst this
  rw [← e1, ← f1]
theorem idW_snoc (l : List Rk) (p : Rk) : idW (l ++ [p]) = idW l ++ [p.a] := by simp [idW]
theorem kyW_snoc (l : List Rk) (p : Rk) : kyW (l ++ [p]) = kyW l ++ [p.k] := by simp [kyW]
theorem mtc_ids {rs : List Rk} {nx : Int} {ys : List Int} (hi : (idW rs).Nodup) (hr : ∀ x ∈ idW rs, 0 ≤ x ∧ x ≤ nx - 1) (hy : ys.Nodup) : ∀ k, k ≤ ys.length →
    (idW (mtc rs ys nx k).1).Nodup ∧ ∀ x ∈ idW (mtc rs ys nx k).1, (∃ j, j < k ∧ ys.getD j 0 ∈ kyW rs ∧ x = idOf rs (ys.getD j 0)) ∨ (nx ≤ x ∧ x < (mtc rs ys nx k).2) := by
  intro k
  induction k with
  | zero => intro _; exact ⟨List.nodup_nil, fun x hx => by simp [mtc, idW] at hx⟩
  | succ k ih =>
    intro hk
    obtain ⟨i1, i2⟩ := ih (by omega)
    rw [(mtc_step rs ys nx k).1, (mtc_step rs ys nx k).2, idW_snoc]
    by_cases h : ys.getD k 0 ∈ kyW rs
    · have e : (rowAt rs ys nx k).a = idOf rs (ys.getD k 0) := by unfold rowAt; rw [if_pos h]
      rw [e, if_pos h]
      obtain ⟨_, _, _, _, hm⟩ := idOf_mem rs _ h
      have hb := hr _ hm
      refine ⟨?_, fun x hx => ?_⟩
      · rw [List.nodup_append]
        refine ⟨i1, by simp, fun a ha b hb2 => ?_⟩
        rw [List.mem_singleton] at hb2
        subst hb2
        rintro rfl
        rcases i2 _ ha with ⟨j, hj, hjm, hje⟩ | ⟨h1, _⟩
        · have := idOf_inj rs hi _ _ h hjm hje
          have a1 := plc_nd ys hy k (by omega)
          have a2 := plc_nd ys hy j (by omega)
          rw [this, a2] at a1
          omega
        · omega
      · rw [List.mem_append] at hx
        rcases hx with hx | hx
        · rcases i2 x hx with ⟨j, hj, hjm, hje⟩ | h1
          · exact .inl ⟨j, by omega, hjm, hje⟩
          · exact .inr h1
        · rw [List.mem_singleton] at hx
          exact .inl ⟨k, by omega, h, hx⟩
    · have e : (rowAt rs ys nx k).a = (mtc rs ys nx k).2 := by unfold rowAt; rw [if_neg h]
      have hbd := (mtc_bd rs ys nx k).2.1
      rw [e, if_neg h]
      refine ⟨?_, fun x hx => ?_⟩
      · rw [List.nodup_append]
        refine ⟨i1, by simp, fun a ha b hb2 => ?_⟩
        rw [List.mem_singleton] at hb2
        subst hb2
        rintro rfl
        rcases i2 _ ha with ⟨j, hj, hjm, hje⟩ | ⟨_, h1⟩
        · obtain ⟨_, _, _, _, hm⟩ := idOf_mem rs _ hjm
          have := hr _ hm
          rw [← hje] at this
          omega
        · omega
      · rw [List.mem_append] at hx
        rcases hx with hx | hx
        · rcases i2 x hx with ⟨j, hj, hjm, hje⟩ | h1
          · exact .inl ⟨j, by omega, hjm, hje⟩
          · exact .inr ⟨h1.1, by omega⟩
        · rw [List.mem_singleton] at hx
          exact .inr ⟨by omega, by omega⟩
theorem mtc_keys (rs : List Rk) (ys : List Int) (nx : Int) : ∀ k, k ≤ ys.length → kyW (mtc rs ys nx k).1 = ys.take k := by
  intro k
  induction k with
  | zero => intro _; rfl
  | succ k ih =>
    intro hk
    have hg : ys[k]'(by omega) = ys.getD k 0 := by simp [List.getD, show k < ys.length by omega]
    rw [(mtc_step rs ys nx k).1, kyW_snoc, ih (by omega), rowAt_key, List.take_succ_eq_append_getElem (by omega), hg]
/-- What the law asks of each row, and of all numbers. -/
theorem match_facts {rs : List Rk} {nx : Int} {ys : List Int} (h : matchB rs nx ys = true) :
    matchF rs nx ys = (mtc rs ys nx ys.length).1 ∧ matchN rs nx ys = (mtc rs ys nx ys.length).2 ∧ (idW (matchF rs nx ys)).Nodup ∧ (matchF rs nx ys).length = ys.length ∧ 0 ≤ matchN rs nx ys ∧
      (∀ k, k < ys.length → ((matchF rs nx ys).getD k default).k = ys.getD k 0 ∧ (lid rs (ys.getD k 0) rs.length < 0 ∧ ((matchF rs nx ys).getD k default).a = (mtc rs ys nx k).2 ∧ (mtc rs ys nx (k + 1)).2 = (mtc rs ys nx k).2 + 1 ∨
        (¬ lid rs (ys.getD k 0) rs.length < 0 ∧ ((matchF rs nx ys).getD k default).a = lid rs (ys.getD k 0) rs.length ∧ (mtc rs ys nx (k + 1)).2 = (mtc rs ys nx k).2))) := by
  obtain ⟨h1, h2, h3, h4, h5, h6, h7, h8⟩ := match_parts h
  have hy := (validK_parts h4).2.2
  have hbd := mtc_bd rs ys nx ys.length
  rw [h6, h7]
  refine ⟨rfl, rfl, (mtc_ids h2 h3 hy ys.length (Nat.le_refl _)).1, hbd.1, by omega, fun k hk => ?_⟩
  rw [mtc_get rs ys nx ys.length k hk, rowAt_key]
  refine ⟨rfl, ?_⟩
  rw [lid_all rs _ h1, (mtc_step rs ys nx k).2]
  unfold rowAt
  by_cases hm : ys.getD k 0 ∈ kyW rs
  · obtain ⟨_, _, _, _, hi⟩ := idOf_mem rs _ hm
    have := h3 _ hi
    right
    rw [if_pos hm, if_pos hm, if_pos hm]
    exact ⟨by omega, rfl, rfl⟩
  · left
    rw [if_neg hm, if_neg hm, if_neg hm]
    exact ⟨by omega, rfl, rfl⟩
theorem match_again {rs : List Rk} {nx : Int} {ys : List Int} (h : matchB rs nx ys = true) : matchF (matchF rs nx ys) (matchN rs nx ys) ys = matchF rs nx ys ∧ matchN (matchF rs nx ys) (matchN rs nx ys) ys = matchN rs nx ys := by
  obtain ⟨h1, h2, h3, h4, h5, h6, h7, h8⟩ := match_parts h
  have hy := (validK_parts h4).2.2
  have hbd := mtc_bd rs ys nx ys.length
  obtain ⟨i1, i2⟩ := mtc_ids h2 h3 hy ys.length (Nat.le_refl _)
  have hky := mtc_keys rs ys nx ys.length (Nat.le_refl _)
  rw [List.take_of_length_le (Nat.le_refl _)] at hky
  rw [h6, h7]
  generalize hO : (mtc rs ys nx ys.length).1 = O at *
  generalize hf : (mtc rs ys nx ys.length).2 = f at *
  have key : ∀ k, k ≤ ys.length → mtc O ys f k = (O.take k, f) := by
    intro k
    induction k with
    | zero => intro _; rfl
    | succ k ih =>
      intro hk
      have hm : ys.getD k 0 ∈ kyW O := by rw [hky]; exact getD_memI _ _ (by omega)
      have hid : idOf O (ys.getD k 0) = (O.getD k default).a := by
        unfold idOf
        rw [hky, plc_nd ys hy k (by omega)]; rfl
      have hkk : (O.getD k default).k = ys.getD k 0 := by rw [← kyW_get, hky]
      rw [mtc_yes _ _ _ _ hm, ih (by omega), hid]
      have hol : k < O.length := by omega
      rw [List.take_succ_eq_append_getElem hol]
      have hg : O[k] = O.getD k default := by simp [List.getD, hol]
      rw [hg]
      have : (⟨ys.getD k 0, (O.getD k default).a⟩ : Rk) = O.getD k default := by rw [← hkk]
      rw [this]
  have hrow : rowsOK O f = true := by
    unfold rowsOK difB rng
    rw [hky, h4, decide_eq_true i1, decide_eq_true (show 0 ≤ f ∧ f ≤ 100 by omega)]
    have : allR (idW O) 0 (f - 1) = true := by
      unfold allR
      rw [List.all_eq_true]
      intro x hx
      unfold rng
      refine decide_eq_true ?_
      rcases i2 x hx with ⟨j, hj, hjm, hje⟩ | ⟨a1, a2⟩
      · obtain ⟨_, _, _, _, hm⟩ := idOf_mem rs _ hjm
        have := h3 _ hm
        rw [← hje] at this
        omega
      · omega
    rw [this]; rfl
  have hfin := key ys.length (Nat.le_refl _)
  have hot : O.take ys.length = O := List.take_of_length_le (by omega)
  rw [hot] at hfin
  have hB : matchB O f ys = true := by
    unfold matchB matchOK
    rw [hrow, h4, hfin, decide_eq_true h8]; rfl
  exact ⟨by unfold matchF; rw [if_pos hB, hfin], by unfold matchN; rw [if_pos hB, hfin]⟩
end Go.Proofs.Ytlbomopjldhmeaa
