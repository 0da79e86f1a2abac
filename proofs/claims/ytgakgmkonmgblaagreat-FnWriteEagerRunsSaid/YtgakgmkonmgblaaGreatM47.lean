/- Plain facts for the law on what runs when an eager machine is written. -/
import Derived.Test.YtgakgmkonmgblaaGreatAb
import Derived.Test.YtgakgmkonmgblaaGreatM45

namespace Go.Proofs.YtgakgmkonmgblaaGreat
set_option linter.unusedSimpArgs false
set_option linter.unusedVariables false
open Go.RowKit

/-- What is not written stays. -/
theorem wrC_not {a xs ys : List Int} {i : Nat} (h : ∀ k, k < xs.length → (xs.getD k 0).toNat ≠ i) : ∀ k, k ≤ xs.length → (wrC a xs ys k).getD i 0 = a.getD i 0 := by
  intro k
  induction k with
  | zero => intro _; rfl
  | succ k ih =>
    intro hk
    rw [wrC]
    have := h k (by omega)
    rw [← ih (by omega)]
    generalize (xs.getD k 0).toNat = q at *
    simp [List.getD, List.getElem?_set, if_neg this]
theorem mem_getD0 {xs : List Int} {k : Nat} (h : k < xs.length) : xs.getD k 0 ∈ xs := by
  have : xs.getD k 0 = xs[k] := by simp [List.getD, h]
  rw [this]; exact List.getElem_mem h
/-- What runs is reached from what is written. -/
theorem runs_in {gs : List Nd} {st : Eg} {xs ys : List Int} (h : wrtB gs st xs ys = true) : ∀ x ∈ writeR gs st xs ys, x ∈ mrF gs xs := by
  obtain ⟨h1, h2, h3, h4, h5⟩ := write_facts h
  have hw : gwB gs xs ys = true := by unfold wrtB at h; rw [Bool.and_eq_true] at h; exact h.2
  obtain ⟨g1, g2, g3, g4, g5⟩ := gw_parts hw
  have hv := (okC_parts gs _ h2).1
  have hmr : mrB gs xs = true := by rw [mrB_eq, hv, wrB_yes gs xs g5 g4]; rfl
  intro x hx
  rw [h5] at hx
  unfold mustF at hx
  generalize cellsF gs st = C at *
  have hcb : chgB gs C (wrC C xs ys xs.length) = true := by
    cases hc : chgB gs C (wrC C xs ys xs.length)
    · rw [hc] at hx; simp at hx
    · rfl
  rw [hcb, if_pos rfl] at hx
  unfold nwTo at hx
  obtain ⟨i, hi, rfl⟩ := List.mem_map.1 hx
  obtain ⟨hi1, hi2⟩ := List.mem_filter.1 hi
  have hil := List.mem_range.1 hi1
  unfold mustP at hi2
  rw [Bool.and_eq_true] at hi2
  obtain ⟨hk0, hm⟩ := hi2
  have hk : ((gs.getD i default).k == 0) = false := by simpa using hk0
  unfold meetB at hm
  rw [List.any_eq_true] at hm
  obtain ⟨u', hu', hd⟩ := hm
  have hd := of_decide_eq_true hd
  unfold depF at hu'
  rw [hk] at hu'
  simp only [Bool.false_eq_true, if_false] at hu'
  have hr := (rds_in gs C h2 i hil hk).2 _ ((firsts_mem _ _).1 hu')
  have hb := mayR_ahead gs i hv hil _ hr
  obtain ⟨u, rfl⟩ : ∃ u : Nat, u' = (u : Int) := ⟨u'.toNat, by omega⟩
  have hne := diffTo_iff _ _ _ _ hd
  have hS : ClS (rdsN gs) fun j => !(decide (j < gs.length ∧ (j : Int) ∈ reachTo gs xs gs.length)) := by
    intro j hj y hy
    simp only [Bool.not_eq_true', decide_eq_false_iff_not] at hj ⊢
    rintro ⟨hy1, hy2⟩
    rcases Nat.lt_or_ge j gs.length with hjl | hjl
    · have hmr2 := (mem_rdsN gs hv j y hjl).1 hy
      have := reach_cl gs hv xs y (decide_eq_true hy2) j ((mem_usN _ _ _ _).2 ⟨hjl, hmr2⟩)
      exact hj ⟨hjl, of_decide_eq_true this⟩
    · unfold rdsN at hy
      have : gs.getD j default = default := by simp [List.getD, hjl]
      rw [this] at hy
      have e : mayR (default : Nd).ps = [] := by decide
      rw [e] at hy
      simp at hy
  have hu : (u : Int) ∈ reachTo gs xs gs.length := by
    apply Classical.byContradiction
    intro hn
    refine hne (mean_agree gs C _ h2 h3 _ hS (fun j hj hs hkj => ?_) u (by omega) ?_)
    · refine (wrC_not (fun k hkx e => ?_) _ (Nat.le_refl _)).symm
      simp only [Bool.not_eq_true', decide_eq_false_iff_not] at hs
      obtain ⟨q, e1, hq, -⟩ := isC_at (g5 k hkx)
      rw [e1, Int.toNat_natCast] at e
      subst e
      exact hs ⟨hq, (reachTo_iff gs xs _ q hq).2 (.inl (by rw [← e1]; exact mem_getD0 hkx))⟩
    · simp only [Bool.not_eq_true', decide_eq_false_iff_not]
      exact fun h => hn h.2
  have hri : (i : Int) ∈ reachTo gs xs gs.length := by
    have := reach_cl gs hv xs u (decide_eq_true hu) i ((mem_usN _ _ _ _).2 ⟨hil, hr⟩)
    exact of_decide_eq_true this
  unfold mrF
  rw [hmr, if_pos rfl, List.mem_filter]
  refine ⟨hri, ?_⟩
  unfold ncB
  rw [Int.toNat_natCast]
  exact hk0
end Go.Proofs.YtgakgmkonmgblaaGreat
