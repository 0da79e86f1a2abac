/- Plain facts on the lazy machine's first state. -/
import Derived.Test.YtbnioefhfpahcaaS1

namespace Go.Proofs.Ytbnioefhfpahcaa
set_option linter.unusedSimpArgs false
set_option linter.unusedVariables false
open Go.RowKit

theorem colsTo_get (gs : List Nd) (i : Nat) (h : i < gs.length) : (colsTo gs gs.length).getD i 0 = colOf (gs.getD i default) := by
  unfold colsTo
  simp [List.getD, h]
theorem lz_is (gs : List Nd) (xs : List Int) (h : okC gs xs = true) : startL gs xs = lazyOfL gs xs := by
  unfold startL
  rw [h]
  rfl
theorem lz_valid (gs : List Nd) (xs : List Int) (h : okC gs xs = true) : validL gs (startL gs xs) = true := by
  obtain ⟨hg, hc⟩ := okC_parts gs xs h
  obtain ⟨hl, hco⟩ := validC_parts gs xs hc
  rw [lz_is gs xs h]
  unfold validL
  rw [hg, decide_eq_true (show (lazyOfL gs xs).vs.length = gs.length from hl), decide_eq_true (show (lazyOfL gs xs).rs.length = gs.length by simp [lazyOfL, noReads]), decide_eq_true (show (lazyOfL gs xs).cs.length = gs.length from colsTo_len _ _ (Nat.le_refl _))]
  simp only [Bool.true_and, Bool.and_eq_true]
  refine ⟨allR_true _ _ _ fun k hk => ?_, allR_true _ _ _ fun k hk => ?_, allL_fin _ _ fun i hi => ?_⟩
  · have hk' : k < xs.length := hk
    have := cellOK_bd gs xs k (hco k (by omega))
    exact decide_eq_true this
  · have hk' : k < (colsTo gs gs.length).length := hk
    rw [colsTo_len _ _ (Nat.le_refl _)] at hk'
    show rng ((colsTo gs gs.length).getD k 0) 0 2 = true
    rw [colsTo_get gs k hk']
    unfold colOf
    split <;> rfl
  · have e : (lazyOfL gs xs).rs.getD i [] = [] := List.eq_nil_of_length_eq_zero (noReads_len gs.length i)
    have ec : (lazyOfL gs xs).cs.getD i 0 = colOf (gs.getD i default) := colsTo_get gs i hi
    unfold colOK
    rw [e, ec]
    unfold colOf
    cases hk : ((gs.getD i default).k == 0)
    · simp [apartL, inL]
    · simp
theorem nwTo_mem (P : Nat → Bool) (n i : Nat) : ((i : Int) ∈ nwTo P n) ↔ i < n ∧ P i = true := by
  unfold nwTo
  simp only [List.mem_map, List.mem_filter, List.mem_range]
  constructor
  · rintro ⟨a, ⟨h1, h2⟩, h3⟩
    obtain rfl : a = i := by omega
    exact ⟨h1, h2⟩
  · rintro ⟨h1, h2⟩
    exact ⟨i, ⟨h1, h2⟩, rfl⟩
theorem lz_stale (gs : List Nd) (xs : List Int) (h : okC gs xs = true) (i : Nat) (hi : i < gs.length) : decide ((i : Int) ∈ staleF gs (startL gs xs)) = !((gs.getD i default).k == 0) := by
  unfold staleF
  rw [lz_valid gs xs h, if_pos rfl, Bool.eq_iff_iff, decide_eq_true_iff, nwTo_mem, lz_is gs xs h]
  unfold staleB
  rw [show (lazyOfL gs xs).cs.getD i 0 = colOf (gs.getD i default) from colsTo_get gs i hi]
  unfold colOf
  cases hk : ((gs.getD i default).k == 0)
  · simp [hi]
  · simp
theorem lz_cells (gs : List Nd) (xs : List Int) (h : okC gs xs = true) : lcellsF gs (startL gs xs) = xs := by
  obtain ⟨hg, hc⟩ := okC_parts gs xs h
  obtain ⟨hl, hco⟩ := validC_parts gs xs hc
  unfold lcellsF
  rw [lz_valid gs xs h, if_pos rfl, lz_is gs xs h]
  show celTo gs xs gs.length = xs
  apply List.ext_getElem?
  intro j
  by_cases hj : j < xs.length
  · rw [celTo_get gs xs gs.length j hj]
    have hcj := hco j (by omega)
    have hx : xs[j]? = some (xs.getD j 0) := by simp [List.getD, hj]
    rw [hx]
    cases hk : ((gs.getD j default).k == 0)
    · unfold cellOK at hcj
      rw [hk] at hcj
      simp only [Bool.false_or, Bool.and_eq_true, beq_iff_eq] at hcj
      rw [if_pos ⟨by omega, rfl⟩, hcj.2]
    · simp
  · rw [List.getElem?_eq_none (by rw [celTo_len]; omega), List.getElem?_eq_none (by omega)]
end Go.Proofs.Ytbnioefhfpahcaa
