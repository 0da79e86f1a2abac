/- Plain facts for the walk of the law on what may run. -/
import Derived.Test.YtdhjflhpenkchaaM27
import Derived.Test.YtdhjflhpenkchaaM26
import Derived.Test.YtdhjflhpenkchaaH23

namespace Go.Proofs.Ytdhjflhpenkchaa
set_option linter.unusedSimpArgs false
set_option linter.unusedVariables false
open Go.RowKit

/-- What some nodes reach is what one of them reaches. -/
theorem reach_any (gs : List Nd) (hv : validG gs = true) (st : List Int) (hst : stOK gs st) (i : Nat) (hi : i < gs.length) : decide ((i : Int) ∈ reachTo gs st gs.length) = st.any fun x => rchd gs x.toNat i := by
  rw [Bool.eq_iff_iff, List.any_eq_true]
  constructor
  · intro h
    have := reach_min gs hv st (fun j => st.any fun x => rchd gs x.toNat j) (fun j hj y hy => by
      simp only [List.any_eq_true] at hj ⊢
      obtain ⟨x, hx, h1⟩ := hj
      exact ⟨x, hx, rchd_cl gs hv _ j h1 y hy⟩) (fun x hx hxl => by
      simp only [List.any_eq_true]
      exact ⟨_, hx, by rw [Int.toNat_natCast]; exact rchd_self gs x hxl⟩) i (of_decide_eq_true h)
    simpa only [List.any_eq_true] using this
  · rintro ⟨x, hx, h⟩
    obtain ⟨h0, h1⟩ := hst x hx
    exact rchd_min gs hv x.toNat (fun j => decide ((j : Int) ∈ reachTo gs st gs.length)) (reach_cl gs hv st) (decide_eq_true ((reachTo_iff gs _ _ _ (by omega)).2 (.inl (by rw [Int.toNat_of_nonneg h0]; exact hx)))) i h

/-- All that the first of some nodes reach. -/
def allR2 (gs : List Nd) (L : List Int) : List Int := L.flatMap fun r => reachF gs r
theorem allR2_step (gs : List Nd) (L : List Int) (k : Nat) (hk : k < L.length) : allR2 gs (L.take (k + 1)) = allR2 gs (L.take k) ++ reachF gs (L.getD k 0) := by
  unfold allR2
  have e : L[k] = L.getD k 0 := by simp [List.getD, hk]
  rw [List.take_succ_eq_append_getElem hk, List.flatMap_append, e]
  simp
theorem allR2_len (gs : List Nd) (L : List Int) : (allR2 gs L).length ≤ 10 * L.length := by
  induction L with
  | nil => simp [allR2]
  | cons x r ih =>
    have h1 := reachF_len gs x
    have e : allR2 gs (x :: r) = reachF gs x ++ allR2 gs r := by simp [allR2]
    rw [e, List.length_append, List.length_cons]; omega
theorem allR2_mem (gs : List Nd) (hv : validG gs = true) (L : List Int) (hL : stOK gs L) (i : Nat) (hi : i < gs.length) : decide ((i : Int) ∈ allR2 gs L) = L.any fun x => rchd gs x.toNat i := by
  rw [Bool.eq_iff_iff, List.any_eq_true, decide_eq_true_iff]
  unfold allR2
  rw [List.mem_flatMap]
  constructor
  · rintro ⟨x, hx, h⟩
    obtain ⟨h0, h1⟩ := hL x hx
    refine ⟨x, hx, ?_⟩
    have := reachF_mem gs x.toNat i (hasB_nat gs hv x.toNat (by omega)) hi
    rw [Int.toNat_of_nonneg h0, decide_eq_true h] at this
    exact this.symm
  · rintro ⟨x, hx, h⟩
    obtain ⟨h0, h1⟩ := hL x hx
    refine ⟨x, hx, ?_⟩
    have := reachF_mem gs x.toNat i (hasB_nat gs hv x.toNat (by omega)) hi
    rw [Int.toNat_of_nonneg h0, h] at this
    exact of_decide_eq_true this
theorem may_facts (gs : List Nd) (xs : List Int) (h : mrB gs xs = true) :
    (∀ i, i < gs.length → decide ((i : Int) ∈ mrF gs xs) = (decide ((i : Int) ∈ allR2 gs xs) && !((gs.getD i default).k == 0))) ∧
    (∀ j, j + 1 < (mrF gs xs).length → (mrF gs xs).getD j 0 < (mrF gs xs).getD (j + 1) 0) ∧ xs.length ≤ 10 ∧ stOK gs xs := by
  have h' := h
  rw [mrB_eq, Bool.and_eq_true] at h'
  obtain ⟨hv, hw⟩ := h'
  have hst := (wrB_parts gs xs hw).2
  have e : mrF gs xs = (reachTo gs xs gs.length).filter (ncB gs) := by unfold mrF; rw [h]; rfl
  refine ⟨fun i hi => ?_, ?_, ?_, hst⟩
  · rw [e, allR2_mem gs hv xs hst i hi, ← reach_any gs hv xs hst i hi, Bool.eq_iff_iff]
    simp only [decide_eq_true_iff, List.mem_filter, Bool.and_eq_true]
    unfold ncB
    rw [Int.toNat_natCast]
  · rw [e]
    intro j hj
    have hp : ((reachTo gs xs gs.length).filter (ncB gs)).Pairwise (· < ·) := by
      refine List.Pairwise.filter _ ?_
      rw [reachTo_nwTo gs xs gs.length gs.length (Nat.le_refl _)]
      unfold nwTo
      rw [List.pairwise_map]
      exact List.Pairwise.imp (fun h => by omega) (List.Pairwise.filter _ List.pairwise_lt_range)
    generalize (reachTo gs xs gs.length).filter (ncB gs) = M at *
    have := List.pairwise_iff_getElem.1 hp j (j + 1) (by omega) hj (by omega)
    simpa [List.getD, show j < M.length from by omega, hj] using this
  · have := wrB_len gs xs hw
    have := (validG_parts gs hv).1
    omega
end Go.Proofs.Ytdhjflhpenkchaa
