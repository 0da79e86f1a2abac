/- More plain facts for the walks of the laws on ways in graphs: watched nodes, heights. -/
import Derived.Test.YtdhjflhpenkchaaH9
import Derived.Test.YtdhjflhpenkchaaM27

namespace Go.Proofs.Ytdhjflhpenkchaa
set_option linter.unusedSimpArgs false
set_option linter.unusedVariables false
open Go.RowKit

/-- Whether one of the first of some nodes is an effect. -/
def effA (gs : List Nd) (L : List Int) (j : Nat) : Bool := (L.take j).any fun x => (gs.getD x.toNat default).k == 2
theorem effA_zero (gs : List Nd) (L : List Int) : effA gs L 0 = false := by unfold effA; simp
theorem effA_step (gs : List Nd) (L : List Int) (j q : Nat) (hj : j < L.length) (hq : L.getD j 0 = (q : Int)) : effA gs L (j + 1) = (effA gs L j || ((gs.getD q default).k == 2)) := by
  unfold effA
  rw [List.take_succ_eq_append_getElem hj, List.any_append]
  have : L[j] = (q : Int) := by rw [← hq]; simp [List.getD, hj]
  rw [this]
  simp only [List.any_cons, List.any_nil, Bool.or_false, Int.toNat_natCast]
theorem effA_all (gs : List Nd) (hv : validG gs = true) (i : Nat) (hi : i < gs.length) : effA gs (reachF gs i) (reachF gs i).length = decide ((i : Int) ∈ watchF gs) := by
  unfold effA
  rw [List.take_length, watch_iff gs hv i hi]
theorem reachF_ok (gs : List Nd) (i : Nat) (hi : i < gs.length) (hv : validG gs = true) (j : Nat) (hj : j < (reachF gs i).length) : ∃ q : Nat, (reachF gs i).getD j 0 = (q : Int) ∧ q < gs.length := by
  have hm : (reachF gs i).getD j 0 ∈ reachF gs i := by simp [List.getD, hj]
  rw [reachF_at gs i (hasB_nat gs hv i hi)] at hm ⊢
  obtain ⟨h0, h1⟩ := nwTo_ok _ _ _ hm
  exact ⟨((nwTo (rchd gs i) gs.length).getD j 0).toNat, by omega, by omega⟩
theorem height_facts (gs : List Nd) (hv : validG gs = true) (i : Nat) (hi : i < gs.length) :
    (∀ j, j < (usersF gs i).length → ∃ u : Nat, (usersF gs i).getD j 0 = (u : Int) ∧ u < gs.length ∧ (htF gs).getD i 0 < (htF gs).getD u 0) ∧
    (((htF gs).getD i 0 == 0) != (((needF gs i).length : Int) == 1)) = false ∧ 0 ≤ (htF gs).getD i 0 ∧ (htF gs).getD i 0 ≤ i := by
  have e : htF gs = htTo gs gs.length := by unfold htF; rw [hv]; rfl
  have hb := hasB_nat gs hv i hi
  rw [e]
  refine ⟨fun j hj => ?_, ?_, ht_le gs hv i hi⟩
  · have hm : (usersF gs i).getD j 0 ∈ usersF gs i := by simp [List.getD, hj]
    rw [usersF_at gs i hb] at hm ⊢
    obtain ⟨h0, h1⟩ := nwTo_ok _ _ _ hm
    obtain ⟨u, hu⟩ : ∃ u : Nat, (nwTo (fun u => decide ((i : Int) ∈ mayR (gs.getD u default).ps)) gs.length).getD j 0 = (u : Int) := ⟨((nwTo (fun u => decide ((i : Int) ∈ mayR (gs.getD u default).ps)) gs.length).getD j 0).toNat, by omega⟩
    rw [hu] at hm
    rw [nwTo_mem] at hm
    exact ⟨u, hu, hm.1, ht_user gs hv i u ((mem_usN _ _ _ _).2 ⟨hm.1, of_decide_eq_true hm.2⟩)⟩
  · have h1 := ht_zero gs hv i hi
    have h2 := need_one gs hv i hi
    by_cases hr : mayR (gs.getD i default).ps = []
    · have a := h1.2 hr
      have b := h2.2 hr
      rw [a, b]; rfl
    · have a : ¬ (htTo gs gs.length).getD i 0 = 0 := fun h => hr (h1.1 h)
      have b : ¬ (needF gs i).length = 1 := fun h => hr (h2.1 h)
      have a' : ((htTo gs gs.length).getD i 0 == 0) = false := by simpa using a
      have b' : (((needF gs i).length : Int) == 1) = false := by simp; omega
      rw [a', b']; rfl
theorem htF_len2 (gs : List Nd) (hv : validG gs = true) : (htF gs).length = gs.length := by
  unfold htF; rw [hv]; exact htTo_len gs gs.length
end Go.Proofs.Ytdhjflhpenkchaa
