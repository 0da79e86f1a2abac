/- Plain facts for the walks of the laws on ways in graphs: first and last ones, what lies within. -/
import Derived.Test.YtdhjflhpenkchaaM26
import Derived.Test.YtdhjflhpenkchaaH6

namespace Go.Proofs.Ytdhjflhpenkchaa
set_option linter.unusedSimpArgs false
set_option linter.unusedVariables false
open Go.RowKit

theorem nwTo_none' (P : Nat → Bool) (n : Nat) (h : ∀ i, i < n → P i = false) : nwTo P n = [] := by
  unfold nwTo
  rw [List.map_eq_nil_iff, List.filter_eq_nil_iff]
  intro u hu
  rw [h u (List.mem_range.1 hu)]; simp
theorem nwTo_head (P : Nat → Bool) (n t : Nat) (ht : t < n) (hp : P t = true) (hm : ∀ i, P i = true → t ≤ i) : (nwTo P n).getD 0 0 = t ∧ 0 < (nwTo P n).length := by
  induction n with
  | zero => omega
  | succ n ih =>
    rw [nwTo_step]
    rcases Nat.lt_or_ge t n with h1 | h1
    · obtain ⟨a, b⟩ := ih h1
      exact ⟨by rw [← a]; simp [List.getD, List.getElem?_append_left b], by rw [List.length_append]; omega⟩
    · have : t = n := by omega
      subst this
      rw [nwTo_none' P t fun i hi => by
        cases h2 : P i
        · rfl
        · have := hm i h2; omega, hp]
      simp
theorem nwTo_last (P : Nat → Bool) (n t : Nat) (ht : t < n) (hp : P t = true) (hm : ∀ i, P i = true → i ≤ t) : (nwTo P n).getD ((nwTo P n).length - 1) 0 = t ∧ 0 < (nwTo P n).length := by
  induction n with
  | zero => omega
  | succ n ih =>
    rw [nwTo_step]
    rcases Nat.lt_or_ge t n with h1 | h1
    · have : P n = false := by
        cases h2 : P n
        · rfl
        · have := hm n h2; omega
      rw [this]
      simpa using ih h1
    · have : t = n := by omega
      subst this
      rw [hp]
      simp [List.getD]

theorem reach_facts (gs : List Nd) (hv : validG gs = true) (t : Nat) (ht : t < gs.length) :
    (∀ i, i < gs.length → decide ((i : Int) ∈ reachF gs t) = decide ((t : Int) ∈ needF gs i)) ∧ (∀ i : Nat, i < gs.length → (i : Int) ∈ reachF gs t → ∀ x ∈ usersF gs i, x ∈ reachF gs t) ∧
    (∀ j, j + 1 < (reachF gs t).length → (reachF gs t).getD j 0 < (reachF gs t).getD (j + 1) 0) ∧ (reachF gs t).getD 0 0 = t ∧ 0 < (reachF gs t).length := by
  have hb := hasB_nat gs hv t ht
  refine ⟨fun i hi => ?_, fun i hi hm x hx => ?_, fun j hj => ?_, ?_⟩
  · rw [reachF_mem gs t i hb hi, needF_mem gs i t (hasB_nat gs hv i hi) ht, dual gs hv t i ht hi]
  · have h1 := reachF_mem gs t i hb hi
    rw [decide_eq_true hm] at h1
    rw [usersF_at gs i (hasB_nat gs hv i hi)] at hx
    obtain ⟨h0, h2⟩ := nwTo_ok _ _ x hx
    obtain ⟨q, rfl⟩ : ∃ q : Nat, x = (q : Int) := ⟨x.toNat, by omega⟩
    rw [nwTo_mem] at hx
    have := rchd_cl gs hv t i h1.symm q ((mem_usN _ _ _ _).2 ⟨hx.1, of_decide_eq_true hx.2⟩)
    have h3 := reachF_mem gs t q hb hx.1
    rw [this] at h3
    exact of_decide_eq_true h3
  · rw [reachF_at gs t hb] at hj ⊢
    exact nwTo_asc _ _ j hj
  · rw [reachF_at gs t hb]
    exact nwTo_head (rchd gs t) gs.length t ht (rchd_self gs t ht) fun i h => reach_le gs hv t i h

/-- What is needed for the first reads of a node, and the node. -/
def allN (gs : List Nd) (t : Nat) (L : List Int) : List Int := [(t : Int)] ++ L.flatMap fun r => needF gs r
theorem allN_step (gs : List Nd) (t : Nat) (L : List Int) (k : Nat) (hk : k < L.length) : allN gs t (L.take (k + 1)) = allN gs t (L.take k) ++ needF gs (L.getD k 0) := by
  unfold allN
  rw [List.take_succ_eq_append_getElem hk, List.flatMap_append, List.append_assoc]
  simp [List.getD, hk]
theorem allN_len (gs : List Nd) (t : Nat) (L : List Int) : (allN gs t L).length ≤ 1 + 10 * L.length := by
  unfold allN
  rw [List.length_append]
  induction L with
  | nil => simp
  | cons x l ih =>
    have := needF_len gs x
    simp only [List.flatMap_cons, List.length_append, List.length_cons, List.length_nil] at *
    omega
theorem need_facts (gs : List Nd) (hv : validG gs = true) (t : Nat) (ht : t < gs.length) :
    (∀ x ∈ allN gs t (mayF (gs.getD t default).ps), x ∈ needF gs t) ∧ (∀ x ∈ needF gs t, x ∈ allN gs t (mayF (gs.getD t default).ps)) ∧
    (∀ j, j + 1 < (needF gs t).length → (needF gs t).getD j 0 < (needF gs t).getD (j + 1) 0) ∧ (needF gs t).getD ((needF gs t).length - 1) 0 = t ∧ 0 < (needF gs t).length := by
  have hb := hasB_nat gs hv t ht
  rw [mayF_valid gs t hv ht]
  have hself : (t : Int) ∈ needF gs t := by
    have := needF_mem gs t t hb ht
    rw [ndd_self gs hv t ht] at this
    exact of_decide_eq_true this
  refine ⟨fun x hx => ?_, fun x hx => ?_, fun j hj => ?_, ?_⟩
  · unfold allN at hx
    rcases List.mem_append.1 hx with h | h
    · simp at h; subst h; exact hself
    · obtain ⟨r, hr, hx⟩ := List.mem_flatMap.1 h
      obtain ⟨h0, h1⟩ := mayR_ahead gs t hv ht r hr
      obtain ⟨q, rfl⟩ : ∃ q : Nat, r = (q : Int) := ⟨r.toNat, by omega⟩
      rw [needF_at gs q (hasB_nat gs hv q (by omega))] at hx
      obtain ⟨h2, h3⟩ := nwTo_ok _ _ x hx
      obtain ⟨i, rfl⟩ : ∃ i : Nat, x = (i : Int) := ⟨x.toNat, by omega⟩
      rw [nwTo_mem] at hx
      have := needF_mem gs t i hb hx.1
      rw [(need_step gs hv t i ht).2 (.inr ⟨q, (mem_rdsN gs hv t q ht).2 hr, hx.2⟩)] at this
      exact of_decide_eq_true this
  · rw [needF_at gs t hb] at hx
    obtain ⟨h2, h3⟩ := nwTo_ok _ _ x hx
    obtain ⟨i, rfl⟩ : ∃ i : Nat, x = (i : Int) := ⟨x.toNat, by omega⟩
    rw [nwTo_mem] at hx
    unfold allN
    rcases (need_step gs hv t i ht).1 hx.2 with rfl | ⟨r, hr, h⟩
    · simp
    · refine List.mem_append_right _ (List.mem_flatMap.2 ⟨r, (mem_rdsN gs hv t r ht).1 hr, ?_⟩)
      have hrt := rdsN_lt gs hv t r ht hr
      have := needF_mem gs r i (hasB_nat gs hv r (by omega)) hx.1
      rw [h] at this
      exact of_decide_eq_true this
  · rw [needF_at gs t hb] at hj ⊢
    exact nwTo_asc _ _ j hj
  · rw [needF_at gs t hb]
    exact nwTo_last (ndd gs t) gs.length t ht (ndd_self gs hv t ht) fun i h => ndd_le gs hv t i ht h
theorem reachF_none (gs : List Nd) (x : Int) (h : hasB gs x = false) : reachF gs x = [] := by unfold reachF; rw [h]; rfl
theorem needF_none (gs : List Nd) (x : Int) (h : hasB gs x = false) : needF gs x = [] := by unfold needF; rw [h]; rfl
theorem watch_asc (gs : List Nd) (hv : validG gs = true) : ∀ j, j + 1 < (watchF gs).length → (watchF gs).getD j 0 < (watchF gs).getD (j + 1) 0 := by
  have e : watchF gs = nwTo (fun i => (metF gs (effs gs)).getD i false) gs.length := by unfold watchF; rw [hv]; rfl
  rw [e]
  exact fun j hj => nwTo_asc _ _ j hj
end Go.Proofs.Ytdhjflhpenkchaa
