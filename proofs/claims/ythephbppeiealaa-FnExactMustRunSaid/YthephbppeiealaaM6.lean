/- Plain facts on states of the eager machine. -/
import Derived.Test.YthephbppeiealaaE1
namespace Go.Proofs.Ythephbppeiealaa
set_option linter.unusedSimpArgs false
set_option linter.unusedVariables false

/-- The value of a node that runs with some values. -/
def valE (gs : List Nd) (vs : List Int) (i : Nat) : Int := if (gs.getD i default).k == 0 then vs.getD i 0 else (whole (gs.getD i default).ps).ev vs
def okE (gs : List Nd) (st : Eg) (i : Nat) : Bool := (valE gs st.vs i == st.vs.getD i 0) && decide (depF gs st.vs i = st.rs.getD i [])
def allE (gs : List Nd) (st : Eg) : Bool := decide (∀ i, i < gs.length → okE gs st i = true)
def validE (gs : List Nd) (st : Eg) : Bool := validG gs && (decide (st.vs.length = gs.length) && (decide (st.rs.length = gs.length) && (allR st.vs 0 999 && allE gs st)))

theorem validE_parts (gs : List Nd) (st : Eg) (h : validE gs st = true) : validG gs = true ∧ st.vs.length = gs.length ∧ st.rs.length = gs.length ∧ allR st.vs 0 999 = true ∧ ∀ i, i < gs.length → okE gs st i = true := by
  unfold validE allE at h
  simp only [Bool.and_eq_true, decide_eq_true_eq] at h
  exact ⟨h.1, h.2.1, h.2.2.1, h.2.2.2.1, h.2.2.2.2⟩

theorem allE_bad (gs : List Nd) (st : Eg) (i : Nat) (hi : i < gs.length) (h : okE gs st i = false) : allE gs st = false := by
  unfold allE
  rw [decide_eq_false_iff_not]
  intro hh
  rw [hh i hi] at h
  cases h
theorem allE_fin (gs : List Nd) (st : Eg) (h : ∀ i, i < gs.length → okE gs st i = true) : allE gs st = true := by
  unfold allE
  exact decide_eq_true h

theorem eager_canEv (gs : List Nd) (vs : List Int) (i : Nat) (hg : validG gs = true) (hl : vs.length = gs.length) (hr : allR vs 0 999 = true) (hi : i < gs.length) (hk : ((gs.getD i default).k == 0) = false) : canEv (gs.getD i default).ps vs = true := by
  obtain ⟨h10, hn⟩ := validG_parts gs hg
  have hv := (nodeOK_formula gs i (hn i hi) hk).1
  have he := each_ahead gs i vs.length hg hi hk (by omega)
  unfold canEv
  rw [hv, he, hr]
  simp
  omega

theorem eager_depF_bd (gs : List Nd) (vs : List Int) (hg : validG gs = true) (hl : vs.length = gs.length) (i : Nat) (hi : i < gs.length) : (depF gs vs i).length ≤ 10 := by
  unfold depF
  cases hk : ((gs.getD i default).k == 0)
  · simp only [Bool.false_eq_true, if_false]
    have hv := (nodeOK_formula gs i ((validG_parts gs hg).2 i hi) hk).1
    have hok := whole_ok _ vs.length hv (by rw [hl]; exact each_ahead gs i gs.length hg hi hk (by omega))
    have h10 := (validG_parts gs hg).1
    refine Nat.le_trans (firsts_bd _ vs.length ?_) (by rw [hl]; exact h10)
    intro x hx
    exact rds_lt _ _ _ hok x hx
  · simp

theorem diffTo_same (a b : List Int) (n : Nat) (hn : n = a.length) (hm : n = b.length) : ((diffTo a b n).length == 0) = decide (a = b) := by
  by_cases h : a = b
  · subst h
    have : diffTo a a n = [] := by unfold diffTo; simp
    rw [this]; simp
  · have : ∃ k, k < n ∧ a.getD k 0 ≠ b.getD k 0 := by
      apply Classical.byContradiction
      intro hc
      apply h
      apply List.ext_getElem (by omega)
      intro k h1 h2
      apply Classical.byContradiction
      intro hne
      exact hc ⟨k, by omega, by simpa [List.getD, h1, h2] using hne⟩
    obtain ⟨k, hk, hne⟩ := this
    have hmem : (k : Int) ∈ diffTo a b n := by
      unfold diffTo
      exact List.mem_map.2 ⟨k, List.mem_filter.2 ⟨List.mem_range.2 hk, by simpa using hne⟩, rfl⟩
    have : (diffTo a b n).length ≠ 0 := by
      intro h0
      rw [List.eq_nil_of_length_eq_zero h0] at hmem
      simp at hmem
    simp [h, this]
end Go.Proofs.Ythephbppeiealaa
