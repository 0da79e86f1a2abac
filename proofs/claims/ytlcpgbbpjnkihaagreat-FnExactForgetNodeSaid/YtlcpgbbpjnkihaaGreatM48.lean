/- Plain facts on the nodes behind a node: what is spoilt when a lazy machine is written. -/
import Derived.Test.YtlcpgbbpjnkihaaGreatL0

namespace Go.Proofs.YtlcpgbbpjnkihaaGreat
set_option linter.unusedSimpArgs false
set_option linter.unusedVariables false

/-- The node n, and those of the j nodes behind it that were met. -/
def metTo (rs : List (List Int)) (n : Nat) : Nat → List Int
  | 0 => [(n : Int)]
  | j + 1 => if meetB (rs.getD (n + 1 + j) []) (metTo rs n j) then metTo rs n j ++ [((n + 1 + j : Nat) : Int)] else metTo rs n j
/-- The colours when the j nodes behind n are marked: those that read n at least by the colour col. -/
def spoT (rs : List (List Int)) (cs : List Int) (n : Nat) (col : Int) : Nat → List Int
  | 0 => cs
  | j + 1 => if (n : Int) ∈ rs.getD (n + 1 + j) [] then (spoT rs cs n col j).set (n + 1 + j) (max (cs.getD (n + 1 + j) 0) col)
    else if meetB (rs.getD (n + 1 + j) []) (metTo rs n j) then (spoT rs cs n col j).set (n + 1 + j) (max (cs.getD (n + 1 + j) 0) 1) else spoT rs cs n col j
/-- All nodes behind n are marked. -/
def spoF (rs : List (List Int)) (cs : List Int) (n : Nat) (col : Int) : List Int := spoT rs cs n col (rs.length - (n + 1))
section
variable {rs : List (List Int)} {cs : List Int} {n : Nat} {col : Int}
theorem spoT_len (j : Nat) : (spoT rs cs n col j).length = cs.length := by
  induction j with
  | zero => rfl
  | succ j ih => unfold spoT; split <;> (try split) <;> simp [ih]
theorem spoT_get (j i : Nat) (h : n + 1 + j ≤ i) : (spoT rs cs n col j).getD i 0 = cs.getD i 0 := by
  induction j with
  | zero => rfl
  | succ j ih =>
    have ih' := ih (by omega)
    have hne : ¬ n + 1 + j = i := by omega
    unfold spoT
    split
    · rw [← ih']; simp [List.getD, List.getElem?_set, hne]
    · split
      · rw [← ih']; simp [List.getD, List.getElem?_set, hne]
      · exact ih'
theorem metTo_n (j : Nat) : (n : Int) ∈ metTo rs n j := by
  induction j with
  | zero => simp [metTo]
  | succ j ih => unfold metTo; split <;> simp [ih]
theorem metTo_rng (j : Nat) : ∀ x ∈ metTo rs n j, ∃ q : Nat, x = (q : Int) ∧ n ≤ q ∧ q < n + 1 + j := by
  induction j with
  | zero => intro x hx; simp [metTo] at hx; exact ⟨n, hx, by omega, by omega⟩
  | succ j ih =>
    intro x hx
    unfold metTo at hx
    split at hx
    · rcases List.mem_append.1 hx with h | h
      · obtain ⟨q, e, h1, h2⟩ := ih x h; exact ⟨q, e, h1, by omega⟩
      · simp at h; exact ⟨n + 1 + j, h, by omega, by omega⟩
    · obtain ⟨q, e, h1, h2⟩ := ih x hx; exact ⟨q, e, h1, by omega⟩
theorem metTo_len (j : Nat) : (metTo rs n j).length ≤ j + 1 := by
  induction j with
  | zero => simp [metTo]
  | succ j ih =>
    unfold metTo
    split
    · rw [List.length_append]; simp; omega
    · omega
theorem meet_of_n (j : Nat) {l : List Int} (h : (n : Int) ∈ l) : meetB l (metTo rs n j) = true := by
  unfold meetB
  rw [List.any_eq_true]
  exact ⟨_, h, decide_eq_true (metTo_n j)⟩
/-- By the weakest colour all that is met is marked alike. -/
theorem spoT_one (j : Nat) : spoT rs cs n 1 (j + 1) = if meetB (rs.getD (n + 1 + j) []) (metTo rs n j) then (spoT rs cs n 1 j).set (n + 1 + j) (max (cs.getD (n + 1 + j) 0) 1) else spoT rs cs n 1 j := by
  rw [spoT]
  split
  · rename_i h
    rw [meet_of_n j h, if_pos rfl]
  · rfl
theorem spoT_rng (hc : ∀ i, 0 ≤ cs.getD i 0 ∧ cs.getD i 0 ≤ 2) (h0 : 0 ≤ col) (h2 : col ≤ 2) (j i : Nat) : 0 ≤ (spoT rs cs n col j).getD i 0 ∧ (spoT rs cs n col j).getD i 0 ≤ 2 := by
  induction j with
  | zero => exact hc i
  | succ j ih =>
    have hs : ∀ v : Int, 0 ≤ v → v ≤ 2 → 0 ≤ ((spoT rs cs n col j).set (n + 1 + j) v).getD i 0 ∧ ((spoT rs cs n col j).set (n + 1 + j) v).getD i 0 ≤ 2 := by
      intro v v0 v2
      by_cases e : n + 1 + j = i
      · subst e
        by_cases hl : n + 1 + j < (spoT rs cs n col j).length
        · simp [List.getD, hl, v0, v2]
        · rw [List.getD_eq_getElem?_getD, List.getElem?_eq_none (by rw [List.length_set]; omega)]; simp
      · have : ((spoT rs cs n col j).set (n + 1 + j) v).getD i 0 = (spoT rs cs n col j).getD i 0 := by simp [List.getD, List.getElem?_set, e]
        rw [this]; exact ih
    have hh := hc (n + 1 + j)
    unfold spoT
    split
    · exact hs _ (by omega) (by omega)
    · split
      · exact hs _ (by omega) (by omega)
      · exact ih
end
/-- The state of a lazy machine behind a write. -/
def wlF (st : Lz) (n : Nat) (x : Int) : Lz := if st.vs.getD n 0 = x then st else ⟨st.vs.set n x, st.rs, spoF st.rs st.cs n 2⟩
def writeLB (gs : List Nd) (st : Lz) (n x : Int) : Bool := validL gs st && (isC gs n && rng x 0 999)
def writeL (gs : List Nd) (st : Lz) (n x : Int) : Lz := if writeLB gs st n x then wlF st n.toNat x else ⟨[], [], []⟩
/-- The state of a lazy machine that forgot a node. -/
def fgF (st : Lz) (n : Nat) : Lz := ⟨st.vs, st.rs.set n [], spoF (st.rs.set n []) (st.cs.set n 2) n 1⟩
def forgetLB (gs : List Nd) (st : Lz) (n : Int) : Bool := validL gs st && (hasN gs n && !(isC gs n))
def forgetL (gs : List Nd) (st : Lz) (n : Int) : Lz := if forgetLB gs st n then fgF st n.toNat else ⟨[], [], []⟩
/-- What a node of a valid state reads lies ahead of it. -/
theorem vl_ahead {gs : List Nd} {st : Lz} (h : validL gs st = true) {i : Nat} (hi : i < gs.length) : ∀ x ∈ st.rs.getD i [], 0 ≤ x ∧ x < i := by
  obtain ⟨h1, h2, h3, h4, h5, h6, h7⟩ := validL_parts gs st h
  have hc := h7 i hi
  unfold colOK at hc
  intro x hx
  cases hk : ((gs.getD i default).k == 0)
  · rw [hk] at hc
    simp only [Bool.false_eq_true, if_false] at hc
    have hrun : asRun gs st i = true → 0 ≤ x ∧ x < i := by
      intro ha
      unfold asRun at ha
      rw [Bool.and_eq_true] at ha
      have e := of_decide_eq_true ha.2
      rw [← e] at hx
      unfold depF at hx
      rw [hk] at hx
      simp only [Bool.false_eq_true, if_false] at hx
      have hv := (nodeOK_formula gs i ((validG_parts gs h1).2 i hi) hk).1
      have hok := whole_ok _ i hv (each_ahead gs i i h1 hi hk (Nat.le_refl _))
      obtain ⟨q, hq, e⟩ := rds_lt _ _ _ hok _ ((firsts_mem _ _).1 hx)
      subst e
      exact ⟨by omega, by omega⟩
    split at hc
    · rw [Bool.and_eq_true] at hc
      have hin := hc.2
      unfold inL at hin
      rw [List.all_eq_true] at hin
      have := mayR_ahead gs i h1 hi x (of_decide_eq_true (hin x hx))
      omega
    · split at hc
      · rw [Bool.and_eq_true] at hc
        exact hrun hc.1
      · exact hrun hc
  · rw [hk] at hc
    simp only [if_true, Bool.and_eq_true, decide_eq_true_eq] at hc
    have : st.rs.getD i [] = [] := List.eq_nil_of_length_eq_zero hc.2
    rw [this] at hx
    simp at hx
/-- Colours of a valid state. -/
theorem vl_cols {gs : List Nd} {st : Lz} (h : validL gs st = true) (i : Nat) : 0 ≤ st.cs.getD i 0 ∧ st.cs.getD i 0 ≤ 2 := by
  obtain ⟨h1, h2, h3, h4, h5, h6, h7⟩ := validL_parts gs st h
  by_cases hi : i < st.cs.length
  · unfold allR at h6
    rw [List.all_eq_true] at h6
    have hm : st.cs.getD i 0 ∈ st.cs := by simp [List.getD, hi]
    have := h6 _ hm
    unfold rng at this
    exact of_decide_eq_true this
  · rw [List.getD_eq_getElem?_getD, List.getElem?_eq_none (by omega)]
    simp
theorem sum_set_nil (xss : List (List Int)) (n : Nat) : ((xss.set n []).map List.length).sum ≤ (xss.map List.length).sum := by
  induction xss generalizing n with
  | nil => simp
  | cons x r ih =>
    cases n with
    | zero => simp
    | succ n => simp only [List.set_cons_succ, List.map_cons, List.sum_cons]; have := ih n; omega
/-- Bounds of a state go on to one of the same lengths. -/
theorem LB.less {e e' : Lz} (h : LB e) (h1 : e'.vs.length = e.vs.length) (h2 : e'.cs.length = e.cs.length) (h3 : e'.rs.length = e.rs.length) (h4 : (e'.rs.map List.length).sum ≤ (e.rs.map List.length).sum) : LB e' := by
  obtain ⟨b1, b2, b3, b4, b5, b6⟩ := h
  have h5 : ((rowsL e').map List.length).sum ≤ 1048576 := by
    unfold rowsL at b5 ⊢
    simp at b5 ⊢
    omega
  have h6 := b2.1
  exact ⟨by omega, SB.of_sum (by omega) (by omega), SB2.of_sum (by unfold rowsL; simp; omega) h5, by omega, h5, by omega⟩
theorem writeL_LB (gs : List Nd) (st : Lz) (n x : Int) (h : LB st) : LB (writeL gs st n x) := by
  unfold writeL
  split
  · unfold wlF
    split
    · exact h
    · exact h.less (by simp) (by simp [spoF, spoT_len]) rfl (Nat.le_refl _)
  · exact LB.of_small _ (by simp) ⟨by simp, fun j => by simp [List.getD]⟩ (by simp) (by simp)
theorem forgetL_LB (gs : List Nd) (st : Lz) (n : Int) (h : LB st) : LB (forgetL gs st n) := by
  unfold forgetL
  split
  · unfold fgF
    exact h.less rfl (by simp [spoF, spoT_len]) (by simp) (sum_set_nil _ _)
  · exact LB.of_small _ (by simp) ⟨by simp, fun j => by simp [List.getD]⟩ (by simp) (by simp)
end Go.Proofs.YtlcpgbbpjnkihaaGreat
