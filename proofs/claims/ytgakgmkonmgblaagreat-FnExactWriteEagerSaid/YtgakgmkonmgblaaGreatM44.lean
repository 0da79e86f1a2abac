/- Writing cells of the eager machine: what it does, plain. -/
import Derived.Test.YtgakgmkonmgblaaGreatA0

namespace Go.Proofs.YtgakgmkonmgblaaGreat
set_option linter.unusedSimpArgs false
set_option linter.unusedVariables false
open Go.RowKit

/-- The values, and the cells that are changed, behind the first k cells that are written. -/
def wA (vs xs ys : List Int) : Nat → List Int × List Int
  | 0 => (vs, [])
  | k + 1 => if (wA vs xs ys k).1.getD (xs.getD k 0).toNat 0 = ys.getD k 0 then wA vs xs ys k else ((wA vs xs ys k).1.set (xs.getD k 0).toNat (ys.getD k 0), (wA vs xs ys k).2 ++ [xs.getD k 0])
/-- A machine under way: values, reads, what changed, what ran. -/
structure Ew where
  vs : List Int
  rs : List (List Int)
  ch : List Int
  rn : List Int
/-- Behind the first i nodes. -/
def wB (gs : List Nd) (s : Ew) : Nat → Ew
  | 0 => s
  | i + 1 => if (!((gs.getD i default).k == 0) && meetB ((wB gs s i).rs.getD i []) (wB gs s i).ch) = true then
      ⟨(wB gs s i).vs.set i (valE gs (wB gs s i).vs i), (wB gs s i).rs.set i (depF gs (wB gs s i).vs i), if valE gs (wB gs s i).vs i = (wB gs s i).vs.getD i 0 then (wB gs s i).ch else (wB gs s i).ch ++ [(i : Int)], (wB gs s i).rn ++ [(i : Int)]⟩
    else wB gs s i
def wS (gs : List Nd) (st : Eg) (xs ys : List Int) : Ew := ⟨(wA st.vs xs ys xs.length).1, st.rs, (wA st.vs xs ys xs.length).2, []⟩
def wrtE (gs : List Nd) (st : Eg) (xs ys : List Int) : Eg := ⟨(wB gs (wS gs st xs ys) gs.length).vs, (wB gs (wS gs st xs ys) gs.length).rs⟩
def wrtR (gs : List Nd) (st : Eg) (xs ys : List Int) : List Int := (wB gs (wS gs st xs ys) gs.length).rn
def wrtB (gs : List Nd) (st : Eg) (xs ys : List Int) : Bool := validE gs st && gwB gs xs ys
def writeF (gs : List Nd) (st : Eg) (xs ys : List Int) : Eg := if wrtB gs st xs ys then wrtE gs st xs ys else ⟨[], []⟩
def writeR (gs : List Nd) (st : Eg) (xs ys : List Int) : List Int := if wrtB gs st xs ys then wrtR gs st xs ys else []

theorem wr_rng {y lo hi : Int} (h : rng y lo hi = true) : lo ≤ y ∧ y ≤ hi := by unfold rng at h; simpa using h
theorem ws_getD (vs : List Int) (q j : Nat) (x : Int) (hq : q < vs.length) : (vs.set q x).getD j 0 = if j = q then x else vs.getD j 0 := by
  by_cases e : j = q
  · subst e; simp [List.getD, hq]
  · rw [if_neg e]; simp [List.getD, List.getElem?_set, show ¬ q = j from fun h => e h.symm]
theorem ws_same (vs : List Int) (q : Nat) (x : Int) (h : vs.getD q 0 = x) : vs.set q x = vs := by
  by_cases hq : q < vs.length
  · have : vs[q] = x := by rw [← h]; simp [List.getD, hq]
    rw [← this]; exact List.set_getElem_self hq
  · exact List.set_eq_of_length_le (by omega)
theorem allR_set (vs : List Int) (lo hi : Int) (q : Nat) (x : Int) (h : allR vs lo hi = true) (h1 : lo ≤ x) (h2 : x ≤ hi) : allR (vs.set q x) lo hi = true := by
  unfold allR at *
  rw [List.all_eq_true] at *
  intro y hy
  rcases List.mem_or_eq_of_mem_set hy with h3 | rfl
  · exact h y h3
  · unfold rng; simp; omega
/-- What is good to write. -/
theorem gw_parts {gs : List Nd} {xs ys : List Int} (h : gwB gs xs ys = true) : xs.length = ys.length ∧ xs.length ≤ 10 ∧ allR ys 0 999 = true ∧ xs.Nodup ∧ ∀ k, k < xs.length → isC gs (xs.getD k 0) = true := by
  unfold gwB wrB at h
  simp only [Bool.and_eq_true, decide_eq_true_eq] at h
  exact ⟨h.1, h.2.1, h.2.2.1, h.2.2.2.2, h.2.2.2.1⟩
theorem isC_at {gs : List Nd} {x : Int} (h : isC gs x = true) : ∃ q : Nat, x = q ∧ q < gs.length ∧ ((gs.getD q default).k == 0) = true := by
  unfold isC at h
  rw [Bool.and_eq_true] at h
  obtain ⟨h1, h2⟩ := h
  have h3 := wr_rng h1
  exact ⟨x.toNat, by omega, by omega, h2⟩
section
variable {gs : List Nd} {vs xs ys : List Int}
theorem wA_len (vs xs ys : List Int) : ∀ k, (wA vs xs ys k).1.length = vs.length := by
  intro k
  induction k with
  | zero => rfl
  | succ k ih =>
    rw [wA]
    split
    · exact ih
    · rw [List.length_set]; exact ih
theorem wA_rng (hr : allR vs 0 999 = true) (hy : allR ys 0 999 = true) : ∀ k, k ≤ ys.length → allR (wA vs xs ys k).1 0 999 = true := by
  intro k
  induction k with
  | zero => intro _; exact hr
  | succ k ih =>
    intro hk
    rw [wA]
    split
    · exact ih (by omega)
    · have hm : ys.getD k 0 ∈ ys := by rw [List.getD_eq_getElem?_getD, List.getElem?_eq_getElem (by omega)]; exact List.getElem_mem _
      unfold allR at hy
      rw [List.all_eq_true] at hy
      have := wr_rng (hy _ hm)
      exact allR_set _ _ _ _ _ (ih (by omega)) this.1 this.2
theorem wA_sub (vs xs ys : List Int) : ∀ k, k ≤ xs.length → ∀ x ∈ (wA vs xs ys k).2, x ∈ xs.take k := by
  intro k
  induction k with
  | zero => intro _ x hx; simp [wA] at hx
  | succ k ih =>
    intro hk x hx
    have ht : xs.take (k + 1) = xs.take k ++ [xs.getD k 0] := by rw [List.take_succ_eq_append_getElem (by omega)]; simp [List.getD, show k < xs.length by omega]
    rw [ht, List.mem_append]
    rw [wA] at hx
    split at hx
    · exact .inl (ih (by omega) x hx)
    · rcases List.mem_append.1 hx with h | h
      · exact .inl (ih (by omega) x h)
      · exact .inr h
theorem wA_new (hn : xs.Nodup) (k : Nat) (hk : k < xs.length) : xs.getD k 0 ∉ (wA vs xs ys k).2 := by
  intro h
  have h1 := wA_sub vs xs ys k (by omega) _ h
  obtain ⟨j, hj, e⟩ := List.getElem_of_mem h1
  rw [List.length_take] at hj
  rw [List.getElem_take] at e
  rw [show xs.getD k 0 = xs[k] by simp [List.getD, hk]] at e
  have := (List.getElem_inj hn).1 e
  omega
/-- One cell more: its value, and whether it changed. -/
theorem wA_step (k : Nat) : (wA vs xs ys (k + 1)).1 = (wA vs xs ys k).1.set (xs.getD k 0).toNat (ys.getD k 0) := by
  rw [wA]
  split
  · rename_i h; exact (ws_same _ _ _ h).symm
  · rfl
theorem wA_ch (hn : xs.Nodup) (k : Nat) (hk : k < xs.length) (q : Int) : decide (q ∈ (wA vs xs ys (k + 1)).2) = if q = xs.getD k 0 then !((wA vs xs ys k).1.getD (xs.getD k 0).toNat 0 == ys.getD k 0) else decide (q ∈ (wA vs xs ys k).2) := by
  have h0 := wA_new (vs := vs) (ys := ys) hn k hk
  rw [wA]
  split
  · rename_i h
    by_cases e : q = xs.getD k 0
    · rw [if_pos e, e, decide_eq_false h0, h]; simp
    · rw [if_neg e]
  · rename_i h
    by_cases e : q = xs.getD k 0
    · rw [if_pos e, decide_eq_true (by rw [e]; simp)]
      have : ((wA vs xs ys k).1.getD (xs.getD k 0).toNat 0 == ys.getD k 0) = false := by simpa using h
      rw [this]; rfl
    · rw [if_neg e]
      exact decide_eq_decide.2 ⟨fun h => (List.mem_append.1 h).elim id fun h => absurd (List.mem_singleton.1 h) e, fun h => List.mem_append.2 (.inl h)⟩
end
/-- The node may run. -/
def wGo (gs : List Nd) (s : Ew) (i : Nat) : Bool := !((gs.getD i default).k == 0) && meetB (s.rs.getD i []) s.ch
/-- The node runs. -/
def wRun (gs : List Nd) (s : Ew) (i : Nat) : Ew := ⟨s.vs.set i (valE gs s.vs i), s.rs.set i (depF gs s.vs i), if valE gs s.vs i = s.vs.getD i 0 then s.ch else s.ch ++ [(i : Int)], s.rn ++ [(i : Int)]⟩
theorem wB_succ (gs : List Nd) (s : Ew) (i : Nat) : wB gs s (i + 1) = if wGo gs (wB gs s i) i = true then wRun gs (wB gs s i) i else wB gs s i := rfl
/-- What holds of a machine under way. -/
structure WOK (gs : List Nd) (rs : List (List Int)) (s : Ew) (i : Nat) : Prop where
  vl : s.vs.length = gs.length
  rl : s.rs.length = gs.length
  vr : allR s.vs 0 999 = true
  same : ∀ j, i ≤ j → s.rs.getD j [] = rs.getD j []
  ch : ∀ q ∈ s.ch, ∃ p : Nat, q = p ∧ p < gs.length ∧ (((gs.getD p default).k == 0) = true ∨ p < i)
  rn : s.rn.length ≤ i
  rb : ∀ j, (s.rs.getD j []).length ≤ 10
  chl : s.ch.length ≤ 10 + i
theorem wr_getD (rs : List (List Int)) (q j : Nat) (x : List Int) (hq : q < rs.length) : (rs.set q x).getD j [] = if j = q then x else rs.getD j [] := by
  by_cases e : j = q
  · subst e; simp [List.getD, hq]
  · rw [if_neg e]; simp [List.getD, List.getElem?_set, show ¬ q = j from fun h => e h.symm]
theorem valE_rng {gs : List Nd} {vs : List Int} (hg : validG gs = true) (hl : vs.length = gs.length) (hr : allR vs 0 999 = true) (i : Nat) (hi : i < gs.length) (hk : ((gs.getD i default).k == 0) = false) : 0 ≤ valE gs vs i ∧ valE gs vs i ≤ 999 := by
  have hc := eager_canEv gs vs i hg hl hr hi hk
  unfold valE
  rw [hk]
  simp only [Bool.false_eq_true, if_false]
  have hb := valF_bd _ _ hc
  unfold valF at hb
  rw [hc] at hb
  simp only [if_true] at hb
  omega
theorem WOK.run {gs : List Nd} {rs : List (List Int)} {s : Ew} {i : Nat} (h : WOK gs rs s i) (hg : validG gs = true) (hi : i < gs.length) (hk : ((gs.getD i default).k == 0) = false) : WOK gs rs (wRun gs s i) (i + 1) := by
  have hv := valE_rng hg h.vl h.vr i hi hk
  refine ⟨by unfold wRun; dsimp only; rw [List.length_set]; exact h.vl, by unfold wRun; dsimp only; rw [List.length_set]; exact h.rl, allR_set _ _ _ _ _ h.vr hv.1 hv.2, fun j hj => ?_, fun q hq => ?_, ?_, fun j => ?_, ?_⟩
  · unfold wRun
    dsimp only
    rw [wr_getD _ _ _ _ (by rw [h.rl]; exact hi), if_neg (by omega)]
    exact h.same j (by omega)
  · unfold wRun at hq
    dsimp only at hq
    have old : ∀ q ∈ s.ch, ∃ p : Nat, q = p ∧ p < gs.length ∧ (((gs.getD p default).k == 0) = true ∨ p < i + 1) := fun q hq => by
      obtain ⟨p, e, h1, h2⟩ := h.ch q hq
      exact ⟨p, e, h1, h2.imp id fun h => by omega⟩
    split at hq
    · exact old q hq
    · rcases List.mem_append.1 hq with h1 | h1
      · exact old q h1
      · exact ⟨i, by simpa using h1, hi, .inr (by omega)⟩
  · unfold wRun; dsimp only; rw [List.length_append]; have := h.rn; simp; omega
  · unfold wRun
    dsimp only
    rw [wr_getD _ _ _ _ (by rw [h.rl]; exact hi)]
    split
    · exact eager_depF_bd gs s.vs hg h.vl i hi
    · exact h.rb j
  · unfold wRun
    dsimp only
    have := h.chl
    split
    · omega
    · rw [List.length_append]; simp; omega
theorem WOK.skip {gs : List Nd} {rs : List (List Int)} {s : Ew} {i : Nat} (h : WOK gs rs s i) : WOK gs rs s (i + 1) :=
  ⟨h.vl, h.rl, h.vr, fun j hj => h.same j (by omega), fun q hq => by obtain ⟨p, e, h1, h2⟩ := h.ch q hq; exact ⟨p, e, h1, h2.imp id fun h => by omega⟩, by have := h.rn; omega, h.rb, by have := h.chl; omega⟩
theorem wB_ok {gs : List Nd} {rs : List (List Int)} {s : Ew} (hg : validG gs = true) (h : WOK gs rs s 0) : ∀ i, i ≤ gs.length → WOK gs rs (wB gs s i) i := by
  intro i
  induction i with
  | zero => intro _; exact h
  | succ i ih =>
    intro hi
    have h1 := ih (by omega)
    rw [wB_succ]
    split
    · rename_i hgo
      unfold wGo at hgo
      rw [Bool.and_eq_true, Bool.not_eq_true'] at hgo
      exact h1.run hg (by omega) hgo.1
    · exact h1.skip
theorem wS_ok {gs : List Nd} {st : Eg} {xs ys : List Int} (hv : validE gs st = true) (hw : gwB gs xs ys = true) : WOK gs st.rs (wS gs st xs ys) 0 := by
  obtain ⟨h1, h2, h3, h4, h5⟩ := validE_parts gs st hv
  obtain ⟨g1, g2, g3, g4, g5⟩ := gw_parts hw
  refine ⟨by unfold wS; dsimp only; rw [wA_len]; exact h2, h3, wA_rng h4 g3 _ (by omega), fun j _ => rfl, fun q hq => ?_, Nat.le_refl _, fun j => ?_, ?_⟩
  · have hm := wA_sub st.vs xs ys xs.length (Nat.le_refl _) q hq
    rw [List.take_length] at hm
    obtain ⟨k, hk, e⟩ := List.getElem_of_mem hm
    obtain ⟨p, e2, e3, e4⟩ := isC_at (g5 k hk)
    refine ⟨p, ?_, e3, .inl e4⟩
    rw [← e, ← e2]; simp [List.getD, hk]
  · show (st.rs.getD j []).length ≤ 10
    by_cases hj : j < gs.length
    · have := h5 j hj
      unfold okE at this
      rw [Bool.and_eq_true, decide_eq_true_eq] at this
      rw [← this.2]
      exact eager_depF_bd gs st.vs h1 h2 j hj
    · have : st.rs.getD j [] = [] := by simp [List.getD, show st.rs[j]? = none from List.getElem?_eq_none (by omega)]
      rw [this]; simp
  · have : ∀ k, (wA st.vs xs ys k).2.length ≤ k := by
      intro k
      induction k with
      | zero => simp [wA]
      | succ k ih =>
        rw [wA]
        split
        · omega
        · rw [List.length_append]; simp; omega
    have := this xs.length
    show (wA st.vs xs ys xs.length).2.length ≤ 10 + 0
    omega
/-- Whether it changed, when a node has run. -/
theorem wRun_ch {gs : List Nd} {rs : List (List Int)} {s : Ew} {i : Nat} (h : WOK gs rs s i) (hk : ((gs.getD i default).k == 0) = false) (q : Int) : decide (q ∈ (wRun gs s i).ch) = if q = (i : Int) then !(s.vs.getD i 0 == valE gs s.vs i) else decide (q ∈ s.ch) := by
  have h0 : (i : Int) ∉ s.ch := fun hm => by
    obtain ⟨p, e, h1, h2⟩ := h.ch _ hm
    have : p = i := by omega
    subst this
    rcases h2 with h2 | h2
    · rw [h2] at hk; cases hk
    · omega
  unfold wRun
  dsimp only
  split
  · rename_i hx
    by_cases e : q = (i : Int)
    · rw [if_pos e, e, decide_eq_false h0, hx]; simp
    · rw [if_neg e]
  · rename_i hx
    by_cases e : q = (i : Int)
    · rw [if_pos e, decide_eq_true (by rw [e]; simp)]
      have : (s.vs.getD i 0 == valE gs s.vs i) = false := by simpa using fun h => hx h.symm
      rw [this]; rfl
    · rw [if_neg e]
      exact decide_eq_decide.2 ⟨fun h => (List.mem_append.1 h).elim id fun h => absurd (List.mem_singleton.1 h) e, fun h => List.mem_append.2 (.inl h)⟩
/-- A cell reads nothing. -/
theorem cell_reads {gs : List Nd} {st : Eg} (hv : validE gs st = true) (i : Nat) (hi : i < gs.length) (hk : ((gs.getD i default).k == 0) = true) : st.rs.getD i [] = [] := by
  obtain ⟨h1, h2, h3, h4, h5⟩ := validE_parts gs st hv
  have := h5 i hi
  unfold okE at this
  rw [Bool.and_eq_true, decide_eq_true_eq] at this
  rw [← this.2]
  unfold depF
  rw [hk]
  rfl
theorem writeF_EB (gs : List Nd) (st : Eg) (xs ys : List Int) : EB (writeF gs st xs ys) := by
  unfold writeF
  cases h : wrtB gs st xs ys
  · exact EB.of_small _ (by simp) ⟨by simp, fun j => by simp [List.getD]⟩ (by simp)
  · unfold wrtB at h
    rw [Bool.and_eq_true] at h
    obtain ⟨h1, h2, h3, h4, h5⟩ := validE_parts gs st h.1
    have hw := wB_ok h1 (wS_ok h.1 h.2) gs.length (Nat.le_refl _)
    have hg10 := (validG_parts gs h1).1
    have hs : ((wB gs (wS gs st xs ys) gs.length).rs.map List.length).sum ≤ (wB gs (wS gs st xs ys) gs.length).rs.length * 10 := sum_le_mul _ 10 fun x hx => by
      obtain ⟨j, hj, e⟩ := List.getElem_of_mem hx
      have := hw.rb j
      rw [show (wB gs (wS gs st xs ys) gs.length).rs.getD j [] = x by rw [← e]; simp [List.getD, hj]] at this
      exact this
    rw [hw.rl] at hs
    exact EB.of_small _ (by show (wB gs (wS gs st xs ys) gs.length).vs.length ≤ 1000; rw [hw.vl]; omega) ⟨by show (wB gs (wS gs st xs ys) gs.length).rs.length ≤ 1048576; rw [hw.rl]; omega, fun j => by have := hw.rb j; show ((wB gs (wS gs st xs ys) gs.length).rs.getD j []).length ≤ 1048576; omega⟩ (by show ((wB gs (wS gs st xs ys) gs.length).rs.map List.length).sum ≤ 1000; omega)
theorem writeR_len (gs : List Nd) (st : Eg) (xs ys : List Int) : (writeR gs st xs ys).length ≤ 10 := by
  unfold writeR
  cases h : wrtB gs st xs ys
  · simp
  · unfold wrtB at h
    rw [Bool.and_eq_true] at h
    obtain ⟨h1, _, _, _, _⟩ := validE_parts gs st h.1
    have hw := wB_ok h1 (wS_ok h.1 h.2) gs.length (Nat.le_refl _)
    have hg10 := (validG_parts gs h1).1
    have := hw.rn
    simp only [if_true]
    unfold wrtR
    omega
end Go.Proofs.YtgakgmkonmgblaaGreat
