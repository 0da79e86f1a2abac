/- A lazy machine under work: values, colours, what ran and the reads as one family of rows. -/
import Derived.Test.YtlcpgbbpjnkihaaGreatL1
import Derived.Test.YtlcpgbbpjnkihaaGreatM48

namespace Go.Proofs.YtlcpgbbpjnkihaaGreat
set_option linter.unusedSimpArgs false
set_option linter.unusedVariables false
open Go.RowKit

section
variable {B n c cr m d lo : Nat} {A Er C : Option Addr} {U : List Value} {vs ch rn : List Int} {rs : List (List Int)} {st : Lz} {w w' : World}
/-- One colour is written. -/
theorem WF.setC {gc cc q : Nat} (h : WF B Er cr n U vs ch rn rs w) (h1 : U[1]? = some (.slice (some ⟨gc, 0, none⟩) n cc)) (x : Int) : WF B Er cr n U vs (ch.set q x) rn rs (w.setCell ⟨gc, q, none⟩ (.int .i64 x)) := by
  obtain ⟨A, m, c, e1, e2, e3⟩ := h.at_ 1 (by omega)
  rw [h1] at e1
  cases e1
  have hsz : (w.setCell ⟨gc, q, none⟩ (.int .i64 x)).heap.size = w.heap.size := by simp [World.setCell]
  have hl : ∀ i, lenOf (vs :: ch.set q x :: rn :: rs) i = lenOf (vs :: ch :: rn :: rs) i := fun i => by
    match i with
    | 0 => simp [lenOf]
    | 1 => simp [lenOf]
    | i + 2 => simp [lenOf]
  refine ⟨h.ul, h.rl, ?_, World.ownsRow.kept h.top (e3.stored q (.int .i64 x)).2 (blocks_ne h.top e3 ints_ne_int.symm)⟩
  rw [hsz, show lenOf (vs :: ch.set q x :: rn :: rs) = lenOf (vs :: ch :: rn :: rs) from funext hl]
  refine h.fam.put1 h1 ?_ fun i hi => ?_
  · simp [rowOf, List.map_set]
  · match i, hi with
    | 0, _ => simp [rowOf]
    | 1, hi => exact absurd rfl hi
    | i + 2, _ => simp [rowOf]
/-- A state of one's own as a family. -/
theorem WF.of_ownL (h : OwL B w.heap.size A n c Er n cr C m d st w) : ∃ U, WF B Er cr n U st.vs st.cs [] st.rs w ∧ U[0]? = some (.slice A n c) ∧ U[1]? = some (.slice C m d) ∧ U[2]? = some (.slice none 0 0) := by
  obtain ⟨h0, h1, h2, us, e1, e2⟩ := h
  have hul : us.length = n := by have := e1.1.1; omega
  refine ⟨.slice A n c :: .slice C m d :: .slice none 0 0 :: us, ⟨by simp [hul], h1, ?_, by simpa using e1.1⟩, rfl, rfl, rfl⟩
  have key : ∀ i, i < n + 3 → i ≠ 2 → ∃ j, j < n + 2 ∧ (j = if i = 0 then 0 else if i = 1 then n + 1 else i - 2) ∧ (Value.slice A n c :: .slice C m d :: .slice none 0 0 :: us)[i]? = (Value.slice A n c :: (us ++ [.slice C m d]))[j]? ∧ (st.vs :: st.cs :: [] :: st.rs).getD i [] = (rowsL st).getD j [] := by
    intro i hi h2
    match i, hi, h2 with
    | 0, _, _ => exact ⟨0, by omega, rfl, rfl, by simp [rowsL]⟩
    | 1, _, _ =>
      refine ⟨n + 1, by omega, rfl, ?_, ?_⟩
      · have e : (Value.slice A n c :: (us ++ [.slice C m d]))[n + 1]? = some (.slice C m d) := by rw [List.getElem?_cons_succ, List.getElem?_append_right (by omega), hul, Nat.sub_self]; rfl
        rw [e]; rfl
      · have e : (rowsL st).getD (n + 1) [] = st.cs := by
          simp only [rowsL, List.getD_cons_succ]
          rw [List.getD_eq_getElem?_getD, List.getElem?_append_right (by omega), ← h1, Nat.sub_self]; rfl
        rw [e]; rfl
    | 2, _, h => exact absurd rfl h
    | i + 3, hi, _ =>
      refine ⟨i + 1, by omega, by simp, ?_, ?_⟩
      · simp only [List.getElem?_cons_succ]
        rw [List.getElem?_append_left (by omega)]
      · simp only [rowsL, List.getD_cons_succ]
        rw [List.getD_eq_getElem?_getD, List.getD_eq_getElem?_getD, List.getElem?_append_left (by omega)]
  refine ⟨fun i hi => ?_, fun i j v u b hij hi hj hv hu => ?_⟩
  · have hi' : i < n + 3 := by simp at hi; omega
    by_cases h3 : i = 2
    · subst h3
      exact ⟨none, 0, 0, rfl, by simp [lenOf], by simpa [rowOf] using OwR.nil _ _ _ _ _⟩
    · obtain ⟨j, j1, -, j3, j4⟩ := key i hi' h3
      obtain ⟨A', m', c', r1, r2, r3⟩ := e2.row j (by simp; omega)
      refine ⟨A', m', c', j3.trans r1, ?_, ?_⟩
      · rw [r2]; unfold lenOf; rw [j4]
      · unfold rowOf at r3 ⊢; rw [j4]; exact r3
  · have li : i < n + 3 := by have := (List.getElem?_eq_some_iff.1 hi).1; simp at this; omega
    have lj : j < n + 3 := by have := (List.getElem?_eq_some_iff.1 hj).1; simp at this; omega
    by_cases h3 : i = 2
    · subst h3; simp at hi; subst hi; simp [Value.ownBlock] at hv
    by_cases h4 : j = 2
    · subst h4; simp at hj; subst hj; simp [Value.ownBlock] at hu
    obtain ⟨i', i1, i2, i3, -⟩ := key i li h3
    obtain ⟨j', j1, j2, j3, -⟩ := key j lj h4
    refine e2.apart i' j' v u b ?_ (i3.symm.trans hi) (j3.symm.trans hj) hv hu
    rw [i2, j2]
    repeat' split
    all_goals omega
/-- The state in a family. -/
theorem OwL.of_wf (h : WF lo Er cr n U st.vs st.cs rn st.rs w) (hn : n = st.vs.length) (h0 : U[0]? = some (.slice A n c)) (h2 : U[1]? = some (.slice C m d)) : OwL lo w.heap.size A n c Er n cr C m d st w := by
  have hul := h.ul
  have hrl := h.rl
  have hdl : (U.drop 3).length = n := by rw [List.length_drop]; omega
  have hr : m = st.cs.length := by
    obtain ⟨A', m', c', e1, e2, -⟩ := h.at_ 1 (by omega)
    rw [h2] at e1
    cases e1
    simpa [lenOf] using e2
  have key : ∀ j, j < n + 2 → ∃ i, i < n + 3 ∧ (i = if j = 0 then 0 else if j ≤ n then j + 2 else 1) ∧ (Value.slice A n c :: (U.drop 3 ++ [.slice C m d]))[j]? = U[i]? ∧ (rowsL st).getD j [] = (st.vs :: st.cs :: rn :: st.rs).getD i [] := by
    intro j hj
    cases j with
    | zero => exact ⟨0, by omega, by simp, by rw [h0]; rfl, by simp [rowsL]⟩
    | succ j =>
      rcases Nat.lt_or_ge j n with h1 | h1
      · refine ⟨j + 3, by omega, by rw [if_neg (by omega), if_pos (by omega)], ?_, ?_⟩
        · rw [List.getElem?_cons_succ, List.getElem?_append_left (by omega), List.getElem?_drop, Nat.add_comm]
        · simp only [rowsL, List.getD_cons_succ]
          rw [List.getD_eq_getElem?_getD, List.getElem?_append_left (by omega), ← List.getD_eq_getElem?_getD]
      · obtain rfl : j = n := by omega
        refine ⟨1, by omega, by rw [if_neg (by omega), if_neg (by omega)], ?_, ?_⟩
        · rw [List.getElem?_cons_succ, List.getElem?_append_right (by omega), hdl, Nat.sub_self, h2]; rfl
        · simp only [rowsL, List.getD_cons_succ]
          rw [List.getD_eq_getElem?_getD, List.getElem?_append_right (by omega), ← hrl, Nat.sub_self]
          rfl
  refine ⟨hn, hrl, hr, U.drop 3, ⟨h.top, fun q hq => (h.top.lt q hq).2⟩, ⟨fun j hj => ?_, fun i j v u b hij hi hj hv hu => ?_⟩⟩
  · have hj' : j < n + 2 := by simp at hj; omega
    obtain ⟨i, i1, -, i3, i4⟩ := key j hj'
    obtain ⟨A', m', c', e1, e2, e3⟩ := h.fam.row i (by omega)
    refine ⟨A', m', c', i3.trans e1, ?_, ?_⟩
    · rw [e2]; unfold lenOf; rw [i4]
    · unfold rowOf at e3 ⊢
      rw [i4]
      exact e3
  · have li : i < n + 2 := by
      have := (List.getElem?_eq_some_iff.1 hi).1
      simp at this; omega
    have lj : j < n + 2 := by
      have := (List.getElem?_eq_some_iff.1 hj).1
      simp at this; omega
    obtain ⟨i', i1, i2, i3, -⟩ := key i li
    obtain ⟨j', j1, j2, j3, -⟩ := key j lj
    refine h.fam.apart i' j' v u b ?_ (i3.symm.trans hi) (j3.symm.trans hj) hv hu
    rw [i2, j2]
    repeat' split
    all_goals omega
end
/-- Only the block g of old memory was written. -/
structure Frm (g : Nat) (w w' : World) : Prop where
  os : w'.os = w.os
  tape : w'.tape = w.tape
  output : w'.output = w.output
  size : w.heap.size ≤ w'.heap.size
  block : ∀ k, k < w.heap.size → k ≠ g → w'.heap[k]? = w.heap[k]?
section
variable {g b B C : Nat} {vs : List Value} {w w' w'' : World} {t : TypeId}
theorem Frm.refl (g : Nat) (w : World) : Frm g w w := ⟨rfl, rfl, rfl, Nat.le_refl _, fun _ _ _ => rfl⟩
theorem Frm.trans (h : Frm g w w') (h' : Frm g w' w'') : Frm g w w'' :=
  ⟨h'.os.trans h.os, h'.tape.trans h.tape, h'.output.trans h.output, Nat.le_trans h.size h'.size, fun k hk hg => (h'.block k (Nat.lt_of_lt_of_le hk h.size) hg).trans (h.block k hk hg)⟩
theorem Frm.of_below (h : Below C w w') (hC : w.heap.size ≤ C) : Frm g w w' := ⟨h.os, h.tape, h.output, h.size, fun k hk _ => h.block k (by omega)⟩
theorem Frm.below (h : Frm g w w') (hB : B ≤ g) (hw : B ≤ w.heap.size) : Below B w w' := ⟨h.os, h.tape, h.output, h.size, fun k hk => h.block k (by omega) (by omega)⟩
theorem Frm.set (w : World) (g j : Nat) (v : Value) : Frm g w (w.setCell ⟨g, j, none⟩ v) :=
  ⟨by simp [World.setCell], by simp [World.setCell], by simp [World.setCell], by simp [World.setCell], fun k _ hg => Below.heap_setCell _ _ _ _ (by simpa using fun h => hg h)⟩
theorem Bx.frm (h : Bx b vs w) (hf : Frm g w w') (hb : b ≠ g) : Bx b vs w' := h.keepB (hf.block b h.lt hb) hf.size
end
/-- The rows of a state, all of them in blocks from B to hi. -/
structure WQ (B hi : Nat) (Er : Option Addr) (cr n : Nat) (U : List Value) (vs ch rn : List Int) (rs : List (List Int)) (w : World) : Prop where
  ul : U.length = n + 3
  rl : n = rs.length
  fam : SSk B hi U (lenOf (vs :: ch :: rn :: rs)) (rowOf (vs :: ch :: rn :: rs)) w
  top : OwR B hi 25 1 (.slice Er n cr) n (U.drop 3) w
section
variable {B hi n cr : Nat} {Er : Option Addr} {U : List Value} {vs ch rn : List Int} {rs : List (List Int)} {w w' : World}
theorem WF.q (h : WF B Er cr n U vs ch rn rs w) : WQ B w.heap.size Er cr n U vs ch rn rs w := ⟨h.ul, h.rl, h.fam, h.top, fun q hq => (h.top.lt q hq).2⟩
theorem WQ.f (h : WQ B hi Er cr n U vs ch rn rs w) (hh : hi ≤ w.heap.size) : WF B Er cr n U vs ch rn rs w := ⟨h.ul, h.rl, h.fam.mono (Nat.le_refl _) hh, h.top.1⟩
theorem WQ.keep (h : WQ B hi Er cr n U vs ch rn rs w) (hk : ∀ k, B ≤ k → k < hi → w'.heap[k]? = w.heap[k]?) : WQ B hi Er cr n U vs ch rn rs w' := ⟨h.ul, h.rl, h.fam.keep hk, h.top.keep hk⟩
theorem WQ.setC {gc cc q : Nat} (h : WQ B hi Er cr n U vs ch rn rs w) (hh : hi ≤ w.heap.size) (h1 : U[1]? = some (.slice (some ⟨gc, 0, none⟩) n cc)) (x : Int) : WQ B hi Er cr n U vs (ch.set q x) rn rs (w.setCell ⟨gc, q, none⟩ (.int .i64 x)) := by
  have h2 := (h.f hh).setC (q := q) h1 x
  refine ⟨h.ul, h.rl, ⟨fun j hj => ?_, h.fam.apart⟩, h2.top, h.top.2⟩
  obtain ⟨A, m, c, e1, e2, e3⟩ := h2.fam.row j hj
  obtain ⟨A', m', c', r1, r2, r3⟩ := h.fam.row j hj
  rw [e1] at r1
  cases r1
  exact ⟨A, m, c, e1, e2, e3.1, r3.2⟩
end
end Go.Proofs.YtlcpgbbpjnkihaaGreat
