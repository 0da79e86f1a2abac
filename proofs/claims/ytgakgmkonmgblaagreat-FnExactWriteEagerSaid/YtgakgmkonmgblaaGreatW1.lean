/- An eager machine that is written in place: values, what changed, what ran and the reads as one family of rows. -/
import Derived.Test.YtgakgmkonmgblaaGreatA2

namespace Go.Proofs.YtgakgmkonmgblaaGreat
set_option linter.unusedSimpArgs false
set_option linter.unusedVariables false
open Go.RowKit

/-- Values, what changed, what ran, and the reads, in rows of one's own from block B on; the row of the reads lies at gr. -/
structure WF (B : Nat) (Er : Option Addr) (cr n : Nat) (U : List Value) (vs ch rn : List Int) (rs : List (List Int)) (w : World) : Prop where
  ul : U.length = n + 3
  rl : n = rs.length
  fam : SSk B w.heap.size U (lenOf (vs :: ch :: rn :: rs)) (rowOf (vs :: ch :: rn :: rs)) w
  top : w.ownsRow B 26 1 (.slice Er n cr) n (U.drop 3)
theorem lenOf_set {a a' : List Int} {xs : List (List Int)} (h : a'.length = a.length) : lenOf (a' :: xs) = lenOf (a :: xs) := by
  funext j
  cases j with
  | zero => simp [lenOf, h]
  | succ j => simp [lenOf]
section
variable {B gr cr n : Nat} {Er : Option Addr} {U : List Value} {vs ch rn : List Int} {rs : List (List Int)} {w w' : World}
theorem WF.step (h : WF B Er cr n U vs ch rn rs w) (hb : Below w.heap.size w w') : WF B Er cr n U vs ch rn rs w' :=
  ⟨h.ul, h.rl, (h.fam.keep fun k _ hk => hb.block k hk).mono (Nat.le_refl _) hb.size, own_below h.top hb⟩
theorem WF.at_ (h : WF B Er cr n U vs ch rn rs w) (j : Nat) (hj : j < n + 3) : ∃ A m c, U[j]? = some (.slice A m c) ∧ m = lenOf (vs :: ch :: rn :: rs) j ∧ w.ownsRow B 3 1 (.slice A m c) m (rowOf (vs :: ch :: rn :: rs) j) := by
  obtain ⟨A, m, c, e1, e2, e3⟩ := h.fam.row j (by rw [h.ul]; exact hj)
  exact ⟨A, m, c, e1, e2, e3.1⟩
theorem WF.cell (h : WF B (some ⟨gr, 0, none⟩) cr n U vs ch rn rs w) (j : Nat) (hj : j < n) : w.cell? ⟨gr, j, none⟩ = U[j + 3]? ∧ w.frozen? ⟨gr, j, none⟩ = false := by
  have h1 := h.top.cellAt j (by omega)
  rw [List.getElem?_drop] at h1
  rw [show 3 + j = j + 3 by omega] at h1
  exact ⟨h1, h.top.frozenAt j⟩
theorem ints_of_own {base m c : Nat} {A : Option Addr} {xs : List Int} (hm : m = xs.length) (h : w.ownsRow base 3 1 (.slice A m c) m (xs.map (Value.int .i64))) : IS w w.heap.size A xs := by
  subst hm
  have h' : OwnI w base (.slice A xs.length c) xs := h
  obtain ⟨A', c', e, hI⟩ := h'.form
  simp only [Value.slice.injEq] at e
  obtain ⟨rfl, _⟩ := e
  exact hI
/-- The list that node j reads. -/
theorem WF.reads (h : WF B (some ⟨gr, 0, none⟩) cr n U vs ch rn rs w) (j : Nat) (hj : j < n) : ∃ A m c, w.cell? ⟨gr, j, none⟩ = some (.slice A m c) ∧ m = (rs.getD j []).length ∧ IS w w.heap.size A (rs.getD j []) := by
  obtain ⟨A, m, c, e1, e2, e3⟩ := h.at_ (j + 3) (by omega)
  have hl : m = (rs.getD j []).length := by rw [e2]; simp [lenOf]
  exact ⟨A, m, c, (h.cell j hj).1.trans e1, hl, ints_of_own hl (by simpa [rowOf] using e3)⟩
/-- One value is written. -/
theorem WF.setV {gv cv q : Nat} (h : WF B Er cr n U vs ch rn rs w) (h0 : U[0]? = some (.slice (some ⟨gv, 0, none⟩) n cv)) (x : Int) : WF B Er cr n U (vs.set q x) ch rn rs (w.setCell ⟨gv, q, none⟩ (.int .i64 x)) := by
  obtain ⟨A, m, c, e1, e2, e3⟩ := h.at_ 0 (by omega)
  rw [h0] at e1
  cases e1
  have hsz : (w.setCell ⟨gv, q, none⟩ (.int .i64 x)).heap.size = w.heap.size := by simp [World.setCell]
  refine ⟨h.ul, h.rl, ?_, World.ownsRow.kept h.top (e3.stored q (.int .i64 x)).2 (blocks_ne h.top e3 ints_ne_int.symm)⟩
  rw [hsz, lenOf_set (show (vs.set q x).length = vs.length from List.length_set)]
  refine h.fam.put1 h0 ?_ fun i hi => ?_
  · simp [rowOf, List.map_set]
  · cases i with
    | zero => exact absurd rfl hi
    | succ i => simp [rowOf]
/-- One number more in what changed (J = 1) or ran (J = 2). -/
theorem WF.app {J m' c' : Nat} {A' : Option Addr} {X : Value} {o : Obj} {x : Int} {ch' rn' : List Int} (h : WF B Er cr n U vs ch rn rs w) (hJ : J = 1 ∧ ch' = ch ++ [x] ∧ rn' = rn ∨ J = 2 ∧ ch' = ch ∧ rn' = rn ++ [x]) (hX : U[J]? = some X) (hown : w'.ownsRow B 3 1 (.slice A' m' c') m' (rowOf (vs :: ch :: rn :: rs) J ++ [.int .i64 x])) (hm : m' = lenOf (vs :: ch :: rn :: rs) J + 1)
    (hg : (w.alloc o).grownBy w' X.ownBlock) (hb : (Value.slice A' m' c').ownBlock = X.ownBlock ∨ (Value.slice A' m' c').ownBlock = some (w.alloc o).heap.size) : WF B Er cr n (U.set J (.slice A' m' c')) vs ch' rn' rs w' := by
  have hs := h.step ((Below.refl _ _).alloc (Nat.le_refl _) o)
  have hJ3 : J < 3 := by omega
  obtain ⟨A, m, c, e1, e2, e3⟩ := hs.at_ J (by omega)
  rw [hX] at e1
  cases e1
  have hl : lenOf (vs :: ch' :: rn' :: rs) J = lenOf (vs :: ch :: rn :: rs) J + 1 ∧ rowOf (vs :: ch' :: rn' :: rs) J = rowOf (vs :: ch :: rn :: rs) J ++ [.int .i64 x] ∧ ∀ j, j ≠ J → lenOf (vs :: ch' :: rn' :: rs) j = lenOf (vs :: ch :: rn :: rs) j ∧ rowOf (vs :: ch' :: rn' :: rs) j = rowOf (vs :: ch :: rn :: rs) j := by
    rcases hJ with ⟨rfl, rfl, rfl⟩ | ⟨rfl, rfl, rfl⟩
    · refine ⟨by simp [lenOf], by simp [rowOf], fun j hj => ?_⟩
      match j, hj with
      | 0, _ => simp [lenOf, rowOf]
      | 1, h => exact absurd rfl h
      | j + 2, _ => simp [lenOf, rowOf]
    · refine ⟨by simp [lenOf], by simp [rowOf], fun j hj => ?_⟩
      match j, hj with
      | 0, _ => simp [lenOf, rowOf]
      | 1, _ => simp [lenOf, rowOf]
      | 2, h => exact absurd rfl h
      | j + 3, _ => simp [lenOf, rowOf]
  refine ⟨by rw [List.length_set]; exact h.ul, h.rl, hs.fam.grow (Nat.le_refl _) hX hg hown hb (by rw [hl.1]; exact hm.symm) hl.2.1 hl.2.2, ?_⟩
  have hd : (U.set J (.slice A' m' c')).drop 3 = U.drop 3 := by
    refine List.ext_getElem? fun i => ?_
    rw [List.getElem?_drop, List.getElem?_drop, List.getElem?_set, if_neg (by omega)]
  rw [hd]
  exact World.ownsRow.kept hs.top hg (blocks_ne hs.top e3 ints_ne_int.symm)
/-- A node reads another list, that lies in new blocks. -/
theorem WF.putR {i m c : Nat} {A : Option Addr} {D : List Int} (h : WF B (some ⟨gr, 0, none⟩) cr n U vs ch rn rs w) (hi : i < n) (hB : B ≤ w.heap.size) (hb : Below w.heap.size w w') (hd : w'.ownsRow w.heap.size 3 1 (.slice A m c) m (D.map (Value.int .i64))) (hm : m = D.length) :
    WF B (some ⟨gr, 0, none⟩) cr n (U.set (i + 3) (.slice A m c)) vs ch rn (rs.set i D) (w'.setCell ⟨gr, i, none⟩ (.slice A m c)) := by
  have ht := own_below h.top hb
  have hst := ht.stored i (.slice A m c)
  have hul := h.ul
  have hrl := h.rl
  have hsz : (w'.setCell ⟨gr, i, none⟩ (.slice A m c)).heap.size = w'.heap.size := by simp [World.setCell]
  have hf := h.fam.keep (w' := w') fun q _ hq => hb.block q hq
  have hf2 := hf.grown hst.2 (hf.ne ht ints_ne_int)
  have hd2 := World.ownsRow.kept hd hst.2 (blocks_ne hd ht ints_ne_int)
  have hrow : rowOf (vs :: ch :: rn :: rs.set i D) (i + 3) = D.map (Value.int .i64) := by
    simp only [rowOf, List.getD_cons_succ]
    rw [show (rs.set i D).getD i [] = D by simp [List.getD, show i < rs.length by omega]]
  have hlen : lenOf (vs :: ch :: rn :: rs.set i D) (i + 3) = D.length := by
    simp only [lenOf, List.getD_cons_succ]
    rw [show (rs.set i D).getD i [] = D by simp [List.getD, show i < rs.length by omega]]
  rw [← hrow] at hd2
  refine ⟨by rw [List.length_set]; exact hul, by rw [List.length_set]; exact hrl, ?_, ?_⟩
  · rw [hsz]
    refine hf2.put (hi' := w'.heap.size) (i + 3) ?_ (fun j hj => ?_) (fun j hj _ => ?_) (by rw [hlen]; exact hm) (fun j hj => ?_) ⟨hd2, fun q hq => by have := (hd2.lt q hq).2; rw [hsz] at this; exact this⟩ hB hb.size
    · rw [List.getElem?_set, if_pos rfl, if_pos (by omega)]
    · rw [List.getElem?_set, if_neg (by omega)]
    · simpa using hj
    · match j, hj with
      | 0, _ => simp [lenOf, rowOf]
      | 1, _ => simp [lenOf, rowOf]
      | 2, _ => simp [lenOf, rowOf]
      | j + 3, hj =>
        have hne : ¬ i = j := by omega
        simp [lenOf, rowOf, List.getD, List.getElem?_set, hne]
  · have e : (U.set (i + 3) (.slice A m c)).drop 3 = (U.drop 3).set i (.slice A m c) := by
      refine List.ext_getElem? fun j => ?_
      rw [List.getElem?_drop, List.getElem?_set, List.getElem?_set, List.getElem?_drop, List.length_drop]
      by_cases hij : i = j
      · subst hij
        rw [if_pos (by omega), if_pos rfl, if_pos (by omega), if_pos (by omega)]
      · rw [if_neg (by omega), if_neg hij]
    rw [e]
    exact hst.1
end
end Go.Proofs.YtgakgmkonmgblaaGreat
