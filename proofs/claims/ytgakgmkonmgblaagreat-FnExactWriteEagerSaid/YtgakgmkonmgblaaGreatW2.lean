/- The family of an eager machine that is written: from and to a state; boxes beside it. -/
import Derived.Test.YtgakgmkonmgblaaGreatW1
import Derived.Test.YtgakgmkonmgblaaGreatA3

namespace Go.Proofs.YtgakgmkonmgblaaGreat
set_option linter.unusedSimpArgs false
set_option linter.unusedVariables false
open Go.RowKit

section
variable {B n c cr : Nat} {A Er : Option Addr} {U : List Value} {vs ch rn : List Int} {rs : List (List Int)} {st : Eg} {w w' : World}
/-- A state of one's own is a family in which nothing changed or ran. -/
theorem WF.of_own (h : OwE B w.heap.size A n c Er n cr st w) : ∃ U, WF B Er cr n U st.vs [] [] st.rs w ∧ U[0]? = some (.slice A n c) ∧ U[1]? = some (.slice none 0 0) ∧ U[2]? = some (.slice none 0 0) := by
  obtain ⟨h0, h1, us, e1, e2⟩ := h
  have hul : us.length = n := by have := e1.1.1; omega
  refine ⟨.slice A n c :: .slice none 0 0 :: .slice none 0 0 :: us, ⟨by simp [hul], h1, ⟨fun j hj => ?_, fun i j v u k hij hi hj hv hu => ?_⟩, by simpa using e1.1⟩, rfl, rfl, rfl⟩
  · match j, hj with
    | 0, _ =>
      obtain ⟨A', m, c', r1, r2, r3⟩ := e2.row 0 (by simp)
      exact ⟨A', m, c', by simpa using r1, by simpa [lenOf, rowsE] using r2, by simpa [rowOf, rowsE] using r3⟩
    | 1, _ => exact ⟨none, 0, 0, rfl, by simp [lenOf], by simpa [rowOf] using OwR.nil _ _ _ _ _⟩
    | 2, _ => exact ⟨none, 0, 0, rfl, by simp [lenOf], by simpa [rowOf] using OwR.nil _ _ _ _ _⟩
    | j + 3, hj =>
      obtain ⟨A', m, c', r1, r2, r3⟩ := e2.row (j + 1) (by simp at hj ⊢; omega)
      exact ⟨A', m, c', by simpa using r1, by simpa [lenOf, rowsE] using r2, by simpa [rowOf, rowsE] using r3⟩
  · match i, j, hij, hi, hj with
    | 0, 0, hij, _, _ => exact hij rfl
    | 0, 1, _, _, hj => simp at hj; subst hj; simp [Value.ownBlock] at hu
    | 0, 2, _, _, hj => simp at hj; subst hj; simp [Value.ownBlock] at hu
    | 0, j + 3, _, hi, hj => exact e2.apart 0 (j + 1) v u k (by omega) (by simpa using hi) (by simpa using hj) hv hu
    | 1, _, _, hi, _ => simp at hi; subst hi; simp [Value.ownBlock] at hv
    | 2, _, _, hi, _ => simp at hi; subst hi; simp [Value.ownBlock] at hv
    | i + 3, 0, _, hi, hj => exact e2.apart (i + 1) 0 v u k (by omega) (by simpa using hi) (by simpa using hj) hv hu
    | i + 3, 1, _, _, hj => simp at hj; subst hj; simp [Value.ownBlock] at hu
    | i + 3, 2, _, _, hj => simp at hj; subst hj; simp [Value.ownBlock] at hu
    | i + 3, j + 3, hij, hi, hj => exact e2.apart (i + 1) (j + 1) v u k (by omega) (by simpa using hi) (by simpa using hj) hv hu
/-- The state in a family. -/
theorem WF.own (h : WF B Er cr n U vs ch rn rs w) (h0 : U[0]? = some (.slice A n c)) : OwE B w.heap.size A n c Er n cr ⟨vs, rs⟩ w := by
  obtain ⟨A', m, c', e1, e2, e3⟩ := h.at_ 0 (by omega)
  rw [h0] at e1
  cases e1
  refine ⟨by simpa [lenOf] using e2, h.rl, U.drop 3, ⟨h.top, fun q hq => (h.top.lt q hq).2⟩, ⟨fun j hj => ?_, fun i j v u k hij hi hj hv hu => ?_⟩⟩
  · cases j with
    | zero => exact ⟨_, _, _, rfl, by simpa [lenOf, rowsE] using e2, ⟨by simpa [rowOf, rowsE] using e3, fun q hq => (e3.lt q hq).2⟩⟩
    | succ j =>
      have hul := h.ul
      simp at hj
      obtain ⟨A2, m2, c2, r1, r2, r3⟩ := h.fam.row (j + 3) (by omega)
      refine ⟨A2, m2, c2, ?_, by simpa [lenOf, rowsE] using r2, by simpa [rowOf, rowsE] using r3⟩
      rw [List.getElem?_cons_succ, List.getElem?_drop, show 3 + j = j + 3 by omega]
      exact r1
  · cases i with
    | zero =>
      cases j with
      | zero => exact hij rfl
      | succ j =>
        rw [List.getElem?_cons_succ, List.getElem?_drop, show 3 + j = j + 3 by omega] at hj
        exact h.fam.apart 0 (j + 3) v u k (by omega) (by rw [h0]; simpa using hi) hj hv hu
    | succ i =>
      rw [List.getElem?_cons_succ, List.getElem?_drop, show 3 + i = i + 3 by omega] at hi
      cases j with
      | zero => exact h.fam.apart (i + 3) 0 v u k (by omega) hi (by rw [h0]; simpa using hj) hv hu
      | succ j =>
        rw [List.getElem?_cons_succ, List.getElem?_drop, show 3 + j = j + 3 by omega] at hj
        exact h.fam.apart (i + 3) (j + 3) v u k (by omega) hi hj hv hu
/-- An empty list of one's own for what changed or ran. -/
theorem WF.lit {J : Nat} (hJ : J = 1 ∧ ch = [] ∨ J = 2 ∧ rn = []) (hB : B ≤ w.heap.size) (h : WF B Er cr n U vs ch rn rs w) : WF B Er cr n (U.set J (.slice (some ⟨w.heap.size, 0, none⟩) 0 0)) vs ch rn rs (w.alloc (.cells #[] 3)) := by
  have hb : Below w.heap.size w (w.alloc (.cells #[] 3)) := (Below.refl _ _).alloc (Nat.le_refl _) _
  have hJ3 : J < 3 := by omega
  have hul := h.ul
  have hl : lenOf (vs :: ch :: rn :: rs) J = 0 ∧ rowOf (vs :: ch :: rn :: rs) J = [] := by
    rcases hJ with ⟨rfl, rfl⟩ | ⟨rfl, rfl⟩ <;> simp [lenOf, rowOf]
  have hlit := World.ownsRow_lit (e := 3) (size := 1) (base := w.heap.size) w #[] 0 (Nat.le_refl _) (by unfold maxLen; omega) (by simp)
  refine ⟨by rw [List.length_set]; exact hul, h.rl, ?_, ?_⟩
  · refine (h.fam.keep fun k _ hk => hb.block k hk).put (hi' := (w.alloc (.cells #[] 3)).heap.size) J ?_ (fun j hj => ?_) (fun j hj _ => ?_) hl.1.symm (fun j _ => ⟨rfl, rfl⟩) ⟨by rw [hl.2]; exact hlit, fun q hq => by cases hq; simp⟩ hB (by simp)
    · rw [List.getElem?_set, if_pos rfl, if_pos (by omega)]
    · rw [List.getElem?_set, if_neg (by omega)]
    · simpa using hj
  · have hd : (U.set J (.slice (some ⟨w.heap.size, 0, none⟩) 0 0)).drop 3 = U.drop 3 := by
      refine List.ext_getElem? fun i => ?_
      rw [List.getElem?_drop, List.getElem?_drop, List.getElem?_set, if_neg (by omega)]
    rw [hd]
    exact own_below h.top hb
/-- A row of the family lies apart from a block that holds something else. -/
theorem WF.tag {J b : Nat} {X : Value} {t : TypeId} (h : WF B Er cr n U vs ch rn rs w) (hJ : J < n + 3) (hX : U[J]? = some X) (hb : Tg b t w) (ht : (3 : TypeId) ≠ t) : X.ownBlock ≠ some b := by
  obtain ⟨A', m, c', e1, e2, e3⟩ := h.at_ J hJ
  rw [hX] at e1
  cases e1
  exact own_tag e3 hb ht
end
theorem Bx.keepB {b : Nat} {vs : List Value} {w w' : World} (h : Bx b vs w) (e : w'.heap[b]? = w.heap[b]?) (hs : w.heap.size ≤ w'.heap.size) : Bx b vs w' :=
  ⟨Nat.lt_of_lt_of_le h.lt hs, fun j v hv => (World.cell?_of_block (w := w) (a := ⟨b, j, none⟩) e).trans (h.c j v hv), fun j => (World.frozen?_of_block (w := w) (a := ⟨b, j, none⟩) e).trans (h.f j)⟩
/-- Boxes of a graph, of a state, and of an answer, one behind the other. -/
structure B3 (h : Nat) (g a b : Value) (w : World) : Prop where
  c0 : Bx h [g] w
  c1 : Bx (h + 1) [a, b] w
  c2 : Bx (h + 2) [.slice none 0 0, .slice none 0 0] w
  t0 : Tg h 25 w
  t1 : Tg (h + 1) 29 w
  t2 : Tg (h + 2) 29 w
section
variable {h : Nat} {g a b : Value} {w w' : World}
theorem B3.step (k : B3 h g a b w) (hb : Below w.heap.size w w') : B3 h g a b w' :=
  ⟨k.c0.step hb, k.c1.step hb, k.c2.step hb, k.t0.below hb k.c0.lt, k.t1.below hb k.c1.lt, k.t2.below hb k.c2.lt⟩
theorem B3.set (k : B3 h g a b w) {p : Addr} (hp : p.block < h ∨ h + 2 < p.block) (u : Value) : B3 h g a b (w.setCell p u) :=
  ⟨k.c0.other p (by omega) u, k.c1.other p (by omega) u, k.c2.other p (by omega) u, k.t0.set _ _, k.t1.set _ _, k.t2.set _ _⟩
theorem B3.grown {row : Option Nat} (k : B3 h g a b w) (hg : w.grownBy w' row) (hr : row ≠ some h ∧ row ≠ some (h + 1) ∧ row ≠ some (h + 2)) : B3 h g a b w' := by
  have e0 := hg.block h k.c0.lt (fun e => hr.1 e.symm)
  have e1 := hg.block (h + 1) k.c1.lt (fun e => hr.2.1 e.symm)
  have e2 := hg.block (h + 2) k.c2.lt (fun e => hr.2.2 e.symm)
  exact ⟨k.c0.keepB e0 hg.size, k.c1.keepB e1 hg.size, k.c2.keepB e2 hg.size, k.t0.keep e0, k.t1.keep e1, k.t2.keep e2⟩
theorem B3.new (w : World) (g a b : Value) : B3 w.heap.size g a b (((w.alloc (.cells #[g] 25)).alloc (.cells #[a, b] 29)).alloc (.cells #[.slice none 0 0, .slice none 0 0] 29)) := by
  have h0 := Bx.start w #[g] 25
  have h1 := Bx.start (w.alloc (.cells #[g] 25)) #[a, b] 29
  have h2 := Bx.start ((w.alloc (.cells #[g] 25)).alloc (.cells #[a, b] 29)) #[.slice none 0 0, .slice none 0 0] 29
  have s0 := Tg.new w #[g] 25 (0, 0)
  have s1 := Tg.new (w.alloc (.cells #[g] 25)) #[a, b] 29 (0, 0)
  have s2 := Tg.new ((w.alloc (.cells #[g] 25)).alloc (.cells #[a, b] 29)) #[.slice none 0 0, .slice none 0 0] 29 (0, 0)
  have b1 : Below (w.alloc (.cells #[g] 25)).heap.size (w.alloc (.cells #[g] 25)) _ := (Below.refl _ _).alloc (Nat.le_refl _) (.cells #[a, b] 29)
  have b2 : Below ((w.alloc (.cells #[g] 25)).alloc (.cells #[a, b] 29)).heap.size ((w.alloc (.cells #[g] 25)).alloc (.cells #[a, b] 29)) _ := (Below.refl _ _).alloc (Nat.le_refl _) (.cells #[.slice none 0 0, .slice none 0 0] 29)
  simp only [World.size_alloc] at h1 h2 s1 s2
  exact ⟨(h0.step b1).step b2, h1.step b2, h2, (s0.below b1 h0.lt).below b2 (h0.step b1).lt, s1.below b2 h1.lt, s2⟩
end
end Go.Proofs.YtgakgmkonmgblaaGreat
