/- The tree of open owners while owners are cleared: what keeps it. -/
import Derived.Test.YtkfglodjnnlbkaaT9a
import Derived.Test.YtkfglodjnnlbkaaV26

namespace Go.Proofs.Ytkfglodjnnlbkaa
set_option linter.unusedSimpArgs false
set_option linter.unusedVariables false
open Go.RowKit Go.Maps

theorem hold_ne_int : (3 : TypeId) ≠ 80 := by decide
theorem ptr_ne_int : (57 : TypeId) ≠ 3 := by decide
theorem tree_ne_int : (3 : TypeId) ≠ 60 := by decide
section
variable {lo k : Nat} {lb : Nat → Option Nat} {R : Nat → List Nat} {V : List Value} {C X : Nat → Value} {ds : List On} {w w' : World}
/-- Growth elsewhere keeps the tree. -/
theorem TrW.other {row : Option Nat} (h : TrW lo k lb R V C X ds w) (hg : w.grownBy w' row) (h1 : ∀ j g, lb j = some g → row ≠ some g) (h2 : ∀ (j : Nat) (v : Value), V[j]? = some v → v.ownBlock = none ∨ v.ownBlock ≠ row) : TrW lo k lb R V C X ds w' := by
  refine ⟨h.vl, fun j g hj => ?_, h.inj, (h.rows.grown hg h2).mono (Nat.le_refl _) hg.size, h.small, h.out⟩
  obtain ⟨b0, b1, b2, b3⟩ := h.bx j g hj
  have e := hg.block g b1.lt (fun e => h1 j g hj e.symm)
  exact ⟨b0, Bx.keepE b1 e hg.size, b2.keep e, b3⟩
/-- A block that holds no cells was written. -/
theorem TrW.kept {row : Option Nat} (h : TrW lo k lb R V C X ds w) (hg : w.grownBy w' row) (hr : ∀ r, row = some r → ∃ o : Obj, w.heap[r]? = some o ∧ o.isCells = false) : TrW lo k lb R V C X ds w' := by
  refine h.other hg (fun j g hj e => ?_) fun j v hv => ?_
  · obtain ⟨o, ho, hc⟩ := hr g e
    obtain ⟨arr, fr, hb⟩ := (h.bx j g hj).2.2.1
    rw [hb] at ho; cases ho; cases hc
  · by_cases e : v.ownBlock = row
    · left
      have hj : j < V.length := (List.getElem?_eq_some_iff.1 hv).1
      obtain ⟨A, m, c, e1, e2, e3⟩ := h.rows.row j hj
      rw [hv] at e1
      cases e1
      rcases e3.1.2 with ⟨hn, _⟩ | ⟨g', cap, cur, hv', _, hgb, _⟩
      · rw [hn]; rfl
      · have hb : (Value.slice A m c).ownBlock = some g' := by rw [hv']; rfl
        obtain ⟨o, ho, hc⟩ := hr g' (by rw [← e, hb])
        rw [hgb] at ho; cases ho; cases hc
    · exact .inr e
/-- A row of numbers grew. -/
theorem TrW.ints {lo' n : Nat} {v : Value} {xs : List Value} (h : TrW lo k lb R V C X ds w) (hu : w.ownsRow lo' 3 1 v n xs) (hg : w.grownBy w' v.ownBlock) : TrW lo k lb R V C X ds w' :=
  h.other hg (fun j g hj => own_tag hu (h.bx j g hj).2.2.1 hold_ne_int) (h.rows.ne hu ptr_ne_int)
/-- A holder has nothing to clean up any more. -/
theorem TrW.setC (h : TrW lo k lb R V C X ds w) {j g : Nat} (hj : lb j = some g) (u : Value) : TrW lo k lb R V (fun i => if i = j then u else C i) X ds (w.setCell ⟨g, 4, none⟩ u) := by
  have hTg := (h.bx j g hj).2.2.1
  refine ⟨h.vl, fun i g' hi => ?_, h.inj, ?_, h.small, h.out⟩
  · obtain ⟨b0, b1, b2, b3⟩ := h.bx i g' hi
    refine ⟨b0, ?_, b2.set _ _, b3⟩
    by_cases e : i = j
    · subst e
      rw [hj] at hi
      cases hi
      rw [if_pos rfl]
      exact b1.set 4 (by simp) u
    · rw [if_neg e]
      exact b1.other _ (fun e2 => e (h.inj i j g' hi (by rw [hj]; exact congrArg some e2.symm))) _
  · have e : (w.setCell ⟨g, 4, none⟩ u).heap.size = w.heap.size := by simp [World.setCell]
    rw [e]
    exact h.rows.setT hTg hold_ne_ptr 4 u
/-- The tree's box was written. -/
theorem TrW.setB (h : TrW lo k lb R V C X ds w) {b : Nat} (hb : Tg b 60 w) (hlt : b < lo) (j : Nat) (u : Value) (hne : (57 : TypeId) ≠ 60) : TrW lo k lb R V C X ds (w.setCell ⟨b, j, none⟩ u) := by
  have e : (w.setCell ⟨b, j, none⟩ u).heap.size = w.heap.size := by simp [World.setCell]
  refine ⟨h.vl, fun i g' hi => ?_, h.inj, ?_, h.small, h.out⟩
  · obtain ⟨b0, b1, b2, b3⟩ := h.bx i g' hi
    exact ⟨b0, b1.other _ (by show g' ≠ b; omega) _, b2.set _ _, b3⟩
  · rw [e]
    exact h.rows.setT hb hne j u
end
end Go.Proofs.Ytkfglodjnnlbkaa
