/- The tree of open owners while owners are cleared: its state, and what the steps do to it. -/
import Derived.Test.YtkfglodjnnlbkaaT10a
import Derived.Test.YtkfglodjnnlbkaaV29
import Derived.Test.YtkfglodjnnlbkaaM40

namespace Go.Proofs.Ytkfglodjnnlbkaa
set_option linter.unusedSimpArgs false
set_option linter.unusedVariables false
open Go.RowKit Go.Maps

theorem ptr_ne_tree : (57 : TypeId) ≠ 60 := by decide
/-- The tree, when the owners are es and the labels mt were met. -/
structure ClW (lo B tb mb n : Nat) (lb : Nat → Option Nat) (V : List Value) (X C : Nat → Value) (cm : Nat) (mv : Value) (ds es : List On) (mt : List Int) (w : World) : Prop where
  tr : TrW lo n lb (kdN ds n) V C X ds w
  mp : MpH w mb cm (mf fun j => if isO es j then lb j else none)
  bx : Bx tb [.map (some mb), mv] w
  tg : Tg tb 60 w
  me : w.ownsRow lo 3 1 mv mt.length (mt.map (Value.int .i64))
  cl : ∀ (j g : Nat), lb j = some g → ∃ A m c, C j = .slice A m c ∧ m = (clO es j).length ∧ m ≤ 5 ∧ IS w B A (clO es j)
  bs : B ≤ mb ∧ mb < tb ∧ tb < lo
section
variable {lo B tb mb n cm : Nat} {lb : Nat → Option Nat} {V : List Value} {X C : Nat → Value} {mv : Value} {ds es : List On} {mt : List Int} {w w' : World}
theorem ClW.below (h : ClW lo B tb mb n lb V X C cm mv ds es mt w) (hb : Below w.heap.size w w') : ClW lo B tb mb n lb V X C cm mv ds es mt w' :=
  ⟨h.tr.step hb, h.mp.step hb, h.bx.step hb, h.tg.below hb h.bx.lt, own_below h.me hb, fun j g hj => by
    obtain ⟨A, m, c, e1, e2, e3, e4⟩ := h.cl j g hj
    exact ⟨A, m, c, e1, e2, e3, e4.below hb (by have := h.bs; have := h.bx.lt; omega)⟩, h.bs⟩
theorem IS.grownC {row : Option Nat} {A : Option Addr} {xs : List Int} (h : IS w B A xs) (hg : w.grownBy w' row) (hr : ∀ r, row = some r → B ≤ r) (hB : B ≤ w.heap.size) : IS w' B A xs :=
  h.keep fun p hp => World.cell?_of_block (hg.block p.block (by omega) (fun e => by have := hr _ e.symm; omega))
/-- A block that holds no cells, and is not the map, was written. -/
theorem ClW.kept {row : Option Nat} (h : ClW lo B tb mb n lb V X C cm mv ds es mt w) (hg : w.grownBy w' row) (hr : ∀ r, row = some r → lo ≤ r ∧ ∃ o : Obj, w.heap[r]? = some o ∧ o.isCells = false) : ClW lo B tb mb n lb V X C cm mv ds es mt w' := by
  have hbs := h.bs
  have hne : ∀ q, q < lo → some q ≠ row := fun q hq e => by have := (hr q e.symm).1; omega
  refine ⟨h.tr.kept hg fun r e => (hr r e).2, h.mp.grown hg (hne mb (by omega)), Bx.keepE h.bx (hg.block tb h.bx.lt (hne tb (by omega))) hg.size, h.tg.keep (hg.block tb h.bx.lt (hne tb (by omega))), World.ownsRow.kept h.me hg ?_, fun j gj hj => ?_, h.bs⟩
  · rcases h.me.2 with ⟨hn, _⟩ | ⟨g', cap, cur, hv', _, hgb, _⟩
    · left; rw [hn]; rfl
    · right
      intro e
      have hb : mv.ownBlock = some g' := by rw [hv']; rfl
      obtain ⟨_, o, ho, hc⟩ := hr g' (by rw [← e, hb])
      rw [hgb] at ho; cases ho; cases hc
  · obtain ⟨A, m, c, e1, e2, e3, e4⟩ := h.cl j gj hj
    exact ⟨A, m, c, e1, e2, e3, e4.grownC hg (fun r e => by have := (hr r e).1; omega) (by have := h.bx.lt; omega)⟩
/-- An owner was taken out of the map. -/
theorem ClW.shut {b : Nat} (h : ClW lo B tb mb n lb V X C cm mv ds es mt w) (hbl : b < es.length) (hM : MpH w' mb cm (fun j => if j = (b : Int) then none else mf (fun j => if isO es j then lb j else none) j)) (hg : w.grownBy w' (some mb)) : ClW lo B tb mb n lb V X C cm mv ds (Go.Proofs.Ytkfglodjnnlbkaa.shut es b) mt w' := by
  have hbs := h.bs
  refine ⟨h.tr.map hg (by omega), hM.congr fun j _ _ => ?_, Bx.keepE h.bx (hg.block tb h.bx.lt (by simp; omega)) hg.size, h.tg.keep (hg.block tb h.bx.lt (by simp; omega)), World.ownsRow.kept h.me hg (.inr fun e => ?_), fun j gj hj => ?_, h.bs⟩
  · unfold mf
    by_cases h0 : j < 0
    · rw [if_pos h0, if_pos h0]; split <;> rfl
    · rw [if_neg h0, if_neg h0]
      dsimp only
      rw [isO_shut es b _ hbl]
      by_cases e : j = (b : Int)
      · rw [if_pos e, if_pos (show j.toNat = b by omega)]; rfl
      · rw [if_neg e, if_neg (show ¬ j.toNat = b by omega)]
  · have := (h.me.lt mb e).1
    omega
  · obtain ⟨A, m, c, e1, e2, e3, e4⟩ := h.cl j gj hj
    exact ⟨A, m, c, e1, by rw [clO_shut]; exact e2, e3, by rw [clO_shut]; exact e4.grownC hg (fun r e => by cases e; exact hbs.1) (by have := h.bx.lt; omega)⟩
/-- A holder has nothing to clean up any more. -/
theorem ClW.wipe {o g : Nat} (h : ClW lo B tb mb n lb V X C cm mv ds es mt w) (hol : o < es.length) (hj : lb o = some g) : ClW lo B tb mb n lb V X (fun i => if i = o then .slice none 0 0 else C i) cm mv ds (Go.Proofs.Ytkfglodjnnlbkaa.wipe es o) mt (w.setCell ⟨g, 4, none⟩ (.slice none 0 0)) := by
  have hbs := h.bs
  have hgl := (h.tr.bx o g hj).2.2.2
  have hTg := (h.tr.bx o g hj).2.2.1
  refine ⟨h.tr.setC hj _, ?_, h.bx.other _ (by show tb ≠ g; omega) _, h.tg.set _ _, own_setT h.me hTg hold_ne_int 4 none _, fun j gj hjn => ?_, h.bs⟩
  · have e : (fun j => if isO (Go.Proofs.Ytkfglodjnnlbkaa.wipe es o) j then lb j else none) = fun j => if isO es j then lb j else none := by funext j; rw [isO_wipe]
    rw [e]
    exact h.mp.setCell _ (by show mb ≠ g; omega) _
  · rw [clO_wipe es o j hol]
    by_cases e : j = o
    · rw [if_pos e, if_pos e]
      exact ⟨none, 0, 0, rfl, rfl, by omega, fun h0 => absurd h0 (by simp)⟩
    · rw [if_neg e, if_neg e]
      obtain ⟨A, m, c, e1, e2, e3, e4⟩ := h.cl j gj hjn
      exact ⟨A, m, c, e1, e2, e3, e4.keep fun p hp => World.cell?_setCell_other _ _ _ _ (by intro e5; have e6 := congrArg Addr.block e5; dsimp only at e6; omega)⟩
/-- One label more was met. -/
theorem ClW.meet {o : Obj} {l : Int} {v' : Value} (h : ClW lo B tb mb n lb V X C cm mv ds es mt w) (hown : w'.ownsRow lo 3 1 v' (mt.length + 1) (mt.map (Value.int .i64) ++ [.int .i64 l])) (hg : (w.alloc o).grownBy w' mv.ownBlock) : ClW lo B tb mb n lb V X C cm v' ds es (mt ++ [l]) (w'.setCell ⟨tb, 1, none⟩ v') := by
  have h1 := h.below ((Below.refl _ _).alloc (Nat.le_refl _) o)
  have hbs := h.bs
  have hlt := h1.me.lt
  have hnt : mv.ownBlock ≠ some tb := own_tag h1.me h1.tg tree_ne_int
  have et := hg.block tb h1.bx.lt (fun e => hnt e.symm)
  have hTg : Tg tb 60 w' := h1.tg.keep et
  have hBx := Bx.keepE h1.bx et hg.size
  refine ⟨(h1.tr.ints h1.me hg).setB hTg hbs.2.2 1 _ ptr_ne_tree, (h1.mp.grown hg (fun e => by have := (hlt mb e.symm).1; omega)).setCell _ (by show mb ≠ tb; omega) _, hBx.set 1 (by simp) v', hTg.set _ _, ?_, fun j gj hj => ?_, h.bs⟩
  · have := own_setT hown hTg tree_ne_int 1 none v'
    rw [List.length_append, List.map_append]
    exact this
  · obtain ⟨A, m, c, e1, e2, e3, e4⟩ := h1.cl j gj hj
    exact ⟨A, m, c, e1, e2, e3, (e4.grownC hg (fun r e => by have := (hlt r e).1; omega) (by have := h1.bx.lt; omega)).keep fun p hp => World.cell?_setCell_other _ _ _ _ (by intro e5; have e6 := congrArg Addr.block e5; dsimp only at e6; omega)⟩
end
end Go.Proofs.Ytkfglodjnnlbkaa
