/- impl's tree of owners: clear. -/
import Derived.Test.YtkfglodjnnlbkaaT11a
import Derived.Test.YtkfglodjnnlbkaaV30
import Derived.Test.YtkfglodjnnlbkaaV25
import Derived.RegionIn
import Derived.Sort.CutIn
import Derived.Sort.QuietIn
import Derived.Shelf.RegionOpen

namespace Go.Proofs.Ytkfglodjnnlbkaa
set_option linter.unusedSimpArgs false
set_option linter.unusedVariables false
open Go.RowKit Go.Shelf Go.Maps

attribute [local go_sem] Oper.semAt_some

/-- What clearing leaves alone: all but the map mb and blocks of holders, trees, numbers. -/
def Kt (mb : Nat) (w w' : World) : Prop := w.heap.size ≤ w'.heap.size ∧ ∀ q ob, w.heap[q]? = some ob → q ≠ mb → (∀ arr t fr, ob = .cells arr t fr → t ≠ 80 ∧ t ≠ 60 ∧ t ≠ 3) → w'.heap[q]? = w.heap[q]?
theorem Kt.refl (mb : Nat) (w : World) : Kt mb w w := ⟨Nat.le_refl _, fun _ _ _ _ _ => rfl⟩
theorem Kt.trans {mb : Nat} {a b c : World} (h : Kt mb a b) (k : Kt mb b c) : Kt mb a c :=
  ⟨Nat.le_trans h.1 k.1, fun q ob h1 h2 h3 => (k.2 q ob ((h.2 q ob h1 h2 h3).trans h1) h2 h3).trans (h.2 q ob h1 h2 h3)⟩
theorem Kt.of_below {mb : Nat} {w w' : World} (h : Below w.heap.size w w') : Kt mb w w' := ⟨h.size, fun q ob h1 _ _ => h.block q (Array.getElem?_eq_some_iff.1 h1).1⟩
theorem Kt.map {mb : Nat} {w w' : World} (h : w.grownBy w' (some mb)) : Kt mb w w' := ⟨h.size, fun q ob h1 h2 _ => h.block q (Array.getElem?_eq_some_iff.1 h1).1 (by simp; exact h2)⟩
theorem Kt.set {mb b j : Nat} {t : TypeId} {u : Value} {w : World} (h : Tg b t w) (ht : t = 80 ∨ t = 60 ∨ t = 3) : Kt mb w (w.setCell ⟨b, j, none⟩ u) := by
  refine ⟨by simp [World.setCell], fun q ob h1 _ h3 => Below.heap_setCell _ _ _ _ ?_⟩
  show q ≠ b
  rintro rfl
  obtain ⟨arr, fr, hb⟩ := h
  rw [hb] at h1
  cases h1
  obtain ⟨a1, a2, a3⟩ := h3 _ _ _ rfl
  rcases ht with e | e | e
  · exact a1 e
  · exact a2 e
  · exact a3 e
theorem Kt.ints {mb lo n : Nat} {v : Value} {xs : List Value} {w w' : World} (hu : w.ownsRow lo 3 1 v n xs) (hg : w.grownBy w' v.ownBlock) : Kt mb w w' := by
  refine ⟨hg.size, fun q ob h1 _ h3 => hg.block q (Array.getElem?_eq_some_iff.1 h1).1 fun e => ?_⟩
  rcases hu.2 with ⟨hn, _⟩ | ⟨g', cap, cur, hv', _, hgb, _⟩
  · rw [hn] at e; simp [Value.ownBlock] at e
  · rw [hv'] at e
    simp [Value.ownBlock] at e
    subst e
    rw [hgb] at h1
    cases h1
    exact (h3 _ _ _ rfl).2.2 rfl

/-- What the kids' rounds keep. -/
structure J1 (w w2 : World) (b0 lo B tb mb n : Nat) (lb : Nat → Option Nat) (V : List Value) (X : Nat → Value) (cm : Nat) (ds es : List On) (mt : List Int) (W : World) : Prop where
  c0 : W.cell? ⟨b0, 0, none⟩ = some (.pointer (some ⟨tb, 0, none⟩))
  st : ∃ C mv, ClW lo B tb mb n lb V X C cm mv ds es mt W
  kt : Kt mb w2 W
  bl : Below B w W
theorem J1.own {w w2 : World} {b0 lo B tb mb n : Nat} {lb : Nat → Option Nat} {V : List Value} {X : Nat → Value} {cm : Nat} {ds es : List On} {mt : List Int} {W W' : World} {row : Option Nat} (h : J1 w w2 b0 lo B tb mb n lb V X cm ds es mt W) (hg : W.grownBy W' row) (hr : ∀ r, row = some r → w2.heap.size ≤ r ∧ ∃ o : Obj, W.heap[r]? = some o ∧ o.isCells = false) (hlo : lo ≤ w2.heap.size) (hB : B ≤ w2.heap.size) (hBW : B ≤ W.heap.size) : J1 w w2 b0 lo B tb mb n lb V X cm ds es mt W' := by
  obtain ⟨c0, ⟨C, mv, st⟩, kt, bl⟩ := h
  refine ⟨cell_kept c0 hg fun r e => (hr r e).2, ⟨C, mv, st.kept hg fun r e => ⟨Nat.le_trans hlo (hr r e).1, (hr r e).2⟩⟩, ⟨Nat.le_trans kt.1 hg.size, fun q ob h1 h2 h3 => ?_⟩, bl.grown hg hBW fun k e => Nat.le_trans hB (hr k e).1⟩
  have e1 := kt.2 q ob h1 h2 h3
  have hq : q < w2.heap.size := (Array.getElem?_eq_some_iff.1 h1).1
  exact (hg.block q (by have := kt.1; omega) (fun e => by have := (hr q e.symm).1; omega)).trans e1
end Go.Proofs.Ytkfglodjnnlbkaa
