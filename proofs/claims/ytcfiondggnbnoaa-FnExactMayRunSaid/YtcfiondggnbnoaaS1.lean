/- Words and contracts for memory that the texts behind use. -/
import Derived.Test.YtcfiondggnbnoaaS0
import Derived.WalkKit
import Derived.Laws.OwnMore
import Derived.Deep.Draws
import Derived.Test.YtcfiondggnbnoaaProg
import Derived.WalkSpells
import Derived.WalkLawsBesides
import Derived.Outline
import Derived.Lib.Hide
import Derived.BigQuiet
import Derived.Deep.QuietTactic
import Derived.StillTailTactics
import Derived.Deep.LoopGhost
import Derived.Laws.MakeOwn
import Derived.WalkSmall
import Derived.RegionTactic
import Derived.BigRegion
import Derived.Deep.RegionWith
import Derived.Deep.RegionHeld3

namespace Go.Proofs.Ytcfiondggnbnoaa
set_option linter.unusedSimpArgs false
set_option linter.unusedVariables false
open Go.RowKit
def Pt.cells (p : Pt) : List Value := [.int .i64 p.k, .int .i64 p.a, .int .i64 p.b, .int .i64 p.c, .int .i64 p.n]
end Go.Proofs.Ytcfiondggnbnoaa

namespace Go.Proofs.Ytcfiondggnbnoaa
set_option linter.unusedSimpArgs false
set_option linter.unusedVariables false
open Go.RowKit
theorem own_below {w w' : World} {base e size n : Nat} {v : Value} {xs : List Value} (h : w.ownsRow base e size v n xs) (hb : Below w.heap.size w w') : w'.ownsRow base e size v n xs :=
  h.kept (row := none) ⟨hb.os, hb.tape, hb.output, hb.size, fun k hk _ => hb.block k hk⟩ (by cases v.ownBlock <;> simp)
theorem own_mono {w : World} {base base' e size n : Nat} {v : Value} {xs : List Value} (h : w.ownsRow base e size v n xs) (hb : base' ≤ base) : w.ownsRow base' e size v n xs :=
  ⟨h.1, h.2.imp_right fun ⟨g, cap, cur, h1, h2, h3⟩ => ⟨g, cap, cur, h1, by omega, h3⟩⟩
end Go.Proofs.Ytcfiondggnbnoaa

namespace Go.Proofs.Ytcfiondggnbnoaa
set_option linter.unusedSimpArgs false
set_option linter.unusedVariables false
open Go.RowKit
/-- A row of the call's own in blocks lo to hi - 1. -/
def OwR (lo hi : Nat) (e : TypeId) (size : Nat) (v : Value) (n : Nat) (xs : List Value) (w : World) : Prop :=
  w.ownsRow lo e size v n xs ∧ ∀ k, v.ownBlock = some k → k < hi
section
variable {lo hi lo' hi' : Nat} {e : TypeId} {size n : Nat} {v : Value} {xs : List Value} {w w' : World}
theorem OwR.start (h : w.ownsRow lo e size v n xs) : OwR lo w.heap.size e size v n xs w := ⟨h, fun k hk => (h.lt k hk).2⟩
theorem OwR.mono (h : OwR lo hi e size v n xs w) (h1 : lo' ≤ lo) (h2 : hi ≤ hi') : OwR lo' hi' e size v n xs w := ⟨own_mono h.1 h1, fun k hk => Nat.lt_of_lt_of_le (h.2 k hk) h2⟩
theorem OwR.keep (h : OwR lo hi e size v n xs w) (hk : ∀ k, lo ≤ k → k < hi → w'.heap[k]? = w.heap[k]?) : OwR lo hi e size v n xs w' := by
  refine ⟨⟨h.1.1, ?_⟩, h.2⟩
  rcases h.1.2 with hn | ⟨g, cap, cur, rfl, hb, hg, r⟩
  · exact .inl hn
  · exact .inr ⟨g, cap, cur, rfl, hb, by rw [hk g hb (h.2 g rfl)]; exact hg, r⟩
theorem OwR.nil (lo hi : Nat) (e : TypeId) (size : Nat) (w : World) : OwR lo hi e size (.slice none 0 0) 0 [] w := ⟨World.ownsRow_nil _ _ _ _, fun k hk => by simp [Value.ownBlock] at hk⟩
theorem OwR.step (h : OwR lo hi e size v n xs w) (hb : Below w.heap.size w w') : OwR lo hi e size v n xs w' := by
  refine ⟨own_below h.1 hb, h.2⟩
end
end Go.Proofs.Ytcfiondggnbnoaa

namespace Go.Proofs.Ytcfiondggnbnoaa
set_option linter.unusedSimpArgs false
set_option linter.unusedVariables false
open Go.RowKit
/-- The block of a row of one kind is not that of a row of another kind. -/
theorem blocks_ne {w : World} {b1 b2 : Nat} {e1 e2 : TypeId} {s1 s2 n1 n2 : Nat} {v u : Value} {xs ys : List Value} (h : w.ownsRow b1 e1 s1 v n1 xs) (h' : w.ownsRow b2 e2 s2 u n2 ys) (he : e1 ≠ e2) : v.ownBlock = none ∨ v.ownBlock ≠ u.ownBlock := by
  rcases h.2 with ⟨rfl, _⟩ | ⟨g, cap, cur, rfl, _, hh, _⟩
  · exact .inl rfl
  · right
    rcases h'.2 with ⟨rfl, _⟩ | ⟨g', cap', cur', rfl, _, hh', _⟩
    · simp [Value.ownBlock]
    · simp only [Value.ownBlock, ne_eq, Option.some.injEq]
      rintro rfl
      rw [hh] at hh'
      simp only [Option.some.injEq, Obj.cells.injEq] at hh'
      exact he hh'.2.1
end Go.Proofs.Ytcfiondggnbnoaa

namespace Go.Proofs.Ytcfiondggnbnoaa
set_option linter.unusedSimpArgs false
set_option linter.unusedVariables false
open Go.RowKit
/-- Block b holds the cells vs, and may be written to. -/
structure Bx (b : Nat) (vs : List Value) (w : World) : Prop where
  lt : b < w.heap.size
  c : ∀ j v, vs[j]? = some v → w.cell? ⟨b, j, none⟩ = some v
  f : ∀ j, w.frozen? ⟨b, j, none⟩ = false
section
variable {b C g j : Nat} {vs : List Value} {w w' : World}
theorem Bx.below (h : Bx b vs w) (hb : Below C w w') (hC : b < C) : Bx b vs w' :=
  ⟨Nat.lt_of_lt_of_le h.lt hb.size, fun j v hv => (hb.cell (p := ⟨b, j, none⟩) hC).trans (h.c j v hv), fun j => (hb.frozen (p := ⟨b, j, none⟩) hC).trans (h.f j)⟩
theorem Bx.step (h : Bx b vs w) (hb : Below w.heap.size w w') : Bx b vs w' := h.below hb h.lt
theorem Bx.alloc (h : Bx b vs w) (o : Obj) : Bx b vs (w.alloc o) := h.step ((Below.refl _ _).alloc (Nat.le_refl _) o)
theorem Bx.other (h : Bx b vs w) (a : Addr) (ha : b ≠ a.block) (u : Value) : Bx b vs (w.setCell a u) :=
  ⟨by simpa [World.setCell] using h.lt, fun j v hv => (World.cell?_setCell_other _ _ _ _ (by intro e; apply ha; rw [e])).trans (h.c j v hv), fun j => (World.frozen?_setCell _ _ _ _).trans (h.f j)⟩
theorem Bx.set (h : Bx b vs w) (j : Nat) (hj : j < vs.length) (u : Value) : Bx b (vs.set j u) (w.setCell ⟨b, j, none⟩ u) := by
  refine ⟨by simpa [World.setCell] using h.lt, fun i v hv => ?_, fun i => (World.frozen?_setCell _ _ _ _).trans (h.f i)⟩
  by_cases e : j = i
  · subst e
    rw [List.getElem?_set_self hj] at hv
    cases hv
    exact World.cell?_setCell_same _ _ _ (h.c j _ (List.getElem?_eq_getElem hj))
  · rw [List.getElem?_set_ne e] at hv
    exact (World.cell?_setCell_other _ _ _ _ (by simp; try omega)).trans (h.c i v hv)
end
theorem Bx.start (w : World) (a : Array Value) (t : TypeId) : Bx w.heap.size a.toList (w.alloc (.cells a t)) := by
  refine ⟨by simp, fun j v hv => ?_, fun j => by go_simp⟩
  rw [World.cell?_alloc_at a t _ j rfl]
  simpa using hv
/-- Block b has cells of type t. -/
def Tg (b : Nat) (t : TypeId) (w : World) : Prop := ∃ arr fr, w.heap[b]? = some (.cells arr t fr)
theorem Tg.new (w : World) (a : Array Value) (t : TypeId) (fr : Nat × Nat) : Tg w.heap.size t (w.alloc (.cells a t fr)) := ⟨a, fr, heap_alloc_new w _⟩
theorem Tg.keep {b : Nat} {t : TypeId} {w w' : World} (h : Tg b t w) (e : w'.heap[b]? = w.heap[b]?) : Tg b t w' := by
  obtain ⟨a, fr, h⟩ := h; exact ⟨a, fr, e.trans h⟩
theorem Tg.below {b C : Nat} {t : TypeId} {w w' : World} (h : Tg b t w) (hb : Below C w w') (hC : b < C) : Tg b t w' := h.keep (hb.block b hC)
theorem Tg.set {b : Nat} {t : TypeId} {w : World} (h : Tg b t w) (a : Addr) (u : Value) : Tg b t (w.setCell a u) := by
  by_cases e : a.block = b
  · obtain ⟨arr, fr, h⟩ := h
    subst e
    refine ⟨if a.spot.isSome then arr else arr.setIfInBounds a.off u, fr, ?_⟩
    simp [World.setCell, Array.getElem?_modify, h]
  · exact h.keep (Below.heap_setCell _ _ _ _ (fun e' => e e'.symm))
theorem own_tag {b base size n : Nat} {e t : TypeId} {v : Value} {xs : List Value} {w : World} (h : w.ownsRow base e size v n xs) (hb : Tg b t w) (ht : e ≠ t) : v.ownBlock ≠ some b := by
  obtain ⟨arr, fr, hb⟩ := hb
  rcases h.2 with ⟨rfl, _⟩ | ⟨g, cap, cur, rfl, _, hg, _⟩
  · simp [Value.ownBlock]
  · intro e'
    simp only [Value.ownBlock, Option.some.injEq] at e'
    subst e'
    rw [hg] at hb
    simp only [Option.some.injEq, Obj.cells.injEq] at hb
    exact ht hb.2.1
theorem own_setT {b base size n : Nat} {e t : TypeId} {v : Value} {xs : List Value} {w : World} (h : w.ownsRow base e size v n xs) (hb : Tg b t w) (ht : e ≠ t) (j : Nat) (sp : Option Nat) (u : Value) : (w.setCell ⟨b, j, none⟩ u).ownsRow base e size v n xs := by
  have h1 := own_tag h hb ht
  refine ⟨h.1, ?_⟩
  rcases h.2 with ⟨rfl, hn⟩ | ⟨g, cap, cur, rfl, h2, hg, h3⟩
  · exact .inl ⟨rfl, hn⟩
  · exact .inr ⟨g, cap, cur, rfl, h2, by rw [Below.heap_setCell _ _ _ _ (fun e' => h1 (by simp [Value.ownBlock]; exact e'))]; exact hg, h3⟩
end Go.Proofs.Ytcfiondggnbnoaa
