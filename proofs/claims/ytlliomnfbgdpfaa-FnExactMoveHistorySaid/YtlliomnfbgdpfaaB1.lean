/- A box of the call's own: its cells, as a list. -/
import Derived.Test.YtlliomnfbgdpfaaS5b

namespace Go.Proofs.Ytlliomnfbgdpfaa
set_option linter.unusedSimpArgs false
set_option linter.unusedVariables false
open Go.RowKit

/-- Block b holds the cells vs, and may be written to. -/
structure Bx (b : Nat) (vs : List Value) (w : World) : Prop where
  lt : b < w.heap.size
  c : ∀ j v, vs[j]? = some v → w.cell? ⟨b, j, none⟩ = some v
  f : ∀ j, w.frozen? ⟨b, j, none⟩ = false
section
variable {b C g j : Nat} {vs : List Value} {w w' : World}
theorem Bx.below (h : Bx b vs w) (hb : Below C w w') (hC : b < C) : Bx b vs w' :=
  ⟨Nat.lt_of_lt_of_le h.lt hb.size, fun j v hv => (hb.cell (p := ⟨b, j, none⟩) hC).trans (h.c j v hv), fun j => (hb.frozen (p := ⟨b, j, none⟩) hC).trans (h.f j)⟩
theorem Bx.step (h : Bx b vs w) (hb : Below w.heap.size w w') : Bx b vs w' := h.below hb h.lt
theorem Bx.alloc (h : Bx b vs w) (o : Obj) : Bx b vs (w.alloc o) := h.step ((Below.refl _ _).alloc (Nat.le_refl _) o)
theorem Bx.drew (h : Bx b vs w) : Bx b vs w.drew := ⟨h.lt, h.c, h.f⟩
theorem Bx.other (h : Bx b vs w) (a : Addr) (ha : b ≠ a.block) (u : Value) : Bx b vs (w.setCell a u) :=
  ⟨by simpa [World.setCell] using h.lt, fun j v hv => (World.cell?_setCell_other _ _ _ _ (by intro e; apply ha; rw [e])).trans (h.c j v hv), fun j => (World.frozen?_setCell _ _ _ _).trans (h.f j)⟩
theorem Bx.set (h : Bx b vs w) (j : Nat) (hj : j < vs.length) (u : Value) : Bx b (vs.set j u) (w.setCell ⟨b, j, none⟩ u) := by
  refine ⟨by simpa [World.setCell] using h.lt, fun i v hv => ?_, fun i => (World.frozen?_setCell _ _ _ _).trans (h.f i)⟩
  by_cases e : j = i
  · subst e
    rw [List.getElem?_set_self hj] at hv
    cases hv
    exact World.cell?_setCell_same _ _ _ (h.c j _ (List.getElem?_eq_getElem hj))
  · rw [List.getElem?_set_ne e] at hv
    exact (World.cell?_setCell_other _ _ _ _ (by simp; try omega)).trans (h.c i v hv)
end
theorem Bx.start (w : World) (a : Array Value) (t : TypeId) : Bx w.heap.size a.toList (w.alloc (.cells a t)) := by
  refine ⟨by simp, fun j v hv => ?_, fun j => by go_simp⟩
  rw [World.cell?_alloc_at a t _ j rfl]
  simpa using hv

/-- Block b has cells of type t. -/
def Tg (b : Nat) (t : TypeId) (w : World) : Prop := ∃ arr fr, w.heap[b]? = some (.cells arr t fr)
theorem Tg.new (w : World) (a : Array Value) (t : TypeId) (fr : Nat × Nat) : Tg w.heap.size t (w.alloc (.cells a t fr)) := ⟨a, fr, heap_alloc_new w _⟩
theorem Tg.keep {b : Nat} {t : TypeId} {w w' : World} (h : Tg b t w) (e : w'.heap[b]? = w.heap[b]?) : Tg b t w' := by
  obtain ⟨a, fr, h⟩ := h; exact ⟨a, fr, e.trans h⟩
theorem Tg.below {b C : Nat} {t : TypeId} {w w' : World} (h : Tg b t w) (hb : Below C w w') (hC : b < C) : Tg b t w' := h.keep (hb.block b hC)
theorem Tg.set {b : Nat} {t : TypeId} {w : World} (h : Tg b t w) (a : Addr) (u : Value) : Tg b t (w.setCell a u) := by
  by_cases e : a.block = b
  · obtain ⟨arr, fr, h⟩ := h
    subst e
    refine ⟨if a.spot.isSome then arr else arr.setIfInBounds a.off u, fr, ?_⟩
    simp [World.setCell, Array.getElem?_modify, h]
  · exact h.keep (Below.heap_setCell _ _ _ _ (fun e' => e e'.symm))
theorem own_tag {b base size n : Nat} {e t : TypeId} {v : Value} {xs : List Value} {w : World} (h : w.ownsRow base e size v n xs) (hb : Tg b t w) (ht : e ≠ t) : v.ownBlock ≠ some b := by
  obtain ⟨arr, fr, hb⟩ := hb
  rcases h.2 with ⟨rfl, _⟩ | ⟨g, cap, cur, rfl, _, hg, _⟩
  · simp [Value.ownBlock]
  · intro e'
    simp only [Value.ownBlock, Option.some.injEq] at e'
    subst e'
    rw [hg] at hb
    simp only [Option.some.injEq, Obj.cells.injEq] at hb
    exact ht hb.2.1
theorem own_setT {b base size n : Nat} {e t : TypeId} {v : Value} {xs : List Value} {w : World} (h : w.ownsRow base e size v n xs) (hb : Tg b t w) (ht : e ≠ t) (j : Nat) (sp : Option Nat) (u : Value) : (w.setCell ⟨b, j, none⟩ u).ownsRow base e size v n xs := by
  have h1 := own_tag h hb ht
  refine ⟨h.1, ?_⟩
  rcases h.2 with ⟨rfl, hn⟩ | ⟨g, cap, cur, rfl, h2, hg, h3⟩
  · exact .inl ⟨rfl, hn⟩
  · exact .inr ⟨g, cap, cur, rfl, h2, by rw [Below.heap_setCell _ _ _ _ (fun e' => h1 (by simp [Value.ownBlock]; exact e'))]; exact hg, h3⟩

theorem Bx.as2 {b : Nat} {v u : Value} {w : World} (h : Bx b [v, u] w) : As b (b + 1) (fun w' => w'.cell? ⟨b, 0, none⟩ = some v ∧ w'.cell? ⟨b, 1, none⟩ = some u) w := ⟨⟨h.c 0 _ rfl, h.c 1 _ rfl⟩, h.lt, box2_loc _ _ _⟩
theorem Bx.as3 {b : Nat} {v u x : Value} {w : World} (h : Bx b [v, u, x] w) : As b (b + 1) (fun w' => w'.cell? ⟨b, 0, none⟩ = some v ∧ w'.cell? ⟨b, 1, none⟩ = some u ∧ w'.cell? ⟨b, 2, none⟩ = some x) w := ⟨⟨h.c 0 _ rfl, h.c 1 _ rfl, h.c 2 _ rfl⟩, h.lt, box3_loc _ _ _ _⟩
theorem Bx.tch {b : Nat} (w : World) (j : Nat) (u : Value) : Tch b (b + 1) w (w.setCell ⟨b, j, none⟩ u) := Tch.of_grown (grown_setCell0 w b j u) fun k hk => by cases hk; omega
end Go.Proofs.Ytlliomnfbgdpfaa
