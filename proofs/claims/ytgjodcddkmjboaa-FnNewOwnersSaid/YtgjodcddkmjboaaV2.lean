/- Owners: the laws' own copies, sizes and comparisons. -/
import Derived.Test.YtgjodcddkmjboaaV1
import Derived.StillTailTactics

namespace Go.Proofs.Ytgjodcddkmjboaa
set_option linter.unusedSimpArgs false
set_option linter.unusedVariables false
open Go.RowKit

/-- The four cells of a box. -/
structure Bx4 (b : Nat) (x y z t : Value) (w : World) : Prop where
  lt : b < w.heap.size
  c0 : w.cell? ⟨b, 0, none⟩ = some x
  c1 : w.cell? ⟨b, 1, none⟩ = some y
  c2 : w.cell? ⟨b, 2, none⟩ = some z
  c3 : w.cell? ⟨b, 3, none⟩ = some t
  f : ∀ j, w.frozen? ⟨b, j, none⟩ = false
theorem Bx4.step {b : Nat} {x y z t : Value} {w w' : World} {C : Nat} (h : Bx4 b x y z t w) (hb : Below C w w') (hC : b < C) : Bx4 b x y z t w' :=
  ⟨Nat.lt_of_lt_of_le h.lt hb.size, (hb.cell (p := ⟨b, 0, none⟩) hC).trans h.c0, (hb.cell (p := ⟨b, 1, none⟩) hC).trans h.c1, (hb.cell (p := ⟨b, 2, none⟩) hC).trans h.c2, (hb.cell (p := ⟨b, 3, none⟩) hC).trans h.c3, fun j => (hb.frozen (p := ⟨b, j, none⟩) hC).trans (h.f j)⟩
theorem Bx4.other {b g j : Nat} {x y z t u : Value} {w : World} (h : Bx4 b x y z t w) (hg : b ≠ g) : Bx4 b x y z t (w.setCell ⟨g, j, none⟩ u) := by
  have k (i : Nat) : (w.setCell ⟨g, j, none⟩ u).cell? ⟨b, i, none⟩ = w.cell? ⟨b, i, none⟩ := World.cell?_setCell_other _ _ _ _ (by intro e; cases e; exact hg rfl)
  exact ⟨by simpa [World.setCell] using h.lt, (k 0).trans h.c0, (k 1).trans h.c1, (k 2).trans h.c2, (k 3).trans h.c3, fun i => (World.frozen?_setCell _ _ _ _).trans (h.f i)⟩
theorem Bx4.set0 {b : Nat} {x y z t u : Value} {w : World} (h : Bx4 b x y z t w) : Bx4 b u y z t (w.setCell ⟨b, 0, none⟩ u) :=
  ⟨by simpa [World.setCell] using h.lt, World.cell?_setCell_same _ _ _ h.c0, (World.cell?_setCell_other _ _ _ _ (by simp)).trans h.c1, (World.cell?_setCell_other _ _ _ _ (by simp)).trans h.c2, (World.cell?_setCell_other _ _ _ _ (by simp)).trans h.c3, fun i => (World.frozen?_setCell _ _ _ _).trans (h.f i)⟩
theorem Bx4.set1 {b : Nat} {x y z t u : Value} {w : World} (h : Bx4 b x y z t w) : Bx4 b x u z t (w.setCell ⟨b, 1, none⟩ u) :=
  ⟨by simpa [World.setCell] using h.lt, (World.cell?_setCell_other _ _ _ _ (by simp)).trans h.c0, World.cell?_setCell_same _ _ _ h.c1, (World.cell?_setCell_other _ _ _ _ (by simp)).trans h.c2, (World.cell?_setCell_other _ _ _ _ (by simp)).trans h.c3, fun i => (World.frozen?_setCell _ _ _ _).trans (h.f i)⟩
theorem Bx4.set2 {b : Nat} {x y z t u : Value} {w : World} (h : Bx4 b x y z t w) : Bx4 b x y u t (w.setCell ⟨b, 2, none⟩ u) :=
  ⟨by simpa [World.setCell] using h.lt, (World.cell?_setCell_other _ _ _ _ (by simp)).trans h.c0, (World.cell?_setCell_other _ _ _ _ (by simp)).trans h.c1, World.cell?_setCell_same _ _ _ h.c2, (World.cell?_setCell_other _ _ _ _ (by simp)).trans h.c3, fun i => (World.frozen?_setCell _ _ _ _).trans (h.f i)⟩
theorem Bx4.alloc {b : Nat} {x y z t : Value} {w : World} (h : Bx4 b x y z t w) (o : Obj) : Bx4 b x y z t (w.alloc o) := h.step ((Below.refl w.heap.size w).alloc (Nat.le_refl _) o) h.lt
theorem box4_start (w : World) (x y z t : Value) (ty : TypeId) : Bx4 w.heap.size x y z t (w.alloc (.cells #[x, y, z, t] ty)) :=
  ⟨by simp, by go_simp, by go_simp, by go_simp, by go_simp, fun j => by go_simp⟩

/-- Returns an owner with fresh lists. -/
def RetOn (w : World) (d : On) (e : Ending) (w' : World) : Prop := ∃ (A : Option Addr) (n c : Nat) (A' : Option Addr) (n' c' mid : Nat), e = .returned (.agg #[.int .i64 d.p, .bool d.o, .slice A n c, .slice A' n' c']) ∧ n = d.cl.length ∧ n' = d.cx.length ∧
  OwR w.heap.size mid 3 1 (.slice A n c) n (d.cl.map (Value.int .i64)) w' ∧ OwR mid w'.heap.size 3 1 (.slice A' n' c') n' (d.cx.map (Value.int .i64)) w' ∧ w.heap.size ≤ mid ∧ mid ≤ w'.heap.size ∧ Below w.heap.size w w'

theorem made4 (x y z t : Value) (n j : Nat) (hj : j < n) : ((madeCells (.agg #[x, y, z, t] : Value).cells (n * 4)).toList)[j * 4]? = some x ∧ ((madeCells (.agg #[x, y, z, t] : Value).cells (n * 4)).toList)[j * 4 + 1]? = some y ∧ ((madeCells (.agg #[x, y, z, t] : Value).cells (n * 4)).toList)[j * 4 + 2]? = some z ∧ ((madeCells (.agg #[x, y, z, t] : Value).cells (n * 4)).toList)[j * 4 + 3]? = some t := by
  have k (i : Nat) (hi : i < 4) : ((madeCells (.agg #[x, y, z, t] : Value).cells (n * 4)).toList)[j * 4 + i]? = #[x, y, z, t][i]? := by
    have e : (.agg #[x, y, z, t] : Value).cells = #[x, y, z, t] := by simp [Value.cells]
    rw [e]
    have h1 : j * 4 + i < n * 4 := by omega
    have h2 : (j * 4 + i) % 4 = i := by omega
    simp only [madeCells, Array.toList_map, List.getElem?_map, Array.getElem?_toList, Array.getElem?_range]
    rw [if_pos h1]
    show some (#[x, y, z, t][(j * 4 + i) % 4]!) = _
    rw [h2]
    match i, hi with
    | 0, _ => rfl
    | 1, _ => rfl
    | 2, _ => rfl
    | 3, _ => rfl
  exact ⟨k 0 (by omega), k 1 (by omega), k 2 (by omega), k 3 (by omega)⟩

/-- Returns owners in fresh blocks. -/
def RetO (w : World) (ds : List On) (e : Ending) (w' : World) : Prop := ∃ v, e = .returned v ∧ OwO w.heap.size w'.heap.size v ds.length ds w' ∧ Below w.heap.size w w'
theorem RetO.nil {w w' : World} (hb : Below w.heap.size w w') : RetO w [] (.returned (.slice none 0 0)) w' := ⟨_, rfl, OwO.nil _ _ _, hb⟩

end Go.Proofs.Ytgjodcddkmjboaa
