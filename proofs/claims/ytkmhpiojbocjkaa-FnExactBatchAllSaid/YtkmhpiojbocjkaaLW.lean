/- Words for the walks of laws: what holds of the arguments, of a formula in a box, of a list, from call to call. -/
import Derived.Test.YtkmhpiojbocjkaaA10
import Derived.Test.YtkmhpiojbocjkaaA8
import Derived.Deep.RegionWith
namespace Go.Proofs.Ytkmhpiojbocjkaa
set_option linter.unusedSimpArgs false
set_option linter.unusedVariables false
open Go.RowKit

/-- The law's arguments: the formula in its box, the list; nothing that was there has turned. -/
structure LS (w : World) (A : Option Addr) (n c : Nat) (ps : List Pt) (A' : Option Addr) (vs : List Int) (wk : World) : Prop where
  bel : Below w.heap.size w wk
  lt : w.heap.size < wk.heap.size
  box : wk.cell? ⟨w.heap.size, 0, none⟩ = some (.slice A n c)
  parts : PS wk w.heap.size A ps
  ints : IS wk w.heap.size A' vs

section
variable {w : World} {A : Option Addr} {n c : Nat} {ps : List Pt} {A' : Option Addr} {vs : List Int} {wk wl : World}
theorem LS.start (h : PS w w.heap.size A ps) (h' : IS w w.heap.size A' vs) (t : TypeId) : LS w A n c ps A' vs (w.alloc (.cells #[.slice A n c] t)) :=
  ⟨(Below.refl _ _).alloc (Nat.le_refl _) _, by simp, by go_simp, h.alloc (Nat.le_refl _) _, h'.alloc (Nat.le_refl _) _⟩
theorem LS.step (h : LS w A n c ps A' vs wk) (hb : Below wk.heap.size wk wl) : LS w A n c ps A' vs wl :=
  ⟨h.bel.trans (hb.mono (by have := h.lt; omega)), Nat.lt_of_lt_of_le h.lt hb.size, (hb.cell (p := ⟨w.heap.size, 0, none⟩) h.lt).trans h.box, h.parts.below hb (by have := h.lt; omega), h.ints.below hb (by have := h.lt; omega)⟩
theorem LS.alloc (h : LS w A n c ps A' vs wk) (o : Obj) : LS w A n c ps A' vs (wk.alloc o) := h.step ((Below.refl _ _).alloc (Nat.le_refl _) o)
end

/-- A formula in a box of the call's own. -/
structure FB (g : Nat) (A : Option Addr) (n c : Nat) (ps : List Pt) (wk : World) : Prop where
  lt : g < wk.heap.size
  box : wk.cell? ⟨g, 0, none⟩ = some (.slice A n c)
  parts : PS wk wk.heap.size A ps

section
variable {g : Nat} {A : Option Addr} {n c : Nat} {ps : List Pt} {wk wl : World}
theorem FB.start (h : PS wk wk.heap.size A ps) (t : TypeId) : FB wk.heap.size A n c ps (wk.alloc (.cells #[.slice A n c] t)) :=
  ⟨by simp, by go_simp, (h.alloc (Nat.le_refl _) _).more (by simp)⟩
theorem FB.step (h : FB g A n c ps wk) (hb : Below wk.heap.size wk wl) : FB g A n c ps wl :=
  ⟨Nat.lt_of_lt_of_le h.lt hb.size, (hb.cell (p := ⟨g, 0, none⟩) h.lt).trans h.box, (h.parts.below hb (Nat.le_refl _)).more hb.size⟩
end

theorem PS.step {A : Option Addr} {ps : List Pt} {wk wl : World} (h : PS wk wk.heap.size A ps) (hb : Below wk.heap.size wk wl) : PS wl wl.heap.size A ps := (h.below hb (Nat.le_refl _)).more hb.size
theorem IS.step {A : Option Addr} {xs : List Int} {wk wl : World} (h : IS wk wk.heap.size A xs) (hb : Below wk.heap.size wk wl) : IS wl wl.heap.size A xs := (h.below hb (Nat.le_refl _)).more hb.size
theorem below_new (wk : World) (o : Obj) : Below wk.heap.size wk (wk.alloc o) := (Below.refl _ _).alloc (Nat.le_refl _) o
end Go.Proofs.Ytkmhpiojbocjkaa
