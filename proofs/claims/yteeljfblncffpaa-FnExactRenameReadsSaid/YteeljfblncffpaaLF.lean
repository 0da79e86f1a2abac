/- Words for laws that mark, where the answer is a formula: what such a law carries from call to call. -/
import Derived.Test.YteeljfblncffpaaLV
namespace Go.Proofs.Yteeljfblncffpaa
set_option linter.unusedSimpArgs false
set_option linter.unusedVariables false
open Go.RowKit

/-- No second argument. -/
theorem Ow.none {lo hi : Nat} {e : TypeId} {size : Nat} {w : World} (h : hi ≤ w.heap.size) : Ow lo hi e size (.slice .none 0 0) 0 [] w :=
  ⟨World.ownsRow_nil _ _ _ _, fun k hk => by simp [Value.ownBlock] at hk, h⟩

/-- All that a law with marks carries: its arguments, the model's answer V (in its box), the copies X (in its box) and Y that it handed in, the program's answer G (in its box). -/
structure LF (w : World) (A : Option Addr) (n c : Nat) (ps : List Pt) (A' : Option Addr) (vs : List Int) (s3 s4 s5 s6 s7 : Nat) (zV zX zY zG : Value) (r n5 m : Nat) (xs cx cy cg : List Value) (wk : World) : Prop where
  S : LS w A n c ps A' vs wk
  V : Ow s3 s4 51 5 zV r xs wk
  BV : Bx s4 zV wk
  X : Ow (s4 + 1) s5 51 5 zX n5 cx wk
  B : Bx s5 zX wk
  Y : Ow (s5 + 1) s6 3 1 zY m cy wk
  G : Ow s6 s7 51 5 zG r cg wk
  BG : Bx s7 zG wk
  o : w.heap.size < s3 ∧ s3 ≤ s4 ∧ s4 < s5 ∧ s5 < s6 ∧ s6 ≤ s7

section
variable {w : World} {A : Option Addr} {n c : Nat} {ps : List Pt} {A' : Option Addr} {vs : List Int} {s3 s4 s5 s6 s7 : Nat} {zV zX zY zG : Value} {r n5 m : Nat} {xs cx cy cg : List Value} {wk wl : World} {k : Int} {en : Ending}
theorem LF.step (h : LF w A n c ps A' vs s3 s4 s5 s6 s7 zV zX zY zG r n5 m xs cx cy cg wk) (hb : Below wk.heap.size wk wl) : LF w A n c ps A' vs s3 s4 s5 s6 s7 zV zX zY zG r n5 m xs cx cy cg wl :=
  ⟨h.S.step hb, h.V.step hb, h.BV.step hb, h.X.step hb, h.B.step hb, h.Y.step hb, h.G.step hb, h.BG.step hb, h.o⟩
theorem LF.alloc (h : LF w A n c ps A' vs s3 s4 s5 s6 s7 zV zX zY zG r n5 m xs cx cy cg wk) (o : Obj) : LF w A n c ps A' vs s3 s4 s5 s6 s7 zV zX zY zG r n5 m xs cx cy cg (wk.alloc o) := h.step (below_new wk o)
theorem LF.markX (h : LF w A n c ps A' vs s3 s4 s5 s6 s7 zV zX zY zG r n5 m xs cx cy cg wk) (hm : Marked wk (s4 + 1) 51 5 zX n5 k en wl) : LF w A n c ps A' vs s3 s4 s5 s6 s7 zV zX zY zG r n5 m xs (mks k (n5 * 5)) cy cg wl := by
  obtain ⟨o1, o2, o3, o4, o5⟩ := h.o
  have hl := h.X.lohi
  exact ⟨h.S.other hm.2.2 fun k hk => by have := hl k hk; omega, h.V.other hm.2.2 fun k hk => by have := hl k hk; omega, h.BV.other hm.2.2 fun hk => by have := hl _ hk; omega, h.X.marked hm, h.B.other hm.2.2 fun hk => by have := hl _ hk; omega, h.Y.other hm.2.2 fun k hk => by have := hl k hk; omega, h.G.other hm.2.2 fun k hk => by have := hl k hk; omega, h.BG.other hm.2.2 fun hk => by have := hl _ hk; omega, h.o⟩
theorem LF.markY (h : LF w A n c ps A' vs s3 s4 s5 s6 s7 zV zX zY zG r n5 m xs cx cy cg wk) (hm : Marked wk (s5 + 1) 3 1 zY m k en wl) : LF w A n c ps A' vs s3 s4 s5 s6 s7 zV zX zY zG r n5 m xs cx (mks k (m * 1)) cg wl := by
  obtain ⟨o1, o2, o3, o4, o5⟩ := h.o
  have hl := h.Y.lohi
  exact ⟨h.S.other hm.2.2 fun k hk => by have := hl k hk; omega, h.V.other hm.2.2 fun k hk => by have := hl k hk; omega, h.BV.other hm.2.2 fun hk => by have := hl _ hk; omega, h.X.other hm.2.2 fun k hk => by have := hl k hk; omega, h.B.other hm.2.2 fun hk => by have := hl _ hk; omega, h.Y.marked hm, h.G.other hm.2.2 fun k hk => by have := hl k hk; omega, h.BG.other hm.2.2 fun hk => by have := hl _ hk; omega, h.o⟩
theorem LF.markG (h : LF w A n c ps A' vs s3 s4 s5 s6 s7 zV zX zY zG r n5 m xs cx cy cg wk) (hm : Marked wk s6 51 5 zG r k en wl) : LF w A n c ps A' vs s3 s4 s5 s6 s7 zV zX zY zG r n5 m xs cx cy (mks k (r * 5)) wl := by
  obtain ⟨o1, o2, o3, o4, o5⟩ := h.o
  have hl := h.G.lohi
  exact ⟨h.S.other hm.2.2 fun k hk => by have := hl k hk; omega, h.V.other hm.2.2 fun k hk => by have := hl k hk; omega, h.BV.other hm.2.2 fun hk => by have := hl _ hk; omega, h.X.other hm.2.2 fun k hk => by have := hl k hk; omega, h.B.other hm.2.2 fun hk => by have := hl _ hk; omega, h.Y.other hm.2.2 fun k hk => by have := hl k hk; omega, h.G.marked hm, h.BG.other hm.2.2 fun hk => by have := hl _ hk; omega, h.o⟩
end
end Go.Proofs.Yteeljfblncffpaa
