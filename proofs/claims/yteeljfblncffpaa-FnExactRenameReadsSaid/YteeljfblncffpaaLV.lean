/- Words for laws that mark: a row of the call's own that lies in blocks lo to hi - 1, and how it is kept. -/
import Derived.Test.YteeljfblncffpaaA20
namespace Go.Proofs.Yteeljfblncffpaa
set_option linter.unusedSimpArgs false
set_option linter.unusedVariables false
open Go.RowKit

/-- A row of the call's own between lo and hi. -/
structure Ow (lo hi : Nat) (e : TypeId) (size : Nat) (v : Value) (n : Nat) (xs : List Value) (w : World) : Prop where
  row : w.ownsRow lo e size v n xs
  top : ∀ k, v.ownBlock = some k → k < hi
  le : hi ≤ w.heap.size

section
variable {lo hi : Nat} {e : TypeId} {size n : Nat} {v : Value} {xs ys : List Value} {w w' : World}
theorem Ow.start (h : w.ownsRow lo e size v n xs) : Ow lo w.heap.size e size v n xs w := ⟨h, fun k hk => (h.lt k hk).2, Nat.le_refl _⟩
theorem Ow.step (h : Ow lo hi e size v n xs w) (hb : Below w.heap.size w w') : Ow lo hi e size v n xs w' := ⟨own_below h.row hb, h.top, Nat.le_trans h.le hb.size⟩
theorem Ow.alloc (h : Ow lo hi e size v n xs w) (o : Obj) : Ow lo hi e size v n xs (w.alloc o) := h.step ((Below.refl _ _).alloc (Nat.le_refl _) o)
/-- Another row is written to. -/
theorem Ow.other {row : Option Nat} (h : Ow lo hi e size v n xs w) (hg : w.grownBy w' row) (hr : ∀ k, row = some k → k < lo ∨ hi ≤ k) : Ow lo hi e size v n xs w' :=
  ⟨h.row.kept hg (by
    cases hv : v.ownBlock with
    | none => exact .inl rfl
    | some k =>
      right
      intro hk
      have h1 := h.top k hv
      have h2 := (h.row.lt k hv).1
      rcases hr k hk.symm with h3 | h3 <;> omega), h.top, Nat.le_trans h.le hg.size⟩
/-- It is marked itself. -/
theorem Ow.marked {k : Int} {r : Ending} (h : Ow lo hi e size v n xs w) (hm : Marked w lo e size v n k r w') : Ow lo hi e size v n (mks k (n * size)) w' :=
  ⟨hm.2.1, h.top, Nat.le_trans h.le hm.2.2.size⟩
theorem Ow.lohi (h : Ow lo hi e size v n xs w) : ∀ k, v.ownBlock = some k → lo ≤ k ∧ k < hi := fun k hk => ⟨(h.row.lt k hk).1, h.top k hk⟩
end

section
variable {w : World} {A : Option Addr} {n c : Nat} {ps : List Pt} {A' : Option Addr} {vs : List Int} {wk wl : World}
theorem LS.other {row : Option Nat} (h : LS w A n c ps A' vs wk) (hg : wk.grownBy wl row) (hr : ∀ k, row = some k → w.heap.size < k) : LS w A n c ps A' vs wl := by
  have hb : Below (w.heap.size + 1) wk wl := (Below.refl _ _).grown hg h.lt (fun k hk => hr k hk)
  exact ⟨h.bel.trans (hb.mono (by omega)), Nat.lt_of_lt_of_le h.lt hg.size, (hb.cell (p := ⟨w.heap.size, 0, none⟩) (by simp)).trans h.box, h.parts.below hb (by omega), h.ints.below hb (by omega)⟩
end

section
variable {g : Nat} {A : Option Addr} {n c : Nat} {wk wl : World}
/-- A box of the call's own. -/
structure Bx (g : Nat) (v : Value) (wk : World) : Prop where
  lt : g < wk.heap.size
  box : wk.cell? ⟨g, 0, none⟩ = some v
variable {v : Value}
theorem Bx.start (t : TypeId) : Bx wk.heap.size v (wk.alloc (.cells #[v] t)) := ⟨by simp, by go_simp⟩
theorem Bx.step (h : Bx g v wk) (hb : Below wk.heap.size wk wl) : Bx g v wl := ⟨Nat.lt_of_lt_of_le h.lt hb.size, (hb.cell (p := ⟨g, 0, none⟩) h.lt).trans h.box⟩
theorem Bx.other {row : Option Nat} (h : Bx g v wk) (hg : wk.grownBy wl row) (hr : row ≠ some g) : Bx g v wl :=
  ⟨Nat.lt_of_lt_of_le h.lt hg.size, (World.cell?_of_block (a := ⟨g, 0, none⟩) (hg.block g h.lt (fun e => hr e.symm))).trans h.box⟩
end

section
variable {lo hi n c : Nat} {e : TypeId} {A : Option Addr} {ps : List Pt} {xs : List Int} {w : World}
theorem Ow.parts (h : Ow lo hi 51 5 (.slice A n c) n (ps.flatMap Pt.cells) w) : PS w w.heap.size A ps := PS.of_own h.row
theorem Ow.ints (h : Ow lo hi 3 1 (.slice A n c) n (xs.map (Value.int .i64)) w) : IS w w.heap.size A xs := IS.of_own h.row
end

/-- All that a law with marks carries: its arguments, the model's answer V, the copies X (in its box) and Y that it handed in, the program's answer G. -/
structure LM (w : World) (A : Option Addr) (n c : Nat) (ps : List Pt) (A' : Option Addr) (vs : List Int) (s3 s4 s5 s6 s7 : Nat) (e : TypeId) (size : Nat) (zV zX zY zG : Value) (r n5 m : Nat) (xs cx cy cg : List Value) (wk : World) : Prop where
  S : LS w A n c ps A' vs wk
  V : Ow s3 s4 e size zV r xs wk
  X : Ow s4 s5 51 5 zX n5 cx wk
  B : Bx s5 zX wk
  Y : Ow (s5 + 1) s6 3 1 zY m cy wk
  G : Ow s6 s7 e size zG r cg wk
  o : w.heap.size < s3 ∧ s3 ≤ s4 ∧ s4 ≤ s5 ∧ s5 < s6 ∧ s6 ≤ s7

section
variable {w : World} {A : Option Addr} {n c : Nat} {ps : List Pt} {A' : Option Addr} {vs : List Int} {s3 s4 s5 s6 s7 : Nat} {e : TypeId} {size : Nat} {zV zX zY zG : Value} {r n5 m : Nat} {xs cx cy cg : List Value} {wk wl : World} {k : Int} {en : Ending}
theorem LM.step (h : LM w A n c ps A' vs s3 s4 s5 s6 s7 e size zV zX zY zG r n5 m xs cx cy cg wk) (hb : Below wk.heap.size wk wl) : LM w A n c ps A' vs s3 s4 s5 s6 s7 e size zV zX zY zG r n5 m xs cx cy cg wl :=
  ⟨h.S.step hb, h.V.step hb, h.X.step hb, h.B.step hb, h.Y.step hb, h.G.step hb, h.o⟩
theorem LM.markX (h : LM w A n c ps A' vs s3 s4 s5 s6 s7 e size zV zX zY zG r n5 m xs cx cy cg wk) (hm : Marked wk s4 51 5 zX n5 k en wl) : LM w A n c ps A' vs s3 s4 s5 s6 s7 e size zV zX zY zG r n5 m xs (mks k (n5 * 5)) cy cg wl := by
  obtain ⟨o1, o2, o3, o4, o5⟩ := h.o
  have hl := h.X.lohi
  exact ⟨h.S.other hm.2.2 fun k hk => by have := hl k hk; omega, h.V.other hm.2.2 fun k hk => by have := hl k hk; omega, h.X.marked hm, h.B.other hm.2.2 fun hk => by have := hl _ hk; omega, h.Y.other hm.2.2 fun k hk => by have := hl k hk; omega, h.G.other hm.2.2 fun k hk => by have := hl k hk; omega, h.o⟩
theorem LM.markY (h : LM w A n c ps A' vs s3 s4 s5 s6 s7 e size zV zX zY zG r n5 m xs cx cy cg wk) (hm : Marked wk (s5 + 1) 3 1 zY m k en wl) : LM w A n c ps A' vs s3 s4 s5 s6 s7 e size zV zX zY zG r n5 m xs cx (mks k (m * 1)) cg wl := by
  obtain ⟨o1, o2, o3, o4, o5⟩ := h.o
  have hl := h.Y.lohi
  exact ⟨h.S.other hm.2.2 fun k hk => by have := hl k hk; omega, h.V.other hm.2.2 fun k hk => by have := hl k hk; omega, h.X.other hm.2.2 fun k hk => by have := hl k hk; omega, h.B.other hm.2.2 fun hk => by have := hl _ hk; omega, h.Y.marked hm, h.G.other hm.2.2 fun k hk => by have := hl k hk; omega, h.o⟩
theorem LM.markG (h : LM w A n c ps A' vs s3 s4 s5 s6 s7 e size zV zX zY zG r n5 m xs cx cy cg wk) (hm : Marked wk s6 e size zG r k en wl) : LM w A n c ps A' vs s3 s4 s5 s6 s7 e size zV zX zY zG r n5 m xs cx cy (mks k (r * size)) wl := by
  obtain ⟨o1, o2, o3, o4, o5⟩ := h.o
  have hl := h.G.lohi
  exact ⟨h.S.other hm.2.2 fun k hk => by have := hl k hk; omega, h.V.other hm.2.2 fun k hk => by have := hl k hk; omega, h.X.other hm.2.2 fun k hk => by have := hl k hk; omega, h.B.other hm.2.2 fun hk => by have := hl _ hk; omega, h.Y.other hm.2.2 fun k hk => by have := hl k hk; omega, h.G.marked hm, h.o⟩
end
end Go.Proofs.Yteeljfblncffpaa
