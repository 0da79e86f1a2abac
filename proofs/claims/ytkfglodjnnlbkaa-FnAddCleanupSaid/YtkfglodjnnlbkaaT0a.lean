/- Words and contracts for memory that the texts behind use. -/
import Derived.WalkKit
import Derived.Laws.OwnMore
import Derived.Deep.Draws
import Derived.Test.YtkfglodjnnlbkaaProg
import Derived.WalkSpells
import Derived.WalkLawsBesides
import Derived.Outline
import Derived.Lib.Hide
import Derived.BigQuiet
import Derived.Deep.QuietTactic
import Derived.StillTailTactics
import Derived.Deep.LoopGhost
import Derived.Laws.MakeOwn
import Derived.WalkSmall
import Derived.RegionTactic
import Derived.BigRegion
import Derived.Deep.RegionWith
import Derived.Deep.RegionHeld3
import Derived.Maps.Own
import Derived.Maps.Views
import Derived.Maps.AppendAt
import Derived.Laws.CopyOwn
import Derived.Deep.Cut
import Derived.Laws.Entries
import Derived.Laws.Bits64
import Derived.IntWalk
import Derived.Deep.RegionLaw
import Derived.Deep.AppendLies
import Derived.Deep.DeepCutAuto
import Derived.ArgAppend

namespace Go.Proofs.Ytkfglodjnnlbkaa
set_option linter.unusedSimpArgs false
set_option linter.unusedVariables false
open Go.RowKit
/-- A part of a formula. -/
structure Pt where
  k : Int
  a : Int
  b : Int
  c : Int
  n : Int
deriving DecidableEq, Inhabited
def Pt.cells (p : Pt) : List Value := [.int .i64 p.k, .int .i64 p.a, .int .i64 p.b, .int .i64 p.c, .int .i64 p.n]
/-- The slice at A reads as the parts ps; it lies below block B. -/
def PS (w : World) (B : Nat) (A : Option Addr) (ps : List Pt) : Prop :=
  0 < ps.length → ∃ b off, A = some ⟨b, off, none⟩ ∧ b < B ∧ ∀ j, j < ps.length →
    w.cell? ⟨b, off + j * 5, none⟩ = some (.int .i64 (ps.getD j default).k) ∧ w.cell? ⟨b, off + j * 5 + 1, none⟩ = some (.int .i64 (ps.getD j default).a) ∧
    w.cell? ⟨b, off + j * 5 + 2, none⟩ = some (.int .i64 (ps.getD j default).b) ∧ w.cell? ⟨b, off + j * 5 + 3, none⟩ = some (.int .i64 (ps.getD j default).c) ∧
    w.cell? ⟨b, off + j * 5 + 4, none⟩ = some (.int .i64 (ps.getD j default).n)
theorem PS.keep {w w' : World} {B : Nat} {A : Option Addr} {ps : List Pt} (h : PS w B A ps) (hk : ∀ p : Addr, p.block < B → w'.cell? p = w.cell? p) : PS w' B A ps := by
  intro hn
  obtain ⟨b, off, e, hb, hc⟩ := h hn
  refine ⟨b, off, e, hb, fun j hj => ?_⟩
  obtain ⟨h0, h1, h2, h3, h4⟩ := hc j hj
  exact ⟨(hk _ hb).trans h0, (hk _ hb).trans h1, (hk _ hb).trans h2, (hk _ hb).trans h3, (hk _ hb).trans h4⟩
theorem PS.more {w : World} {B B' : Nat} {A : Option Addr} {ps : List Pt} (h : PS w B A ps) (hB : B ≤ B') : PS w B' A ps := by
  intro hn
  obtain ⟨b, off, e, hb, hc⟩ := h hn
  exact ⟨b, off, e, by omega, hc⟩
theorem PS.below {w w' : World} {B C : Nat} {A : Option Addr} {ps : List Pt} (h : PS w B A ps) (hb : Below C w w') (hC : B ≤ C) : PS w' B A ps :=
  h.keep fun _ hp => hb.cell (Nat.lt_of_lt_of_le hp hC)
theorem PS.alloc {w : World} {B : Nat} {A : Option Addr} {ps : List Pt} (h : PS w B A ps) (hB : B ≤ w.heap.size) (o : Obj) : PS (w.alloc o) B A ps :=
  h.keep fun p hp => World.cell?_alloc_lt w o p (by omega)
theorem PS.nil (w : World) (B : Nat) (A : Option Addr) : PS w B A [] := fun h => absurd h (by simp)
theorem length_cells (ps : List Pt) : (ps.flatMap Pt.cells).length = ps.length * 5 := by
  induction ps with
  | nil => rfl
  | cons p l ih => simp [List.flatMap_cons, ih, Pt.cells]; omega
theorem cells_get (ps : List Pt) (j : Nat) (h : j < ps.length) : (ps.flatMap Pt.cells)[j * 5]? = some (.int .i64 (ps.getD j default).k) ∧ (ps.flatMap Pt.cells)[j * 5 + 1]? = some (.int .i64 (ps.getD j default).a) ∧
    (ps.flatMap Pt.cells)[j * 5 + 2]? = some (.int .i64 (ps.getD j default).b) ∧ (ps.flatMap Pt.cells)[j * 5 + 3]? = some (.int .i64 (ps.getD j default).c) ∧ (ps.flatMap Pt.cells)[j * 5 + 4]? = some (.int .i64 (ps.getD j default).n) := by
  induction ps generalizing j with
  | nil => simp at h
  | cons p l ih =>
    have e : (p :: l).flatMap Pt.cells = p.cells ++ l.flatMap Pt.cells := by simp [List.flatMap_cons]
    rw [e]
    match j with
    | 0 => simp [Pt.cells]
    | j + 1 =>
      have hj : j < l.length := by simpa using h
      have hc : p.cells.length = 5 := rfl
      obtain ⟨a0, a1, a2, a3, a4⟩ := ih j hj
      have s (d : Nat) : (p.cells ++ l.flatMap Pt.cells)[(j + 1) * 5 + d]? = (l.flatMap Pt.cells)[j * 5 + d]? := by
        rw [List.getElem?_append_right (by omega), hc]; congr 1; omega
      have s0 := s 0
      simp only [Nat.add_zero] at s0
      rw [s0, s 1, s 2, s 3, s 4]
      simpa using ⟨a0, a1, a2, a3, a4⟩
theorem PS.of_own {w : World} {base e n c : Nat} {A : Option Addr} {ps : List Pt} (h : w.ownsRow base e 5 (.slice A n c) n (ps.flatMap Pt.cells)) : PS w w.heap.size A ps := by
  intro hn
  have hl : ps.length = n := by have := h.1; rw [length_cells] at this; omega
  rcases h.2 with ⟨_, h0⟩ | ⟨g, cap, cur, hv, _, hh, _⟩
  · omega
  · simp only [Value.slice.injEq] at hv
    obtain ⟨rfl, _, rfl⟩ := hv
    have hg : g < w.heap.size := by
      rcases Nat.lt_or_ge g w.heap.size with hlt | hge
      · exact hlt
      · rw [Array.getElem?_eq_none hge] at hh; cases hh
    refine ⟨g, 0, rfl, hg, fun j hj => ?_⟩
    obtain ⟨a0, a1, a2, a3, a4⟩ := cells_get ps j hj
    simp only [Nat.zero_add]
    rw [h.cellAt _ (by omega), h.cellAt _ (by omega), h.cellAt _ (by omega), h.cellAt _ (by omega), h.cellAt _ (by omega)]
    exact ⟨a0, a1, a2, a3, a4⟩
end Go.Proofs.Ytkfglodjnnlbkaa

namespace Go.Proofs.Ytkfglodjnnlbkaa
set_option linter.unusedSimpArgs false
set_option linter.unusedVariables false
open Go.RowKit
theorem own_below {w w' : World} {base e size n : Nat} {v : Value} {xs : List Value} (h : w.ownsRow base e size v n xs) (hb : Below w.heap.size w w') : w'.ownsRow base e size v n xs :=
  h.kept (row := none) ⟨hb.os, hb.tape, hb.output, hb.size, fun k hk _ => hb.block k hk⟩ (by cases v.ownBlock <;> simp)
theorem own_mono {w : World} {base base' e size n : Nat} {v : Value} {xs : List Value} (h : w.ownsRow base e size v n xs) (hb : base' ≤ base) : w.ownsRow base' e size v n xs :=
  ⟨h.1, h.2.imp_right fun ⟨g, cap, cur, h1, h2, h3⟩ => ⟨g, cap, cur, h1, by omega, h3⟩⟩
end Go.Proofs.Ytkfglodjnnlbkaa

namespace Go.Proofs.Ytkfglodjnnlbkaa
set_option linter.unusedSimpArgs false
set_option linter.unusedVariables false
open Go.RowKit
inductive Tm where
  | num (v : Int)
  | rd (v : Int)
  | pr (k : Int) (l r : Tm)
  | ch (t a b : Tm)
/-- The term of the part at an index; the number bounds how deep one goes. -/
def tmAt (ps : List Pt) : Nat → Nat → Tm
  | 0, _ => .num 0
  | f + 1, i =>
    let p := ps.getD i default
    if p.k == 0 then .num p.n
    else if p.k == 1 then .rd p.n
    else if p.k == 8 then .ch (tmAt ps f p.a.toNat) (tmAt ps f p.b.toNat) (tmAt ps f p.c.toNat)
    else .pr p.k (tmAt ps f p.a.toNat) (tmAt ps f p.b.toNat)
end Go.Proofs.Ytkfglodjnnlbkaa

namespace Go.Proofs.Ytkfglodjnnlbkaa
set_option linter.unusedSimpArgs false
set_option linter.unusedVariables false
open Go.RowKit
theorem PS.step {A : Option Addr} {ps : List Pt} {wk wl : World} (h : PS wk wk.heap.size A ps) (hb : Below wk.heap.size wk wl) : PS wl wl.heap.size A ps := (h.below hb (Nat.le_refl _)).more hb.size
end Go.Proofs.Ytkfglodjnnlbkaa

namespace Go.Proofs.Ytkfglodjnnlbkaa
set_option linter.unusedSimpArgs false
set_option linter.unusedVariables false
open Go.RowKit
def Tm.deep : Tm → Nat
  | .num _ => 1
  | .rd _ => 1
  | .pr _ l r => max l.deep r.deep + 1
  | .ch t a b => max (max t.deep a.deep) b.deep + 1
end Go.Proofs.Ytkfglodjnnlbkaa

namespace Go.Proofs.Ytkfglodjnnlbkaa
set_option linter.unusedSimpArgs false
set_option linter.unusedVariables false
open Go.RowKit
/-- A row of the call's own in blocks lo to hi - 1. -/
def OwR (lo hi : Nat) (e : TypeId) (size : Nat) (v : Value) (n : Nat) (xs : List Value) (w : World) : Prop :=
  w.ownsRow lo e size v n xs ∧ ∀ k, v.ownBlock = some k → k < hi
section
variable {lo hi lo' hi' : Nat} {e : TypeId} {size n : Nat} {v : Value} {xs : List Value} {w w' : World}
theorem OwR.start (h : w.ownsRow lo e size v n xs) : OwR lo w.heap.size e size v n xs w := ⟨h, fun k hk => (h.lt k hk).2⟩
theorem OwR.mono (h : OwR lo hi e size v n xs w) (h1 : lo' ≤ lo) (h2 : hi ≤ hi') : OwR lo' hi' e size v n xs w := ⟨own_mono h.1 h1, fun k hk => Nat.lt_of_lt_of_le (h.2 k hk) h2⟩
theorem OwR.keep (h : OwR lo hi e size v n xs w) (hk : ∀ k, lo ≤ k → k < hi → w'.heap[k]? = w.heap[k]?) : OwR lo hi e size v n xs w' := by
  refine ⟨⟨h.1.1, ?_⟩, h.2⟩
  rcases h.1.2 with hn | ⟨g, cap, cur, rfl, hb, hg, r⟩
  · exact .inl hn
  · exact .inr ⟨g, cap, cur, rfl, hb, by rw [hk g hb (h.2 g rfl)]; exact hg, r⟩
theorem OwR.nil (lo hi : Nat) (e : TypeId) (size : Nat) (w : World) : OwR lo hi e size (.slice none 0 0) 0 [] w := ⟨World.ownsRow_nil _ _ _ _, fun k hk => by simp [Value.ownBlock] at hk⟩
theorem OwR.step (h : OwR lo hi e size v n xs w) (hb : Below w.heap.size w w') : OwR lo hi e size v n xs w' := by
  refine ⟨own_below h.1 hb, h.2⟩
end
section
variable {lo hi : Nat} {n c : Nat} {A : Option Addr} {ps : List Pt} {xs : List Int} {w : World}
end
end Go.Proofs.Ytkfglodjnnlbkaa

namespace Go.Proofs.Ytkfglodjnnlbkaa
set_option linter.unusedSimpArgs false
set_option linter.unusedVariables false
open Go.RowKit
/-- The block of a row of one kind is not that of a row of another kind. -/
theorem blocks_ne {w : World} {b1 b2 : Nat} {e1 e2 : TypeId} {s1 s2 n1 n2 : Nat} {v u : Value} {xs ys : List Value} (h : w.ownsRow b1 e1 s1 v n1 xs) (h' : w.ownsRow b2 e2 s2 u n2 ys) (he : e1 ≠ e2) : v.ownBlock = none ∨ v.ownBlock ≠ u.ownBlock := by
  rcases h.2 with ⟨rfl, _⟩ | ⟨g, cap, cur, rfl, _, hh, _⟩
  · exact .inl rfl
  · right
    rcases h'.2 with ⟨rfl, _⟩ | ⟨g', cap', cur', rfl, _, hh', _⟩
    · simp [Value.ownBlock]
    · simp only [Value.ownBlock, ne_eq, Option.some.injEq]
      rintro rfl
      rw [hh] at hh'
      simp only [Option.some.injEq, Obj.cells.injEq] at hh'
      exact he hh'.2.1
end Go.Proofs.Ytkfglodjnnlbkaa

namespace Go.Proofs.Ytkfglodjnnlbkaa
set_option linter.unusedSimpArgs false
set_option linter.unusedVariables false
open Go.RowKit
/-- Block b has cells of type t. -/
def Tg (b : Nat) (t : TypeId) (w : World) : Prop := ∃ arr fr, w.heap[b]? = some (.cells arr t fr)
theorem Tg.new (w : World) (a : Array Value) (t : TypeId) (fr : Nat × Nat) : Tg w.heap.size t (w.alloc (.cells a t fr)) := ⟨a, fr, heap_alloc_new w _⟩
theorem Tg.keep {b : Nat} {t : TypeId} {w w' : World} (h : Tg b t w) (e : w'.heap[b]? = w.heap[b]?) : Tg b t w' := by
  obtain ⟨a, fr, h⟩ := h; exact ⟨a, fr, e.trans h⟩
theorem Tg.below {b C : Nat} {t : TypeId} {w w' : World} (h : Tg b t w) (hb : Below C w w') (hC : b < C) : Tg b t w' := h.keep (hb.block b hC)
theorem Tg.set {b : Nat} {t : TypeId} {w : World} (h : Tg b t w) (a : Addr) (u : Value) : Tg b t (w.setCell a u) := by
  by_cases e : a.block = b
  · obtain ⟨arr, fr, h⟩ := h
    subst e
    refine ⟨if a.spot.isSome then arr else arr.setIfInBounds a.off u, fr, ?_⟩
    simp [World.setCell, Array.getElem?_modify, h]
  · exact h.keep (Below.heap_setCell _ _ _ _ (fun e' => e e'.symm))
theorem own_tag {b base size n : Nat} {e t : TypeId} {v : Value} {xs : List Value} {w : World} (h : w.ownsRow base e size v n xs) (hb : Tg b t w) (ht : e ≠ t) : v.ownBlock ≠ some b := by
  obtain ⟨arr, fr, hb⟩ := hb
  rcases h.2 with ⟨rfl, _⟩ | ⟨g, cap, cur, rfl, _, hg, _⟩
  · simp [Value.ownBlock]
  · intro e'
    simp only [Value.ownBlock, Option.some.injEq] at e'
    subst e'
    rw [hg] at hb
    simp only [Option.some.injEq, Obj.cells.injEq] at hb
    exact ht hb.2.1
theorem own_setT {b base size n : Nat} {e t : TypeId} {v : Value} {xs : List Value} {w : World} (h : w.ownsRow base e size v n xs) (hb : Tg b t w) (ht : e ≠ t) (j : Nat) (sp : Option Nat) (u : Value) : (w.setCell ⟨b, j, none⟩ u).ownsRow base e size v n xs := by
  have h1 := own_tag h hb ht
  refine ⟨h.1, ?_⟩
  rcases h.2 with ⟨rfl, hn⟩ | ⟨g, cap, cur, rfl, h2, hg, h3⟩
  · exact .inl ⟨rfl, hn⟩
  · exact .inr ⟨g, cap, cur, rfl, h2, by rw [Below.heap_setCell _ _ _ _ (fun e' => h1 (by simp [Value.ownBlock]; exact e'))]; exact hg, h3⟩
end Go.Proofs.Ytkfglodjnnlbkaa

namespace Go.Proofs.Ytkfglodjnnlbkaa
set_option linter.unusedSimpArgs false
set_option linter.unusedVariables false
open Go.RowKit Go.Maps
/-- A pointer to a whole block, or nil. -/
def ptrV : Option Nat → Value
  | none => .pointer none
  | some g => .pointer (some ⟨g, 0, none⟩)
/-- What a pointer to a whole block reads as. -/
def ptrR (v : Value) : Option (DataW Unit × List MemPlace) :=
  match v with
  | .pointer none => some (.lit (.int .i64 (-1)), [])
  | .pointer (some ⟨b, 0, none⟩) => some (.lit (.int .i64 b), [])
  | _ => none
def ptrD : Option Nat → DataW Unit
  | none => .lit (.int .i64 (-1))
  | some g => .lit (.int .i64 (g : Int))
theorem ptrR_of (o : Option Nat) : ptrR (ptrV o) = some (ptrD o, []) := by cases o <;> rfl
theorem ptrR_inv {v : Value} {o : Option Nat} {ps : List MemPlace} (h : ptrR v = some (ptrD o, ps)) : v = ptrV o := by
  unfold ptrR at h
  split at h
  · cases o with
    | none => rfl
    | some g => simp [ptrD] at h
  · rename_i b
    cases o with
    | none => simp [ptrD] at h
    | some g =>
      simp [ptrD] at h
      have : b = g := by omega
      subst this; rfl
  · cases h
theorem int_law : Keyed Try.prog 3 := int_keyed Try.underlying3
end Go.Proofs.Ytkfglodjnnlbkaa

namespace Go.Proofs.Ytkfglodjnnlbkaa
set_option linter.unusedSimpArgs false
set_option linter.unusedVariables false
open Go.RowKit
def Tm.ok (m : Nat) : Tm → Prop
  | .num v => 0 ≤ v ∧ v ≤ 99
  | .rd v => 0 ≤ v ∧ v < (m : Int)
  | .pr _ l r => l.ok m ∧ r.ok m
  | .ch t a b => t.ok m ∧ a.ok m ∧ b.ok m
end Go.Proofs.Ytkfglodjnnlbkaa

namespace Go.Proofs.Ytkfglodjnnlbkaa
set_option linter.unusedSimpArgs false
set_option linter.unusedVariables false
open Go.RowKit
/-- The whole of a formula as a term. -/
def whole (ps : List Pt) : Tm := tmAt ps ps.length (ps.length - 1)
end Go.Proofs.Ytkfglodjnnlbkaa

namespace Go.Proofs.Ytkfglodjnnlbkaa
set_option linter.unusedSimpArgs false
set_option linter.unusedVariables false
def Tm.size : Tm → Nat
  | .num _ => 1
  | .rd _ => 1
  | .pr _ l r => l.size + r.size + 1
  | .ch t a b => t.size + a.size + b.size + 1
/-- The part of a term, for the parts below it at some indices. -/
def Tm.own : Tm → List Int → Pt
  | .num v, _ => ⟨0, -1, -1, -1, v⟩
  | .rd v, _ => ⟨1, -1, -1, -1, v⟩
  | .pr K _ _, at_ => ⟨K, at_.getD 0 0, at_.getD 1 0, -1, 0⟩
  | .ch _ _ _, at_ => ⟨8, at_.getD 0 0, at_.getD 1 0, at_.getD 2 0, 0⟩
end Go.Proofs.Ytkfglodjnnlbkaa
