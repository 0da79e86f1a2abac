/- Words and contracts for memory that the texts behind use. -/
import Derived.Test.YtlcpgbbpjnkihaaGreatL0
import Derived.WalkKit
import Derived.Laws.OwnMore
import Derived.Deep.Draws
import Derived.Test.YtlcpgbbpjnkihaaGreatProg
import Derived.WalkSpells
import Derived.WalkLawsBesides
import Derived.Outline
import Derived.Lib.Hide
import Derived.BigQuiet
import Derived.Deep.QuietTactic
import Derived.StillTailTactics
import Derived.Deep.LoopGhost
import Derived.Laws.MakeOwn
import Derived.WalkSmall
import Derived.RegionTactic
import Derived.BigRegion
import Derived.Deep.RegionWith
import Derived.Deep.RegionHeld3
import Derived.Maps.AppendAt
import Derived.Laws.CopyOwn
import Derived.Deep.Cut

namespace Go.Proofs.YtlcpgbbpjnkihaaGreat
set_option linter.unusedSimpArgs false
set_option linter.unusedVariables false
open Go.RowKit
def Pt.cells (p : Pt) : List Value := [.int .i64 p.k, .int .i64 p.a, .int .i64 p.b, .int .i64 p.c, .int .i64 p.n]
/-- The slice at A reads as the numbers xs; it lies below block B. -/
def IS (w : World) (B : Nat) (A : Option Addr) (xs : List Int) : Prop :=
  0 < xs.length → ∃ b off, A = some ⟨b, off, none⟩ ∧ b < B ∧ ∀ j, j < xs.length → w.cell? ⟨b, off + j, none⟩ = some (.int .i64 (xs.getD j 0))
/-- The slice at A reads as the parts ps; it lies below block B. -/
def PS (w : World) (B : Nat) (A : Option Addr) (ps : List Pt) : Prop :=
  0 < ps.length → ∃ b off, A = some ⟨b, off, none⟩ ∧ b < B ∧ ∀ j, j < ps.length →
    w.cell? ⟨b, off + j * 5, none⟩ = some (.int .i64 (ps.getD j default).k) ∧ w.cell? ⟨b, off + j * 5 + 1, none⟩ = some (.int .i64 (ps.getD j default).a) ∧
    w.cell? ⟨b, off + j * 5 + 2, none⟩ = some (.int .i64 (ps.getD j default).b) ∧ w.cell? ⟨b, off + j * 5 + 3, none⟩ = some (.int .i64 (ps.getD j default).c) ∧
    w.cell? ⟨b, off + j * 5 + 4, none⟩ = some (.int .i64 (ps.getD j default).n)
theorem IS.keep {w w' : World} {B : Nat} {A : Option Addr} {xs : List Int} (h : IS w B A xs) (hk : ∀ p : Addr, p.block < B → w'.cell? p = w.cell? p) : IS w' B A xs := by
  intro hn
  obtain ⟨b, off, e, hb, hc⟩ := h hn
  exact ⟨b, off, e, hb, fun j hj => (hk _ hb).trans (hc j hj)⟩
theorem PS.keep {w w' : World} {B : Nat} {A : Option Addr} {ps : List Pt} (h : PS w B A ps) (hk : ∀ p : Addr, p.block < B → w'.cell? p = w.cell? p) : PS w' B A ps := by
  intro hn
  obtain ⟨b, off, e, hb, hc⟩ := h hn
  refine ⟨b, off, e, hb, fun j hj => ?_⟩
  obtain ⟨h0, h1, h2, h3, h4⟩ := hc j hj
  exact ⟨(hk _ hb).trans h0, (hk _ hb).trans h1, (hk _ hb).trans h2, (hk _ hb).trans h3, (hk _ hb).trans h4⟩
theorem IS.more {w : World} {B B' : Nat} {A : Option Addr} {xs : List Int} (h : IS w B A xs) (hB : B ≤ B') : IS w B' A xs := by
  intro hn
  obtain ⟨b, off, e, hb, hc⟩ := h hn
  exact ⟨b, off, e, by omega, hc⟩
theorem PS.more {w : World} {B B' : Nat} {A : Option Addr} {ps : List Pt} (h : PS w B A ps) (hB : B ≤ B') : PS w B' A ps := by
  intro hn
  obtain ⟨b, off, e, hb, hc⟩ := h hn
  exact ⟨b, off, e, by omega, hc⟩
theorem IS.below {w w' : World} {B C : Nat} {A : Option Addr} {xs : List Int} (h : IS w B A xs) (hb : Below C w w') (hC : B ≤ C) : IS w' B A xs :=
  h.keep fun _ hp => hb.cell (Nat.lt_of_lt_of_le hp hC)
theorem PS.below {w w' : World} {B C : Nat} {A : Option Addr} {ps : List Pt} (h : PS w B A ps) (hb : Below C w w') (hC : B ≤ C) : PS w' B A ps :=
  h.keep fun _ hp => hb.cell (Nat.lt_of_lt_of_le hp hC)
theorem IS.alloc {w : World} {B : Nat} {A : Option Addr} {xs : List Int} (h : IS w B A xs) (hB : B ≤ w.heap.size) (o : Obj) : IS (w.alloc o) B A xs :=
  h.keep fun p hp => World.cell?_alloc_lt w o p (by omega)
theorem PS.alloc {w : World} {B : Nat} {A : Option Addr} {ps : List Pt} (h : PS w B A ps) (hB : B ≤ w.heap.size) (o : Obj) : PS (w.alloc o) B A ps :=
  h.keep fun p hp => World.cell?_alloc_lt w o p (by omega)
theorem IS.nil (w : World) (B : Nat) (A : Option Addr) : IS w B A [] := fun h => absurd h (by simp)
theorem PS.nil (w : World) (B : Nat) (A : Option Addr) : PS w B A [] := fun h => absurd h (by simp)
theorem IS.of_own {w : World} {base e n c : Nat} {A : Option Addr} {xs : List Int} (h : w.ownsRow base e 1 (.slice A n c) n (xs.map (Value.int .i64))) : IS w w.heap.size A xs := by
  intro hn
  have hl : xs.length = n := by simpa using h.1
  rcases h.2 with ⟨_, h0⟩ | ⟨g, cap, cur, hv, _, hh, _⟩
  · omega
  · simp only [Value.slice.injEq] at hv
    obtain ⟨rfl, _, rfl⟩ := hv
    have hg : g < w.heap.size := by
      rcases Nat.lt_or_ge g w.heap.size with hlt | hge
      · exact hlt
      · rw [Array.getElem?_eq_none hge] at hh; cases hh
    refine ⟨g, 0, rfl, hg, fun j hj => ?_⟩
    rw [h.cellAt _ (by omega)]
    simp [List.getD, hj]
theorem length_cells (ps : List Pt) : (ps.flatMap Pt.cells).length = ps.length * 5 := by
  induction ps with
  | nil => rfl
  | cons p l ih => simp [List.flatMap_cons, ih, Pt.cells]; omega
theorem cells_get (ps : List Pt) (j : Nat) (h : j < ps.length) : (ps.flatMap Pt.cells)[j * 5]? = some (.int .i64 (ps.getD j default).k) ∧ (ps.flatMap Pt.cells)[j * 5 + 1]? = some (.int .i64 (ps.getD j default).a) ∧
    (ps.flatMap Pt.cells)[j * 5 + 2]? = some (.int .i64 (ps.getD j default).b) ∧ (ps.flatMap Pt.cells)[j * 5 + 3]? = some (.int .i64 (ps.getD j default).c) ∧ (ps.flatMap Pt.cells)[j * 5 + 4]? = some (.int .i64 (ps.getD j default).n) := by
  induction ps generalizing j with
  | nil => simp at h
  | cons p l ih =>
    have e : (p :: l).flatMap Pt.cells = p.cells ++ l.flatMap Pt.cells := by simp [List.flatMap_cons]
    rw [e]
    match j with
    | 0 => simp [Pt.cells]
    | j + 1 =>
      have hj : j < l.length := by simpa using h
      have hc : p.cells.length = 5 := rfl
      obtain ⟨a0, a1, a2, a3, a4⟩ := ih j hj
      have s (d : Nat) : (p.cells ++ l.flatMap Pt.cells)[(j + 1) * 5 + d]? = (l.flatMap Pt.cells)[j * 5 + d]? := by
        rw [List.getElem?_append_right (by omega), hc]; congr 1; omega
      have s0 := s 0
      simp only [Nat.add_zero] at s0
      rw [s0, s 1, s 2, s 3, s 4]
      simpa using ⟨a0, a1, a2, a3, a4⟩
theorem PS.of_own {w : World} {base e n c : Nat} {A : Option Addr} {ps : List Pt} (h : w.ownsRow base e 5 (.slice A n c) n (ps.flatMap Pt.cells)) : PS w w.heap.size A ps := by
  intro hn
  have hl : ps.length = n := by have := h.1; rw [length_cells] at this; omega
  rcases h.2 with ⟨_, h0⟩ | ⟨g, cap, cur, hv, _, hh, _⟩
  · omega
  · simp only [Value.slice.injEq] at hv
    obtain ⟨rfl, _, rfl⟩ := hv
    have hg : g < w.heap.size := by
      rcases Nat.lt_or_ge g w.heap.size with hlt | hge
      · exact hlt
      · rw [Array.getElem?_eq_none hge] at hh; cases hh
    refine ⟨g, 0, rfl, hg, fun j hj => ?_⟩
    obtain ⟨a0, a1, a2, a3, a4⟩ := cells_get ps j hj
    simp only [Nat.zero_add]
    rw [h.cellAt _ (by omega), h.cellAt _ (by omega), h.cellAt _ (by omega), h.cellAt _ (by omega), h.cellAt _ (by omega)]
    exact ⟨a0, a1, a2, a3, a4⟩
/-- The slice value is one of the call's own, of numbers. -/
def OwnI (w : World) (base : Nat) (v : Value) (xs : List Int) : Prop := w.ownsRow base 3 1 v xs.length (xs.map (Value.int .i64))
theorem OwnI.form {w : World} {base : Nat} {v : Value} {xs : List Int} (h : OwnI w base v xs) : ∃ A c, v = .slice A xs.length c ∧ IS w w.heap.size A xs := by
  have h' := h
  rcases h.2 with ⟨hv, h0⟩ | ⟨g, cap, cur, hv, _⟩
  · have hx : xs = [] := List.eq_nil_of_length_eq_zero h0
    subst hx
    exact ⟨none, 0, hv, IS.nil _ _ _⟩
  · subst hv
    exact ⟨_, _, rfl, IS.of_own h'⟩
end Go.Proofs.YtlcpgbbpjnkihaaGreat

namespace Go.Proofs.YtlcpgbbpjnkihaaGreat
set_option linter.unusedSimpArgs false
set_option linter.unusedVariables false
open Go.RowKit
theorem own_below {w w' : World} {base e size n : Nat} {v : Value} {xs : List Value} (h : w.ownsRow base e size v n xs) (hb : Below w.heap.size w w') : w'.ownsRow base e size v n xs :=
  h.kept (row := none) ⟨hb.os, hb.tape, hb.output, hb.size, fun k hk _ => hb.block k hk⟩ (by cases v.ownBlock <;> simp)
theorem own_mono {w : World} {base base' e size n : Nat} {v : Value} {xs : List Value} (h : w.ownsRow base e size v n xs) (hb : base' ≤ base) : w.ownsRow base' e size v n xs :=
  ⟨h.1, h.2.imp_right fun ⟨g, cap, cur, h1, h2, h3⟩ => ⟨g, cap, cur, h1, by omega, h3⟩⟩
end Go.Proofs.YtlcpgbbpjnkihaaGreat

namespace Go.Proofs.YtlcpgbbpjnkihaaGreat
set_option linter.unusedSimpArgs false
set_option linter.unusedVariables false
open Go.RowKit
theorem own_form {w : World} {base e size n : Nat} {v : Value} {xs : List Value} (h : w.ownsRow base e size v n xs) : ∃ A c, v = .slice A n c := by
  rcases h.2 with ⟨hv, h0⟩ | ⟨g, cap, cur, hv, _⟩
  · exact ⟨none, 0, by rw [hv, h0]⟩
  · exact ⟨_, _, hv⟩
end Go.Proofs.YtlcpgbbpjnkihaaGreat

namespace Go.Proofs.YtlcpgbbpjnkihaaGreat
set_option linter.unusedSimpArgs false
set_option linter.unusedVariables false
open Go.RowKit
theorem PS.step {A : Option Addr} {ps : List Pt} {wk wl : World} (h : PS wk wk.heap.size A ps) (hb : Below wk.heap.size wk wl) : PS wl wl.heap.size A ps := (h.below hb (Nat.le_refl _)).more hb.size
theorem IS.step {A : Option Addr} {xs : List Int} {wk wl : World} (h : IS wk wk.heap.size A xs) (hb : Below wk.heap.size wk wl) : IS wl wl.heap.size A xs := (h.below hb (Nat.le_refl _)).more hb.size
end Go.Proofs.YtlcpgbbpjnkihaaGreat

namespace Go.Proofs.YtlcpgbbpjnkihaaGreat
set_option linter.unusedSimpArgs false
set_option linter.unusedVariables false
open Go.RowKit
/-- P speaks of blocks lo to hi - 1 alone. -/
def Loc (lo hi : Nat) (P : World → Prop) : Prop := ∀ w w' : World, P w → (∀ k, lo ≤ k → k < hi → w'.heap[k]? = w.heap[k]?) → P w'
theorem Loc.and {lo hi : Nat} {P Q : World → Prop} (hP : Loc lo hi P) (hQ : Loc lo hi Q) : Loc lo hi fun w => P w ∧ Q w :=
  fun w w' h hk => ⟨hP w w' h.1 hk, hQ w w' h.2 hk⟩
theorem Loc.mono {lo hi lo' hi' : Nat} {P : World → Prop} (h : Loc lo hi P) (h1 : lo' ≤ lo) (h2 : hi ≤ hi') : Loc lo' hi' P :=
  fun w w' hp hk => h w w' hp fun k a b => hk k (by omega) (by omega)
theorem IS.loc (B : Nat) (A : Option Addr) (xs : List Int) : Loc 0 B fun w => IS w B A xs :=
  fun w w' h hk => h.keep fun p hp => World.cell?_of_block (hk p.block (Nat.zero_le _) hp)
theorem PS.loc (B : Nat) (A : Option Addr) (ps : List Pt) : Loc 0 B fun w => PS w B A ps :=
  fun w w' h hk => h.keep fun p hp => World.cell?_of_block (hk p.block (Nat.zero_le _) hp)
/-- A row of the call's own in blocks lo to hi - 1. -/
def OwR (lo hi : Nat) (e : TypeId) (size : Nat) (v : Value) (n : Nat) (xs : List Value) (w : World) : Prop :=
  w.ownsRow lo e size v n xs ∧ ∀ k, v.ownBlock = some k → k < hi
section
variable {lo hi lo' hi' : Nat} {e : TypeId} {size n : Nat} {v : Value} {xs : List Value} {w w' : World}
theorem OwR.start (h : w.ownsRow lo e size v n xs) : OwR lo w.heap.size e size v n xs w := ⟨h, fun k hk => (h.lt k hk).2⟩
theorem OwR.mono (h : OwR lo hi e size v n xs w) (h1 : lo' ≤ lo) (h2 : hi ≤ hi') : OwR lo' hi' e size v n xs w := ⟨own_mono h.1 h1, fun k hk => Nat.lt_of_lt_of_le (h.2 k hk) h2⟩
theorem OwR.keep (h : OwR lo hi e size v n xs w) (hk : ∀ k, lo ≤ k → k < hi → w'.heap[k]? = w.heap[k]?) : OwR lo hi e size v n xs w' := by
  refine ⟨⟨h.1.1, ?_⟩, h.2⟩
  rcases h.1.2 with hn | ⟨g, cap, cur, rfl, hb, hg, r⟩
  · exact .inl hn
  · exact .inr ⟨g, cap, cur, rfl, hb, by rw [hk g hb (h.2 g rfl)]; exact hg, r⟩
theorem OwR.loc (lo hi : Nat) (e : TypeId) (size : Nat) (v : Value) (n : Nat) (xs : List Value) : Loc lo hi (OwR lo hi e size v n xs) := fun w w' h hk => h.keep hk
theorem OwR.nil (lo hi : Nat) (e : TypeId) (size : Nat) (w : World) : OwR lo hi e size (.slice none 0 0) 0 [] w := ⟨World.ownsRow_nil _ _ _ _, fun k hk => by simp [Value.ownBlock] at hk⟩
theorem OwR.step (h : OwR lo hi e size v n xs w) (hb : Below w.heap.size w w') : OwR lo hi e size v n xs w' := by
  refine ⟨own_below h.1 hb, h.2⟩
end
section
variable {lo hi : Nat} {n c : Nat} {A : Option Addr} {ps : List Pt} {xs : List Int} {w : World}
theorem OwR.ints (h : OwR lo hi 3 1 (.slice A n c) n (xs.map (Value.int .i64)) w) : IS w hi A xs := by
  intro hn
  obtain ⟨b, off, rfl, _, hc⟩ := IS.of_own h.1 hn
  exact ⟨b, off, rfl, h.2 b rfl, hc⟩
theorem OwR.parts (h : OwR lo hi 120 5 (.slice A n c) n (ps.flatMap Pt.cells) w) : PS w hi A ps := by
  intro hn
  obtain ⟨b, off, rfl, _, hc⟩ := PS.of_own h.1 hn
  exact ⟨b, off, rfl, h.2 b rfl, hc⟩
end
end Go.Proofs.YtlcpgbbpjnkihaaGreat

namespace Go.Proofs.YtlcpgbbpjnkihaaGreat
set_option linter.unusedSimpArgs false
set_option linter.unusedVariables false
open Go.RowKit
/-- The block of a row of one kind is not that of a row of another kind. -/
theorem blocks_ne {w : World} {b1 b2 : Nat} {e1 e2 : TypeId} {s1 s2 n1 n2 : Nat} {v u : Value} {xs ys : List Value} (h : w.ownsRow b1 e1 s1 v n1 xs) (h' : w.ownsRow b2 e2 s2 u n2 ys) (he : e1 ≠ e2) : v.ownBlock = none ∨ v.ownBlock ≠ u.ownBlock := by
  rcases h.2 with ⟨rfl, _⟩ | ⟨g, cap, cur, rfl, _, hh, _⟩
  · exact .inl rfl
  · right
    rcases h'.2 with ⟨rfl, _⟩ | ⟨g', cap', cur', rfl, _, hh', _⟩
    · simp [Value.ownBlock]
    · simp only [Value.ownBlock, ne_eq, Option.some.injEq]
      rintro rfl
      rw [hh] at hh'
      simp only [Option.some.injEq, Obj.cells.injEq] at hh'
      exact he hh'.2.1
end Go.Proofs.YtlcpgbbpjnkihaaGreat

namespace Go.Proofs.YtlcpgbbpjnkihaaGreat
set_option linter.unusedSimpArgs false
set_option linter.unusedVariables false
open Go.RowKit
theorem OwnI.at_ {w : World} {base n : Nat} {v : Value} {xs : List Int} (h : OwnI w base v xs) (hn : xs.length = n) : ∃ A c, v = .slice A n c ∧ IS w w.heap.size A xs := by
  subst hn
  exact h.form
end Go.Proofs.YtlcpgbbpjnkihaaGreat

namespace Go.Proofs.YtlcpgbbpjnkihaaGreat
set_option linter.unusedSimpArgs false
set_option linter.unusedVariables false
open Go.RowKit
/-- The slice at A reads as the lists xss; all of it lies below block B. -/
def SS (w : World) (B : Nat) (A : Option Addr) (xss : List (List Int)) : Prop :=
  0 < xss.length → ∃ b off, A = some ⟨b, off, none⟩ ∧ b < B ∧ ∀ j, j < xss.length → ∃ A' n c, w.cell? ⟨b, off + j, none⟩ = some (.slice A' n c) ∧ n = (xss.getD j []).length ∧ IS w B A' (xss.getD j [])
section
variable {w w' : World} {B B' C : Nat} {A : Option Addr} {xss : List (List Int)}
theorem SS.keep (h : SS w B A xss) (hk : ∀ p : Addr, p.block < B → w'.cell? p = w.cell? p) : SS w' B A xss := by
  intro hn
  obtain ⟨b, off, e, hb, hc⟩ := h hn
  refine ⟨b, off, e, hb, fun j hj => ?_⟩
  obtain ⟨A', n, c, h1, h2, h3⟩ := hc j hj
  exact ⟨A', n, c, (hk _ hb).trans h1, h2, h3.keep hk⟩
theorem SS.more (h : SS w B A xss) (hB : B ≤ B') : SS w B' A xss := by
  intro hn
  obtain ⟨b, off, e, hb, hc⟩ := h hn
  refine ⟨b, off, e, by omega, fun j hj => ?_⟩
  obtain ⟨A', n, c, h1, h2, h3⟩ := hc j hj
  exact ⟨A', n, c, h1, h2, h3.more hB⟩
theorem SS.below (h : SS w B A xss) (hb : Below C w w') (hC : B ≤ C) : SS w' B A xss := h.keep fun _ hp => hb.cell (Nat.lt_of_lt_of_le hp hC)
theorem SS.alloc (h : SS w B A xss) (hB : B ≤ w.heap.size) (o : Obj) : SS (w.alloc o) B A xss := h.keep fun p hp => World.cell?_alloc_lt w o p (by omega)
theorem SS.nil (w : World) (B : Nat) (A : Option Addr) : SS w B A [] := fun h => absurd h (by simp)
end
theorem SS.step {A : Option Addr} {xss : List (List Int)} {wk wl : World} (h : SS wk wk.heap.size A xss) (hb : Below wk.heap.size wk wl) : SS wl wl.heap.size A xss := (h.below hb (Nat.le_refl _)).more hb.size
theorem SS.loc (B : Nat) (A : Option Addr) (xss : List (List Int)) : Loc 0 B fun w => SS w B A xss :=
  fun w w' h hk => h.keep fun p hp => World.cell?_of_block (hk p.block (Nat.zero_le _) hp)
/-- The rows vs lie in blocks of their own and have contents cont. -/
structure SSk (lo hi : Nat) (vs : List Value) (lens : Nat → Nat) (cont : Nat → List Value) (w : World) : Prop where
  row : ∀ j, j < vs.length → ∃ A m c, vs[j]? = some (.slice A m c) ∧ m = lens j ∧ OwR lo hi 3 1 (.slice A m c) m (cont j) w
  apart : ∀ (i j : Nat) (v u : Value) (k : Nat), i ≠ j → vs[i]? = some v → vs[j]? = some u → v.ownBlock = some k → u.ownBlock ≠ some k
theorem SSk.keep {lo hi : Nat} {vs : List Value} {lens : Nat → Nat} {cont : Nat → List Value} {w w' : World} (h : SSk lo hi vs lens cont w) (hk : ∀ k, lo ≤ k → k < hi → w'.heap[k]? = w.heap[k]?) : SSk lo hi vs lens cont w' :=
  ⟨fun j hj => by obtain ⟨A, m, c, h1, h2, h3⟩ := h.row j hj; exact ⟨A, m, c, h1, h2, h3.keep hk⟩, h.apart⟩
theorem SSk.mono {lo hi lo' hi' : Nat} {vs : List Value} {lens : Nat → Nat} {cont : Nat → List Value} {w : World} (h : SSk lo hi vs lens cont w) (h1 : lo' ≤ lo) (h2 : hi ≤ hi') : SSk lo' hi' vs lens cont w :=
  ⟨fun j hj => by obtain ⟨A, m, c, e1, e2, e3⟩ := h.row j hj; exact ⟨A, m, c, e1, e2, e3.mono h1 h2⟩, h.apart⟩
/-- A row of another kind was written to. -/
theorem SSk.grown {lo hi : Nat} {vs : List Value} {lens : Nat → Nat} {cont : Nat → List Value} {w w' : World} {row : Option Nat} (h : SSk lo hi vs lens cont w) (hg : w.grownBy w' row) (hr : ∀ (j : Nat) (v : Value), vs[j]? = some v → v.ownBlock = none ∨ v.ownBlock ≠ row) : SSk lo hi vs lens cont w' :=
  ⟨fun j hj => by obtain ⟨A, m, c, h1, h2, h3⟩ := h.row j hj; exact ⟨A, m, c, h1, h2, h3.1.kept hg (hr j _ h1), h3.2⟩, h.apart⟩
theorem SSk.ne {lo hi lo' : Nat} {vs : List Value} {lens : Nat → Nat} {cont : Nat → List Value} {w : World} {e : TypeId} {size n : Nat} {u : Value} {xs : List Value} (h : SSk lo hi vs lens cont w) (hu : w.ownsRow lo' e size u n xs) (he : (3 : TypeId) ≠ e) : ∀ (j : Nat) (v : Value), vs[j]? = some v → v.ownBlock = none ∨ v.ownBlock ≠ u.ownBlock := by
  intro j v hv
  have hj : j < vs.length := by
    rcases Nat.lt_or_ge j vs.length with h1 | h1
    · exact h1
    · rw [List.getElem?_eq_none h1] at hv; cases hv
  obtain ⟨A, m, c, h1, h2, h3⟩ := h.row j hj
  rw [h1] at hv
  cases hv
  exact blocks_ne h3.1 hu he
theorem SSk.lt {lo hi : Nat} {vs : List Value} {lens : Nat → Nat} {cont : Nat → List Value} {w : World} (h : SSk lo hi vs lens cont w) : ∀ (j : Nat) (v : Value) (k : Nat), vs[j]? = some v → v.ownBlock = some k → lo ≤ k ∧ k < hi := by
  intro j v k hv hk
  have hj : j < vs.length := by
    rcases Nat.lt_or_ge j vs.length with h1 | h1
    · exact h1
    · rw [List.getElem?_eq_none h1] at hv; cases hv
  obtain ⟨A, m, c, h1, h2, h3⟩ := h.row j hj
  rw [h1] at hv
  cases hv
  exact ⟨(h3.1.lt k hk).1, h3.2 k hk⟩
/-- One row more, or another one in its place: it lies in new blocks. -/
theorem SSk.put {lo hi hi' : Nat} {vs vs' : List Value} {lens lens' : Nat → Nat} {cont cont' : Nat → List Value} {w : World} {A : Option Addr} {m c : Nat} (h : SSk lo hi vs lens cont w) (k : Nat) (hk : vs'[k]? = some (.slice A m c)) (hl : ∀ j, j ≠ k → vs'[j]? = vs[j]?)
    (hlen : ∀ j, j < vs'.length → j ≠ k → j < vs.length) (hm : m = lens' k) (hc : ∀ j, j ≠ k → lens' j = lens j ∧ cont' j = cont j) (hr : OwR hi hi' 3 1 (.slice A m c) m (cont' k) w) (h1 : lo ≤ hi) (h2 : hi ≤ hi') : SSk lo hi' vs' lens' cont' w := by
  refine ⟨fun j hj => ?_, fun i j v u q hij hi' hj' hv hu => ?_⟩
  · by_cases e : j = k
    · subst e
      exact ⟨A, m, c, hk, hm, hr.mono h1 (Nat.le_refl _)⟩
    · obtain ⟨A', m', c', e1, e2, e3⟩ := h.row j (hlen j hj e)
      obtain ⟨e4, e5⟩ := hc j e
      exact ⟨A', m', c', by rw [hl j e]; exact e1, by rw [e4]; exact e2, by rw [e5]; exact e3.mono (Nat.le_refl _) h2⟩
  · by_cases e : i = k
    · subst e
      rw [hk] at hi'
      cases hi'
      have a1 := (hr.1.lt q hv).1
      rw [hl j (fun e => hij e.symm)] at hj'
      have a2 := (h.lt j u q hj' hu).2
      omega
    · by_cases e' : j = k
      · subst e'
        rw [hk] at hj'
        cases hj'
        have a1 := (hr.1.lt q hu).1
        rw [hl i e] at hi'
        have a2 := (h.lt i v q hi' hv).2
        omega
      · rw [hl i e] at hi'
        rw [hl j e'] at hj'
        exact h.apart i j v u q hij hi' hj' hv hu
def lenOf (xss : List (List Int)) (j : Nat) : Nat := (xss.getD j []).length
def rowOf (xss : List (List Int)) (j : Nat) : List Value := (xss.getD j []).map (Value.int .i64)
/-- Lists of numbers of the call's own. -/
def OwSS (lo hi : Nat) (v : Value) (n : Nat) (xss : List (List Int)) (w : World) : Prop :=
  n = xss.length ∧ ∃ vs, OwR lo hi 25 1 v n vs w ∧ SSk lo hi vs (lenOf xss) (rowOf xss) w
theorem OwSS.loc (lo hi : Nat) (v : Value) (n : Nat) (xss : List (List Int)) : Loc lo hi (OwSS lo hi v n xss) := by
  rintro w w' ⟨h0, vs, h1, h2⟩ hk
  exact ⟨h0, vs, h1.keep hk, h2.keep hk⟩
theorem OwSS.mono {lo hi lo' hi' n : Nat} {v : Value} {xss : List (List Int)} {w : World} (h : OwSS lo hi v n xss w) (h1 : lo' ≤ lo) (h2 : hi ≤ hi') : OwSS lo' hi' v n xss w := by
  obtain ⟨h0, vs, e1, e2⟩ := h
  exact ⟨h0, vs, e1.mono h1 h2, e2.mono h1 h2⟩
theorem OwSS.form {lo hi n : Nat} {v : Value} {xss : List (List Int)} {w : World} (h : OwSS lo hi v n xss w) : ∃ A c, v = .slice A n c := by
  obtain ⟨_, xs, h1, _⟩ := h
  exact own_form h1.1
theorem OwSS.lists {lo hi n c : Nat} {A : Option Addr} {xss : List (List Int)} {w : World} (h : OwSS lo hi (.slice A n c) n xss w) : SS w hi A xss := by
  obtain ⟨h0, vs, h1, h2⟩ := h
  intro hn
  rcases h1.1.2 with ⟨_, hz⟩ | ⟨g, cap, cur, hv, _⟩
  · omega
  · have hg := h1.2 g (by rw [hv]; rfl)
    simp only [Value.slice.injEq] at hv
    obtain ⟨rfl, _, rfl⟩ := hv
    have hvl : vs.length = n := by have := h1.1.1; omega
    refine ⟨g, 0, rfl, hg, fun j hj => ?_⟩
    obtain ⟨A', m, c', e1, e2, e3⟩ := h2.row j (by omega)
    refine ⟨A', m, c', ?_, e2, e3.ints⟩
    rw [Nat.zero_add, h1.1.cellAt _ (by omega)]; exact e1
theorem ints_ne_int : (3 : TypeId) ≠ 25 := by decide
theorem OwSS.nil (lo hi : Nat) (w : World) : OwSS lo hi (.slice none 0 0) 0 [] w := ⟨rfl, [], OwR.nil _ _ _ _ _, ⟨fun j hj => by simp at hj, fun i j v u k _ h => by simp at h⟩⟩
end Go.Proofs.YtlcpgbbpjnkihaaGreat

namespace Go.Proofs.YtlcpgbbpjnkihaaGreat
set_option linter.unusedSimpArgs false
set_option linter.unusedVariables false
open Go.RowKit
theorem OwSS.snoc {base k : Nat} {v v' : Value} {xss : List (List Int)} {D : List Int} {A : Option Addr} {m c : Nat} {wr w5 w6 : World} {vs : List Value} {o : Obj} (hrow : wr.ownsRow base 25 1 v k vs) (hss : SSk base wr.heap.size vs (lenOf xss) (rowOf xss) wr) (hk : k = xss.length) (hb : Below wr.heap.size wr w5)
    (hd : w5.ownsRow wr.heap.size 3 1 (.slice A m c) m (D.map (Value.int .i64))) (hm : m = D.length) (happ : w6.ownsRow base 25 1 v' (k + 1) (vs ++ [.slice A m c])) (hgrow : (w5.alloc o).grownBy w6 v.ownBlock) (hbs : base ≤ wr.heap.size) : OwSS base w6.heap.size v' (k + 1) (xss ++ [D]) w6 := by
  have hvl : vs.length = k := by have := hrow.1; omega
  have hrow5 := (own_below hrow hb).alloc o
  have hss5 : SSk base wr.heap.size vs (lenOf xss) (rowOf xss) (w5.alloc o) := (hss.keep fun q _ hq => hb.block q hq).keep fun q _ hq => Below.heap_alloc _ _ _ (Nat.lt_of_lt_of_le hq hb.size)
  have hss6 : SSk base wr.heap.size vs (lenOf xss) (rowOf xss) w6 := hss5.grown hgrow (hss5.ne hrow5 ints_ne_int)
  have hd6 : w6.ownsRow wr.heap.size 3 1 (.slice A m c) m (D.map (Value.int .i64)) := (hd.alloc o).kept hgrow (blocks_ne (hd.alloc o) hrow5 ints_ne_int)
  refine ⟨by rw [List.length_append, hk]; rfl, vs ++ [.slice A m c], OwR.start happ, ?_⟩
  refine hss6.put (hi' := w6.heap.size) (lens' := lenOf (xss ++ [D])) (cont' := rowOf (xss ++ [D])) (A := A) (m := m) (c := c) k ?_ ?_ ?_ ?_ ?_ ?_ hbs ?_
  · rw [List.getElem?_append_right (by omega), hvl, Nat.sub_self]; rfl
  · intro j hj
    rcases Nat.lt_or_ge j vs.length with h1 | h1
    · rw [List.getElem?_append_left h1]
    · rw [List.getElem?_eq_none h1, List.getElem?_eq_none (by simp; omega)]
  · intro j hj hjk; simp at hj; omega
  · rw [hm]; unfold lenOf; simp [List.getD, hk]
  · intro j hj
    have : (xss ++ [D]).getD j [] = xss.getD j [] := by
      rcases Nat.lt_or_ge j xss.length with h1 | h1
      · simp [List.getD, List.getElem?_append_left h1]
      · rw [List.getD, List.getElem?_eq_none (by simp; omega), List.getD, List.getElem?_eq_none h1]
    unfold lenOf rowOf
    rw [this]
    exact ⟨rfl, rfl⟩
  · refine ⟨?_, fun q hq => (hd6.lt q hq).2⟩
    have : rowOf (xss ++ [D]) k = D.map (Value.int .i64) := by unfold rowOf; simp [List.getD, hk]
    rw [this]; exact hd6
  · have h1 := hgrow.size; simp at h1; have := hb.size; omega
end Go.Proofs.YtlcpgbbpjnkihaaGreat

namespace Go.Proofs.YtlcpgbbpjnkihaaGreat
set_option linter.unusedSimpArgs false
set_option linter.unusedVariables false
open Go.RowKit
structure Eg where
  vs : List Int
  rs : List (List Int)
deriving DecidableEq, Inhabited
def rowsE (e : Eg) : List (List Int) := e.vs :: e.rs
/-- The slices at A and E read as the state e; all of it lies below block B. -/
def ES (w : World) (B : Nat) (A E : Option Addr) (e : Eg) : Prop := IS w B A e.vs ∧ SS w B E e.rs
section
variable {w w' : World} {B B' C : Nat} {A E : Option Addr} {e : Eg}
theorem ES.more (h : ES w B A E e) (hB : B ≤ B') : ES w B' A E e := ⟨h.1.more hB, h.2.more hB⟩
theorem ES.below (h : ES w B A E e) (hb : Below C w w') (hC : B ≤ C) : ES w' B A E e := ⟨h.1.below hb hC, h.2.below hb hC⟩
theorem ES.alloc (h : ES w B A E e) (hB : B ≤ w.heap.size) (o : Obj) : ES (w.alloc o) B A E e := ⟨h.1.alloc hB o, h.2.alloc hB o⟩
theorem ES.loc (B : Nat) (A E : Option Addr) (e : Eg) : Loc 0 B fun w => ES w B A E e := (IS.loc B A e.vs).and (SS.loc B E e.rs)
end
theorem SS.at_ {w : World} {B : Nat} {A : Option Addr} {xss : List (List Int)} (h : SS w B A xss) (j : Nat) (hj : j < xss.length) : ∃ b off, A = some ⟨b, off, none⟩ ∧ b < B ∧ ∃ A' n c, w.cell? ⟨b, off + j, none⟩ = some (.slice A' n c) ∧ n = (xss.getD j []).length ∧ IS w B A' (xss.getD j []) := by
  obtain ⟨b, off, e, hb, hc⟩ := h (by omega)
  exact ⟨b, off, e, hb, hc j hj⟩
end Go.Proofs.YtlcpgbbpjnkihaaGreat

namespace Go.Proofs.YtlcpgbbpjnkihaaGreat
set_option linter.unusedSimpArgs false
set_option linter.unusedVariables false
open Go.RowKit
theorem SSk.congr {lo hi : Nat} {vs : List Value} {lens : Nat → Nat} {cont cont' : Nat → List Value} {w : World} (h : SSk lo hi vs lens cont w) (hc : ∀ j, j < vs.length → cont j = cont' j) : SSk lo hi vs lens cont' w :=
  ⟨fun j hj => by obtain ⟨A, m, c, e1, e2, e3⟩ := h.row j hj; exact ⟨A, m, c, e1, e2, by rw [← hc j hj]; exact e3⟩, h.apart⟩
/-- A state of the call's own, in blocks lo to hi - 1. -/
def OwE (lo hi : Nat) (A : Option Addr) (n c : Nat) (E : Option Addr) (en ec : Nat) (st : Eg) (w : World) : Prop :=
  n = st.vs.length ∧ en = st.rs.length ∧ ∃ us, OwR lo hi 25 1 (.slice E en ec) en us w ∧ SSk lo hi (.slice A n c :: us) (lenOf (rowsE st)) (rowOf (rowsE st)) w
section
variable {lo hi lo' hi' n c en ec : Nat} {A E : Option Addr} {st : Eg} {k : Int} {w w' : World}
theorem OwE.loc (lo hi : Nat) (A : Option Addr) (n c : Nat) (E : Option Addr) (en ec : Nat) (st : Eg) : Loc lo hi (OwE lo hi A n c E en ec st) := by
  rintro w w' ⟨h0, h0', vs, h1, h2⟩ hk
  exact ⟨h0, h0', vs, h1.keep hk, h2.keep hk⟩
theorem OwE.mono (h : OwE lo hi A n c E en ec st w) (h1 : lo' ≤ lo) (h2 : hi ≤ hi') : OwE lo' hi' A n c E en ec st w := by
  obtain ⟨h0, h0', vs, e1, e2⟩ := h
  exact ⟨h0, h0', vs, e1.mono h1 h2, e2.mono h1 h2⟩
theorem SSk.tail {v : Value} {us : List Value} {x : List Int} {xs : List (List Int)} (h : SSk lo hi (v :: us) (lenOf (x :: xs)) (rowOf (x :: xs)) w) : SSk lo hi us (lenOf xs) (rowOf xs) w :=
  ⟨fun j hj => by obtain ⟨A, m, c, e1, e2, e3⟩ := h.row (j + 1) (by simpa using hj); exact ⟨A, m, c, e1, e2, e3⟩, fun i j v u k hij h1 h2 => h.apart (i + 1) (j + 1) v u k (by omega) h1 h2⟩
theorem OwE.row0 (h : OwE lo hi A n c E en ec st w) : OwR lo hi 3 1 (.slice A n c) n (st.vs.map (Value.int .i64)) w := by
  obtain ⟨h0, h0', us, e1, e2⟩ := h
  obtain ⟨A', m, c', r1, r2, r3⟩ := e2.row 0 (by simp)
  simp only [List.getElem?_cons_zero, Option.some.injEq, Value.slice.injEq] at r1
  obtain ⟨rfl, rfl, rfl⟩ := r1
  exact r3
theorem OwE.lists (h : OwE lo hi A n c E en ec st w) : OwSS lo hi (.slice E en ec) en st.rs w := by
  obtain ⟨h0, h0', us, e1, e2⟩ := h
  exact ⟨h0', us, e1, e2.tail⟩
theorem OwE.reads (h : OwE lo hi A n c E en ec st w) : ES w hi A E st := ⟨h.row0.ints, h.lists.lists⟩
/-- A row and lists in blocks that lie apart make a state. -/
theorem OwE.join {mid : Nat} (h : OwR lo mid 3 1 (.slice A n c) n (st.vs.map (Value.int .i64)) w) (hn : n = st.vs.length) (h' : OwSS mid hi (.slice E en ec) en st.rs w) (h1 : lo ≤ mid) (h2 : mid ≤ hi) : OwE lo hi A n c E en ec st w := by
  obtain ⟨h0, us, e1, e2⟩ := h'
  refine ⟨hn, h0, us, e1.mono h1 (Nat.le_refl _), ⟨fun j hj => ?_, fun i j v u k hij h3 h4 hv hu => ?_⟩⟩
  · cases j with
    | zero => exact ⟨A, n, c, rfl, hn, h.mono (Nat.le_refl _) h2⟩
    | succ j =>
      obtain ⟨A', m, c', r1, r2, r3⟩ := e2.row j (by simpa using hj)
      exact ⟨A', m, c', r1, r2, r3.mono h1 (Nat.le_refl _)⟩
  · cases i with
    | zero =>
      cases j with
      | zero => exact hij rfl
      | succ j =>
        simp only [List.getElem?_cons_zero, Option.some.injEq] at h3
        subst h3
        have a1 := h.2 k hv
        have a2 := (e2.lt j u k h4 hu).1
        omega
    | succ i =>
      cases j with
      | zero =>
        simp only [List.getElem?_cons_zero, Option.some.injEq] at h4
        subst h4
        have a1 := h.2 k hu
        have a2 := (e2.lt i v k h3 hv).1
        omega
      | succ j => exact e2.apart i j v u k (by omega) h3 h4 hv hu
end
theorem OwE.nil (lo hi : Nat) (w : World) (h : lo ≤ hi) : OwE lo hi none 0 0 none 0 0 ⟨[], []⟩ w := OwE.join (mid := hi) (OwR.nil _ _ _ _ _) rfl (OwSS.nil _ _ _) h (Nat.le_refl _)
theorem OwE.setCell {lo hi n c en ec : Nat} {A E : Option Addr} {st : Eg} {w : World} (h : OwE lo hi A n c E en ec st w) {a : Addr} (ha : a.block < lo) (u : Value) : OwE lo hi A n c E en ec st (w.setCell a u) :=
  OwE.loc _ _ _ _ _ _ _ _ _ _ _ h fun k hk _ => Below.heap_setCell _ _ _ _ (by omega)
end Go.Proofs.YtlcpgbbpjnkihaaGreat

namespace Go.Proofs.YtlcpgbbpjnkihaaGreat
set_option linter.unusedSimpArgs false
set_option linter.unusedVariables false
def Tm.size : Tm → Nat
  | .num _ => 1
  | .rd _ => 1
  | .pr _ l r => l.size + r.size + 1
  | .ch t a b => t.size + a.size + b.size + 1
/-- The part of a term, for the parts below it at some indices. -/
def Tm.own : Tm → List Int → Pt
  | .num v, _ => ⟨0, -1, -1, -1, v⟩
  | .rd v, _ => ⟨1, -1, -1, -1, v⟩
  | .pr K _ _, at_ => ⟨K, at_.getD 0 0, at_.getD 1 0, -1, 0⟩
  | .ch _ _ _, at_ => ⟨8, at_.getD 0 0, at_.getD 1 0, at_.getD 2 0, 0⟩
end Go.Proofs.YtlcpgbbpjnkihaaGreat

namespace Go.Proofs.YtlcpgbbpjnkihaaGreat
set_option linter.unusedSimpArgs false
set_option linter.unusedVariables false
open Go.RowKit
section
variable {lo hi : Nat} {w : World}
/-- One row more ahead. -/
theorem SSk.cons {us : List Value} {x : List Int} {xs : List (List Int)} {A : Option Addr} {n c : Nat} (h : SSk lo hi us (lenOf xs) (rowOf xs) w) (hr : OwR lo hi 3 1 (.slice A n c) n (x.map (Value.int .i64)) w) (hn : n = x.length) (hap : ∀ (j : Nat) (u : Value) (k : Nat), us[j]? = some u → (Value.slice A n c).ownBlock = some k → u.ownBlock ≠ some k) : SSk lo hi (.slice A n c :: us) (lenOf (x :: xs)) (rowOf (x :: xs)) w := by
  refine ⟨fun j hj => ?_, fun i j v u k hij h3 h4 hv hu => ?_⟩
  · cases j with
    | zero => exact ⟨A, n, c, rfl, hn, hr⟩
    | succ j => exact h.row j (by simpa using hj)
  · cases i with
    | zero =>
      cases j with
      | zero => exact hij rfl
      | succ j =>
        simp only [List.getElem?_cons_zero, Option.some.injEq] at h3
        subst h3
        exact hap j u k h4 hv hu
    | succ i =>
      cases j with
      | zero =>
        simp only [List.getElem?_cons_zero, Option.some.injEq] at h4
        subst h4
        exact hap i v k h3 hu hv
      | succ j => exact h.apart i j v u k (by omega) h3 h4 hv hu
/-- One row more behind. -/
theorem SSk.snoc {us : List Value} {x : List Int} {xs : List (List Int)} {A : Option Addr} {n c : Nat} (h : SSk lo hi us (lenOf xs) (rowOf xs) w) (hl : us.length = xs.length) (hr : OwR lo hi 3 1 (.slice A n c) n (x.map (Value.int .i64)) w) (hn : n = x.length) (hap : ∀ (j : Nat) (u : Value) (k : Nat), us[j]? = some u → (Value.slice A n c).ownBlock = some k → u.ownBlock ≠ some k) : SSk lo hi (us ++ [.slice A n c]) (lenOf (xs ++ [x])) (rowOf (xs ++ [x])) w := by
  have hin : ∀ j, j < us.length → (us ++ [Value.slice A n c])[j]? = us[j]? ∧ (xs ++ [x]).getD j [] = xs.getD j [] := fun j hj => ⟨List.getElem?_append_left hj, by simp only [List.getD, List.getElem?_append_left (show j < xs.length by omega)]⟩
  have hlast : (us ++ [Value.slice A n c])[us.length]? = some (.slice A n c) ∧ (xs ++ [x]).getD us.length [] = x := ⟨by simp, by rw [hl]; simp [List.getD]⟩
  have hout : ∀ j v, (us ++ [Value.slice A n c])[j]? = some v → j < us.length ∨ (j = us.length ∧ v = .slice A n c) := by
    intro j v hv
    rcases Nat.lt_trichotomy j us.length with h1 | h1 | h1
    · exact .inl h1
    · subst h1; rw [hlast.1] at hv; cases hv; exact .inr ⟨rfl, rfl⟩
    · rw [List.getElem?_eq_none (by simp; omega)] at hv; cases hv
  refine ⟨fun j hj => ?_, fun i j v u k hij h3 h4 hv hu => ?_⟩
  · by_cases h1 : j < us.length
    · obtain ⟨A', m, c', r1, r2, r3⟩ := h.row j h1
      refine ⟨A', m, c', (hin j h1).1.trans r1, ?_, ?_⟩
      · rw [r2]; unfold lenOf; rw [(hin j h1).2]
      · have : rowOf (xs ++ [x]) j = rowOf xs j := by unfold rowOf; rw [(hin j h1).2]
        rw [this]; exact r3
    · obtain rfl : j = us.length := by simp at hj; omega
      refine ⟨A, n, c, hlast.1, ?_, ?_⟩
      · unfold lenOf; rw [hlast.2]; exact hn
      · have : rowOf (xs ++ [x]) us.length = x.map (Value.int .i64) := by unfold rowOf; rw [hlast.2]
        rw [this]; exact hr
  · rcases hout i v h3 with h1 | ⟨h1, rfl⟩
    · rcases hout j u h4 with h2 | ⟨h2, rfl⟩
      · exact h.apart i j v u k hij ((hin i h1).1.symm.trans h3) ((hin j h2).1.symm.trans h4) hv hu
      · exact hap i v k ((hin i h1).1.symm.trans h3) hu hv
    · rcases hout j u h4 with h2 | ⟨h2, rfl⟩
      · exact hap j u k ((hin j h2).1.symm.trans h4) hv hu
      · omega
/-- A state out of a row and lists that lie apart. -/
theorem OwE.of_apart {A E : Option Addr} {n c en ec : Nat} {st : Eg} {us : List Value} (hr : OwR lo hi 3 1 (.slice A n c) n (st.vs.map (Value.int .i64)) w) (hn : n = st.vs.length) (hen : en = st.rs.length) (h1 : OwR lo hi 25 1 (.slice E en ec) en us w) (h2 : SSk lo hi us (lenOf st.rs) (rowOf st.rs) w) (hap : ∀ (j : Nat) (u : Value) (k : Nat), us[j]? = some u → (Value.slice A n c).ownBlock = some k → u.ownBlock ≠ some k) : OwE lo hi A n c E en ec st w :=
  ⟨hn, hen, us, h1, h2.cons hr hn hap⟩
end
/-- The slices at A, E and C read as the state e; all of it lies below block B. -/
def LS3 (w : World) (B : Nat) (A E C : Option Addr) (e : Lz) : Prop := IS w B A e.vs ∧ (SS w B E e.rs ∧ IS w B C e.cs)
section
variable {w w' : World} {B B' D : Nat} {A E C : Option Addr} {e : Lz}
theorem LS3.more (h : LS3 w B A E C e) (hB : B ≤ B') : LS3 w B' A E C e := ⟨h.1.more hB, h.2.1.more hB, h.2.2.more hB⟩
theorem LS3.below (h : LS3 w B A E C e) (hb : Below D w w') (hC : B ≤ D) : LS3 w' B A E C e := ⟨h.1.below hb hC, h.2.1.below hb hC, h.2.2.below hb hC⟩
theorem LS3.alloc (h : LS3 w B A E C e) (hB : B ≤ w.heap.size) (o : Obj) : LS3 (w.alloc o) B A E C e := ⟨h.1.alloc hB o, h.2.1.alloc hB o, h.2.2.alloc hB o⟩
theorem LS3.keep (h : LS3 w B A E C e) (hk : ∀ p : Addr, p.block < B → w'.cell? p = w.cell? p) : LS3 w' B A E C e := ⟨h.1.keep hk, h.2.1.keep hk, h.2.2.keep hk⟩
theorem LS3.setCell (h : LS3 w B A E C e) {b j : Nat} (hb : B ≤ b) (u : Value) : LS3 (w.setCell ⟨b, j, none⟩ u) B A E C e := h.keep fun p hp => World.cell?_setCell_other _ _ _ _ (by intro e; rw [← e] at hp; exact absurd hp (by show ¬ b < B; omega))
theorem LS3.loc (B : Nat) (A E C : Option Addr) (e : Lz) : Loc 0 B fun w => LS3 w B A E C e := (IS.loc B A e.vs).and ((SS.loc B E e.rs).and (IS.loc B C e.cs))
end
/-- A state of the call's own, in blocks lo to hi - 1. -/
def OwL (lo hi : Nat) (A : Option Addr) (n c : Nat) (E : Option Addr) (en ec : Nat) (C : Option Addr) (m d : Nat) (st : Lz) (w : World) : Prop :=
  n = st.vs.length ∧ en = st.rs.length ∧ m = st.cs.length ∧ ∃ us, OwR lo hi 25 1 (.slice E en ec) en us w ∧ SSk lo hi (.slice A n c :: (us ++ [.slice C m d])) (lenOf (rowsL st)) (rowOf (rowsL st)) w
section
variable {lo hi lo' hi' n c en ec m d : Nat} {A E C : Option Addr} {st : Lz} {k : Int} {w w' : World}
theorem OwL.loc (lo hi : Nat) (A : Option Addr) (n c : Nat) (E : Option Addr) (en ec : Nat) (C : Option Addr) (m d : Nat) (st : Lz) : Loc lo hi (OwL lo hi A n c E en ec C m d st) := by
  rintro w w' ⟨h0, h0', h0'', vs, h1, h2⟩ hk
  exact ⟨h0, h0', h0'', vs, h1.keep hk, h2.keep hk⟩
theorem OwL.mono (h : OwL lo hi A n c E en ec C m d st w) (h1 : lo' ≤ lo) (h2 : hi ≤ hi') : OwL lo' hi' A n c E en ec C m d st w := by
  obtain ⟨h0, h0', h0'', vs, e1, e2⟩ := h
  exact ⟨h0, h0', h0'', vs, e1.mono h1 h2, e2.mono h1 h2⟩
theorem OwL.row0 (h : OwL lo hi A n c E en ec C m d st w) : OwR lo hi 3 1 (.slice A n c) n (st.vs.map (Value.int .i64)) w := by
  obtain ⟨h0, h0', h0'', us, e1, e2⟩ := h
  obtain ⟨A', m', c', r1, r2, r3⟩ := e2.row 0 (by simp)
  simp only [List.getElem?_cons_zero, Option.some.injEq, Value.slice.injEq] at r1
  obtain ⟨rfl, rfl, rfl⟩ := r1
  exact r3
theorem rowsL_mid (st : Lz) (j : Nat) (h : j < st.rs.length) : (rowsL st).getD (j + 1) [] = st.rs.getD j [] := by
  unfold rowsL
  simp [List.getD, List.getElem?_append_left h]
theorem rowsL_last (st : Lz) : (rowsL st).getD (st.rs.length + 1) [] = st.cs := by
  unfold rowsL
  simp [List.getD]
theorem OwL.rowC (h : OwL lo hi A n c E en ec C m d st w) : OwR lo hi 3 1 (.slice C m d) m (st.cs.map (Value.int .i64)) w := by
  obtain ⟨h0, h0', h0'', us, e1, e2⟩ := h
  have hul : us.length = en := by have := e1.1.1; omega
  obtain ⟨A', m', c', r1, r2, r3⟩ := e2.row (st.rs.length + 1) (by simp; omega)
  rw [List.getElem?_cons_succ, ← h0', ← hul] at r1
  simp only [List.getElem?_concat_length, Option.some.injEq, Value.slice.injEq] at r1
  obtain ⟨rfl, rfl, rfl⟩ := r1
  have : rowOf (rowsL st) (st.rs.length + 1) = st.cs.map (Value.int .i64) := by unfold rowOf; rw [rowsL_last]
  rw [this] at r3
  exact r3
theorem OwL.lists (h : OwL lo hi A n c E en ec C m d st w) : OwSS lo hi (.slice E en ec) en st.rs w := by
  obtain ⟨h0, h0', h0'', us, e1, e2⟩ := h
  have hul : us.length = en := by have := e1.1.1; omega
  refine ⟨h0', us, e1, ⟨fun j hj => ?_, fun i j v u k hij h1 h2 => ?_⟩⟩
  · obtain ⟨A', m', c', r1, r2, r3⟩ := e2.row (j + 1) (by simp; omega)
    rw [List.getElem?_cons_succ, List.getElem?_append_left hj] at r1
    have hm := rowsL_mid st j (by omega)
    refine ⟨A', m', c', r1, by rw [r2]; unfold lenOf; rw [hm], ?_⟩
    have : rowOf (rowsL st) (j + 1) = rowOf st.rs j := by unfold rowOf; rw [hm]
    rw [← this]; exact r3
  · have l1 : i < us.length := by
      rcases Nat.lt_or_ge i us.length with h3 | h3
      · exact h3
      · rw [List.getElem?_eq_none h3] at h1; cases h1
    have l2 : j < us.length := by
      rcases Nat.lt_or_ge j us.length with h3 | h3
      · exact h3
      · rw [List.getElem?_eq_none h3] at h2; cases h2
    exact e2.apart (i + 1) (j + 1) v u k (by omega) (by rw [List.getElem?_cons_succ, List.getElem?_append_left l1]; exact h1) (by rw [List.getElem?_cons_succ, List.getElem?_append_left l2]; exact h2)
theorem OwL.reads (h : OwL lo hi A n c E en ec C m d st w) : LS3 w hi A E C st := ⟨h.row0.ints, h.lists.lists, h.rowC.ints⟩
/-- Three parts that lie apart make a state. -/
theorem OwL.of_apart {us : List Value} (h1 : OwR lo hi 3 1 (.slice A n c) n (st.vs.map (Value.int .i64)) w) (hn : n = st.vs.length) (hen : en = st.rs.length) (h2 : OwR lo hi 25 1 (.slice E en ec) en us w) (h3 : SSk lo hi us (lenOf st.rs) (rowOf st.rs) w) (h4 : OwR lo hi 3 1 (.slice C m d) m (st.cs.map (Value.int .i64)) w) (hm : m = st.cs.length)
    (a1 : ∀ (j : Nat) (u : Value) (k : Nat), us[j]? = some u → (Value.slice A n c).ownBlock = some k → u.ownBlock ≠ some k) (a2 : ∀ (j : Nat) (u : Value) (k : Nat), us[j]? = some u → (Value.slice C m d).ownBlock = some k → u.ownBlock ≠ some k) (a3 : ∀ k, (Value.slice A n c).ownBlock = some k → (Value.slice C m d).ownBlock ≠ some k) : OwL lo hi A n c E en ec C m d st w := by
  have hul : us.length = st.rs.length := by have := h2.1.1; omega
  refine ⟨hn, hen, hm, us, h2, (h3.snoc hul h4 hm a2).cons h1 hn fun j u k hu hk => ?_⟩
  rcases Nat.lt_trichotomy j us.length with h5 | h5 | h5
  · rw [List.getElem?_append_left h5] at hu
    exact a1 j u k hu hk
  · subst h5
    simp only [List.getElem?_concat_length, Option.some.injEq] at hu
    subst hu
    exact a3 k hk
  · rw [List.getElem?_eq_none (by simp; omega)] at hu; cases hu
/-- .. made one after the other. -/
theorem OwL.join {mid mid2 : Nat} (h : OwR lo mid 3 1 (.slice A n c) n (st.vs.map (Value.int .i64)) w) (hn : n = st.vs.length) (h' : OwSS mid mid2 (.slice E en ec) en st.rs w) (h'' : OwR mid2 hi 3 1 (.slice C m d) m (st.cs.map (Value.int .i64)) w) (hm : m = st.cs.length) (h1 : lo ≤ mid) (h2 : mid ≤ mid2) (h3 : mid2 ≤ hi) : OwL lo hi A n c E en ec C m d st w := by
  obtain ⟨h0, us, e1, e2⟩ := h'
  refine OwL.of_apart (h.mono (Nat.le_refl _) (by omega)) hn h0 (e1.mono h1 h3) (e2.mono h1 h3) (h''.mono (by omega) (Nat.le_refl _)) hm (fun j u k hu hk hk' => ?_) (fun j u k hu hk hk' => ?_) (fun k hk hk' => ?_)
  · have b1 := (e2.lt j u k hu hk').1
    have b2 := h.2 k hk
    omega
  · have b1 := (e2.lt j u k hu hk').2
    have b2 := (h''.1.lt k hk).1
    omega
  · have b1 := (h''.1.lt k hk').1
    have b2 := h.2 k hk
    omega
theorem OwL.setCell (h : OwL lo hi A n c E en ec C m d st w) {a : Addr} (ha : a.block < lo) (u : Value) : OwL lo hi A n c E en ec C m d st (w.setCell a u) :=
  OwL.loc _ _ _ _ _ _ _ _ _ _ _ _ _ _ h fun k hk _ => Below.heap_setCell _ _ _ _ (by omega)
end
theorem OwL.nil (lo hi : Nat) (w : World) (h : lo ≤ hi) : OwL lo hi none 0 0 none 0 0 none 0 0 ⟨[], [], []⟩ w := OwL.join (mid := hi) (mid2 := hi) (OwR.nil _ _ _ _ _) rfl (OwSS.nil _ _ _) (OwR.nil _ _ _ _ _) rfl h (Nat.le_refl _) (Nat.le_refl _)
end Go.Proofs.YtlcpgbbpjnkihaaGreat

namespace Go.Proofs.YtlcpgbbpjnkihaaGreat
set_option linter.unusedSimpArgs false
set_option linter.unusedVariables false
open Go.RowKit
/-- One number of one list was written. -/
theorem SSk.put1 {lo hi J g m cap j : Nat} {vs : List Value} {lens : Nat → Nat} {cont cont' : Nat → List Value} {w : World} {x : Value} (h : SSk lo hi vs lens cont w) (hJ : vs[J]? = some (.slice (some ⟨g, 0, none⟩) m cap)) (hc : cont' J = (cont J).set j x) (ho : ∀ i, i ≠ J → cont' i = cont i) : SSk lo hi vs lens cont' (w.setCell ⟨g, j, none⟩ x) := by
  refine ⟨fun i hi => ?_, h.apart⟩
  obtain ⟨A, m', c, e1, e2, e3⟩ := h.row i hi
  by_cases e : i = J
  · subst e
    rw [hJ] at e1
    cases e1
    refine ⟨_, _, _, hJ, e2, ?_⟩
    rw [hc]
    exact ⟨(e3.1.stored j x).1, e3.2⟩
  · refine ⟨A, m', c, e1, e2, ?_⟩
    rw [ho i e]
    obtain ⟨A2, m2, c2, k1, k2, k3⟩ := h.row J (by
      rcases Nat.lt_or_ge J vs.length with h1 | h1
      · exact h1
      · rw [List.getElem?_eq_none h1] at hJ; cases hJ)
    rw [hJ] at k1
    cases k1
    refine ⟨e3.1.kept (k3.1.stored j x).2 ?_, e3.2⟩
    cases hb : (Value.slice A m' c).ownBlock with
    | none => exact .inl rfl
    | some q => exact .inr fun hx => h.apart i J _ _ q e e1 hJ hb hx.symm
end Go.Proofs.YtlcpgbbpjnkihaaGreat

namespace Go.Proofs.YtlcpgbbpjnkihaaGreat
set_option linter.unusedSimpArgs false
set_option linter.unusedVariables false
open Go.RowKit
structure Hi where
  ss : List (List Int)
  ix : Int
deriving DecidableEq, Inhabited
def hsz (e : Hi) : Nat := e.ss.length + (e.ss.map List.length).sum
theorem OwSS.setCell {lo hi n : Nat} {v : Value} {xss : List (List Int)} {w : World} (h : OwSS lo hi v n xss w) {a : Addr} (ha : a.block < lo) (u : Value) : OwSS lo hi v n xss (w.setCell a u) :=
  OwSS.loc _ _ _ _ _ _ _ h fun k hk _ => Below.heap_setCell _ _ _ _ (by omega)
end Go.Proofs.YtlcpgbbpjnkihaaGreat

namespace Go.Proofs.YtlcpgbbpjnkihaaGreat
set_option linter.unusedSimpArgs false
set_option linter.unusedVariables false
open Go.RowKit
/-- Values, what changed, what ran, and the reads, in rows of one's own from block B on; the row of the reads lies at gr. -/
structure WF (B : Nat) (Er : Option Addr) (cr n : Nat) (U : List Value) (vs ch rn : List Int) (rs : List (List Int)) (w : World) : Prop where
  ul : U.length = n + 3
  rl : n = rs.length
  fam : SSk B w.heap.size U (lenOf (vs :: ch :: rn :: rs)) (rowOf (vs :: ch :: rn :: rs)) w
  top : w.ownsRow B 25 1 (.slice Er n cr) n (U.drop 3)
section
variable {B gr cr n : Nat} {Er : Option Addr} {U : List Value} {vs ch rn : List Int} {rs : List (List Int)} {w w' : World}
theorem WF.step (h : WF B Er cr n U vs ch rn rs w) (hb : Below w.heap.size w w') : WF B Er cr n U vs ch rn rs w' :=
  ⟨h.ul, h.rl, (h.fam.keep fun k _ hk => hb.block k hk).mono (Nat.le_refl _) hb.size, own_below h.top hb⟩
theorem WF.at_ (h : WF B Er cr n U vs ch rn rs w) (j : Nat) (hj : j < n + 3) : ∃ A m c, U[j]? = some (.slice A m c) ∧ m = lenOf (vs :: ch :: rn :: rs) j ∧ w.ownsRow B 3 1 (.slice A m c) m (rowOf (vs :: ch :: rn :: rs) j) := by
  obtain ⟨A, m, c, e1, e2, e3⟩ := h.fam.row j (by rw [h.ul]; exact hj)
  exact ⟨A, m, c, e1, e2, e3.1⟩
theorem WF.cell (h : WF B (some ⟨gr, 0, none⟩) cr n U vs ch rn rs w) (j : Nat) (hj : j < n) : w.cell? ⟨gr, j, none⟩ = U[j + 3]? ∧ w.frozen? ⟨gr, j, none⟩ = false := by
  have h1 := h.top.cellAt j (by omega)
  rw [List.getElem?_drop] at h1
  rw [show 3 + j = j + 3 by omega] at h1
  exact ⟨h1, h.top.frozenAt j⟩
theorem ints_of_own {base m c : Nat} {A : Option Addr} {xs : List Int} (hm : m = xs.length) (h : w.ownsRow base 3 1 (.slice A m c) m (xs.map (Value.int .i64))) : IS w w.heap.size A xs := by
  subst hm
  have h' : OwnI w base (.slice A xs.length c) xs := h
  obtain ⟨A', c', e, hI⟩ := h'.form
  simp only [Value.slice.injEq] at e
  obtain ⟨rfl, _⟩ := e
  exact hI
/-- The list that node j reads. -/
theorem WF.reads (h : WF B (some ⟨gr, 0, none⟩) cr n U vs ch rn rs w) (j : Nat) (hj : j < n) : ∃ A m c, w.cell? ⟨gr, j, none⟩ = some (.slice A m c) ∧ m = (rs.getD j []).length ∧ IS w w.heap.size A (rs.getD j []) := by
  obtain ⟨A, m, c, e1, e2, e3⟩ := h.at_ (j + 3) (by omega)
  have hl : m = (rs.getD j []).length := by rw [e2]; simp [lenOf]
  exact ⟨A, m, c, (h.cell j hj).1.trans e1, hl, ints_of_own hl (by simpa [rowOf] using e3)⟩
end
end Go.Proofs.YtlcpgbbpjnkihaaGreat

namespace Go.Proofs.YtlcpgbbpjnkihaaGreat
set_option linter.unusedSimpArgs false
set_option linter.unusedVariables false
open Go.RowKit
/-- Block b holds the cells vs, and may be written to. -/
structure Bx (b : Nat) (vs : List Value) (w : World) : Prop where
  lt : b < w.heap.size
  c : ∀ j v, vs[j]? = some v → w.cell? ⟨b, j, none⟩ = some v
  f : ∀ j, w.frozen? ⟨b, j, none⟩ = false
section
variable {b C g j : Nat} {vs : List Value} {w w' : World}
theorem Bx.below (h : Bx b vs w) (hb : Below C w w') (hC : b < C) : Bx b vs w' :=
  ⟨Nat.lt_of_lt_of_le h.lt hb.size, fun j v hv => (hb.cell (p := ⟨b, j, none⟩) hC).trans (h.c j v hv), fun j => (hb.frozen (p := ⟨b, j, none⟩) hC).trans (h.f j)⟩
theorem Bx.step (h : Bx b vs w) (hb : Below w.heap.size w w') : Bx b vs w' := h.below hb h.lt
theorem Bx.alloc (h : Bx b vs w) (o : Obj) : Bx b vs (w.alloc o) := h.step ((Below.refl _ _).alloc (Nat.le_refl _) o)
theorem Bx.other (h : Bx b vs w) (a : Addr) (ha : b ≠ a.block) (u : Value) : Bx b vs (w.setCell a u) :=
  ⟨by simpa [World.setCell] using h.lt, fun j v hv => (World.cell?_setCell_other _ _ _ _ (by intro e; apply ha; rw [e])).trans (h.c j v hv), fun j => (World.frozen?_setCell _ _ _ _).trans (h.f j)⟩
theorem Bx.set (h : Bx b vs w) (j : Nat) (hj : j < vs.length) (u : Value) : Bx b (vs.set j u) (w.setCell ⟨b, j, none⟩ u) := by
  refine ⟨by simpa [World.setCell] using h.lt, fun i v hv => ?_, fun i => (World.frozen?_setCell _ _ _ _).trans (h.f i)⟩
  by_cases e : j = i
  · subst e
    rw [List.getElem?_set_self hj] at hv
    cases hv
    exact World.cell?_setCell_same _ _ _ (h.c j _ (List.getElem?_eq_getElem hj))
  · rw [List.getElem?_set_ne e] at hv
    exact (World.cell?_setCell_other _ _ _ _ (by simp; try omega)).trans (h.c i v hv)
end
theorem Bx.start (w : World) (a : Array Value) (t : TypeId) : Bx w.heap.size a.toList (w.alloc (.cells a t)) := by
  refine ⟨by simp, fun j v hv => ?_, fun j => by go_simp⟩
  rw [World.cell?_alloc_at a t _ j rfl]
  simpa using hv
end Go.Proofs.YtlcpgbbpjnkihaaGreat

namespace Go.Proofs.YtlcpgbbpjnkihaaGreat
set_option linter.unusedSimpArgs false
set_option linter.unusedVariables false
open Go.RowKit
section
variable {B n c cr : Nat} {A Er : Option Addr} {U : List Value} {vs ch rn : List Int} {rs : List (List Int)} {st : Eg} {w w' : World}
/-- A state of one's own is a family in which nothing changed or ran. -/
theorem WF.of_own (h : OwE B w.heap.size A n c Er n cr st w) : ∃ U, WF B Er cr n U st.vs [] [] st.rs w ∧ U[0]? = some (.slice A n c) ∧ U[1]? = some (.slice none 0 0) ∧ U[2]? = some (.slice none 0 0) := by
  obtain ⟨h0, h1, us, e1, e2⟩ := h
  have hul : us.length = n := by have := e1.1.1; omega
  refine ⟨.slice A n c :: .slice none 0 0 :: .slice none 0 0 :: us, ⟨by simp [hul], h1, ⟨fun j hj => ?_, fun i j v u k hij hi hj hv hu => ?_⟩, by simpa using e1.1⟩, rfl, rfl, rfl⟩
  · match j, hj with
    | 0, _ =>
      obtain ⟨A', m, c', r1, r2, r3⟩ := e2.row 0 (by simp)
      exact ⟨A', m, c', by simpa using r1, by simpa [lenOf, rowsE] using r2, by simpa [rowOf, rowsE] using r3⟩
    | 1, _ => exact ⟨none, 0, 0, rfl, by simp [lenOf], by simpa [rowOf] using OwR.nil _ _ _ _ _⟩
    | 2, _ => exact ⟨none, 0, 0, rfl, by simp [lenOf], by simpa [rowOf] using OwR.nil _ _ _ _ _⟩
    | j + 3, hj =>
      obtain ⟨A', m, c', r1, r2, r3⟩ := e2.row (j + 1) (by simp at hj ⊢; omega)
      exact ⟨A', m, c', by simpa using r1, by simpa [lenOf, rowsE] using r2, by simpa [rowOf, rowsE] using r3⟩
  · match i, j, hij, hi, hj with
    | 0, 0, hij, _, _ => exact hij rfl
    | 0, 1, _, _, hj => simp at hj; subst hj; simp [Value.ownBlock] at hu
    | 0, 2, _, _, hj => simp at hj; subst hj; simp [Value.ownBlock] at hu
    | 0, j + 3, _, hi, hj => exact e2.apart 0 (j + 1) v u k (by omega) (by simpa using hi) (by simpa using hj) hv hu
    | 1, _, _, hi, _ => simp at hi; subst hi; simp [Value.ownBlock] at hv
    | 2, _, _, hi, _ => simp at hi; subst hi; simp [Value.ownBlock] at hv
    | i + 3, 0, _, hi, hj => exact e2.apart (i + 1) 0 v u k (by omega) (by simpa using hi) (by simpa using hj) hv hu
    | i + 3, 1, _, _, hj => simp at hj; subst hj; simp [Value.ownBlock] at hu
    | i + 3, 2, _, _, hj => simp at hj; subst hj; simp [Value.ownBlock] at hu
    | i + 3, j + 3, hij, hi, hj => exact e2.apart (i + 1) (j + 1) v u k (by omega) (by simpa using hi) (by simpa using hj) hv hu
/-- The state in a family. -/
theorem WF.own (h : WF B Er cr n U vs ch rn rs w) (h0 : U[0]? = some (.slice A n c)) : OwE B w.heap.size A n c Er n cr ⟨vs, rs⟩ w := by
  obtain ⟨A', m, c', e1, e2, e3⟩ := h.at_ 0 (by omega)
  rw [h0] at e1
  cases e1
  refine ⟨by simpa [lenOf] using e2, h.rl, U.drop 3, ⟨h.top, fun q hq => (h.top.lt q hq).2⟩, ⟨fun j hj => ?_, fun i j v u k hij hi hj hv hu => ?_⟩⟩
  · cases j with
    | zero => exact ⟨_, _, _, rfl, by simpa [lenOf, rowsE] using e2, ⟨by simpa [rowOf, rowsE] using e3, fun q hq => (e3.lt q hq).2⟩⟩
    | succ j =>
      have hul := h.ul
      simp at hj
      obtain ⟨A2, m2, c2, r1, r2, r3⟩ := h.fam.row (j + 3) (by omega)
      refine ⟨A2, m2, c2, ?_, by simpa [lenOf, rowsE] using r2, by simpa [rowOf, rowsE] using r3⟩
      rw [List.getElem?_cons_succ, List.getElem?_drop, show 3 + j = j + 3 by omega]
      exact r1
  · cases i with
    | zero =>
      cases j with
      | zero => exact hij rfl
      | succ j =>
        rw [List.getElem?_cons_succ, List.getElem?_drop, show 3 + j = j + 3 by omega] at hj
        exact h.fam.apart 0 (j + 3) v u k (by omega) (by rw [h0]; simpa using hi) hj hv hu
    | succ i =>
      rw [List.getElem?_cons_succ, List.getElem?_drop, show 3 + i = i + 3 by omega] at hi
      cases j with
      | zero => exact h.fam.apart (i + 3) 0 v u k (by omega) hi (by rw [h0]; simpa using hj) hv hu
      | succ j =>
        rw [List.getElem?_cons_succ, List.getElem?_drop, show 3 + j = j + 3 by omega] at hj
        exact h.fam.apart (i + 3) (j + 3) v u k (by omega) hi hj hv hu
end
theorem Bx.keepB {b : Nat} {vs : List Value} {w w' : World} (h : Bx b vs w) (e : w'.heap[b]? = w.heap[b]?) (hs : w.heap.size ≤ w'.heap.size) : Bx b vs w' :=
  ⟨Nat.lt_of_lt_of_le h.lt hs, fun j v hv => (World.cell?_of_block (w := w) (a := ⟨b, j, none⟩) e).trans (h.c j v hv), fun j => (World.frozen?_of_block (w := w) (a := ⟨b, j, none⟩) e).trans (h.f j)⟩
end Go.Proofs.YtlcpgbbpjnkihaaGreat
