/- Words and contracts for memory that the texts behind use. -/
import Derived.Test.YtjhpknnhgbdkiaaP0a
import Derived.Test.YtjhpknnhgbdkiaaP1a
import Derived.Test.YtjhpknnhgbdkiaaP2a
import Derived.Test.YtjhpknnhgbdkiaaP3a
import Derived.Test.YtjhpknnhgbdkiaaP4a
import Derived.Test.YtjhpknnhgbdkiaaP5a
import Derived.Test.YtjhpknnhgbdkiaaP6a
import Derived.Test.YtjhpknnhgbdkiaaP7a
import Derived.Test.YtjhpknnhgbdkiaaP8a
import Derived.Test.YtjhpknnhgbdkiaaP9a
import Derived.WalkKit
import Derived.Laws.OwnMore
import Derived.Deep.Draws
import Derived.Test.YtjhpknnhgbdkiaaProg
import Derived.WalkSpells
import Derived.WalkLawsBesides
import Derived.Outline
import Derived.Lib.Hide
import Derived.BigQuiet
import Derived.Deep.QuietTactic
import Derived.StillTailTactics
import Derived.Deep.LoopGhost
import Derived.Laws.MakeOwn
import Derived.WalkSmall
import Derived.RegionTactic
import Derived.BigRegion
import Derived.Deep.RegionWith
import Derived.Deep.RegionHeld3
import Derived.Maps.AppendAt
import Derived.Laws.CopyOwn
import Derived.Deep.Cut
import Derived.Laws.Entries
import Derived.Laws.Bits64
import Derived.IntWalk
import Derived.Deep.RegionLaw
import Derived.Deep.AppendLies
import Derived.Deep.DeepCutAuto
import Derived.ArgAppend
import Derived.Test.YtjhpknnhgbdkiaaRows
import Derived.ProofKit
import Derived.OpenShut
import Derived.ShutString
import Derived.ChangeOld
import Derived.Below
import Derived.Deep.Slices
import Derived.Deep.Fields

namespace Go.Proofs.Ytjhpknnhgbdkiaa
set_option linter.unusedSimpArgs false
set_option linter.unusedVariables false
open Go.RowKit
/-- The slice at A reads as the parts ps; it lies below block B. -/
def PS (w : World) (B : Nat) (A : Option Addr) (ps : List Pt) : Prop :=
  0 < ps.length → ∃ b off, A = some ⟨b, off, none⟩ ∧ b < B ∧ ∀ j, j < ps.length →
    w.cell? ⟨b, off + j * 5, none⟩ = some (.int .i64 (ps.getD j default).k) ∧ w.cell? ⟨b, off + j * 5 + 1, none⟩ = some (.int .i64 (ps.getD j default).a) ∧
    w.cell? ⟨b, off + j * 5 + 2, none⟩ = some (.int .i64 (ps.getD j default).b) ∧ w.cell? ⟨b, off + j * 5 + 3, none⟩ = some (.int .i64 (ps.getD j default).c) ∧
    w.cell? ⟨b, off + j * 5 + 4, none⟩ = some (.int .i64 (ps.getD j default).n)
theorem PS.keep {w w' : World} {B : Nat} {A : Option Addr} {ps : List Pt} (h : PS w B A ps) (hk : ∀ p : Addr, p.block < B → w'.cell? p = w.cell? p) : PS w' B A ps := by
  intro hn
  obtain ⟨b, off, e, hb, hc⟩ := h hn
  refine ⟨b, off, e, hb, fun j hj => ?_⟩
  obtain ⟨h0, h1, h2, h3, h4⟩ := hc j hj
  exact ⟨(hk _ hb).trans h0, (hk _ hb).trans h1, (hk _ hb).trans h2, (hk _ hb).trans h3, (hk _ hb).trans h4⟩
theorem PS.more {w : World} {B B' : Nat} {A : Option Addr} {ps : List Pt} (h : PS w B A ps) (hB : B ≤ B') : PS w B' A ps := by
  intro hn
  obtain ⟨b, off, e, hb, hc⟩ := h hn
  exact ⟨b, off, e, by omega, hc⟩
theorem PS.below {w w' : World} {B C : Nat} {A : Option Addr} {ps : List Pt} (h : PS w B A ps) (hb : Below C w w') (hC : B ≤ C) : PS w' B A ps :=
  h.keep fun _ hp => hb.cell (Nat.lt_of_lt_of_le hp hC)
theorem PS.alloc {w : World} {B : Nat} {A : Option Addr} {ps : List Pt} (h : PS w B A ps) (hB : B ≤ w.heap.size) (o : Obj) : PS (w.alloc o) B A ps :=
  h.keep fun p hp => World.cell?_alloc_lt w o p (by omega)
theorem PS.nil (w : World) (B : Nat) (A : Option Addr) : PS w B A [] := fun h => absurd h (by simp)
theorem length_cells (ps : List Pt) : (ps.flatMap Pt.cells).length = ps.length * 5 := by
  induction ps with
  | nil => rfl
  | cons p l ih => simp [List.flatMap_cons, ih, Pt.cells]; omega
theorem cells_get (ps : List Pt) (j : Nat) (h : j < ps.length) : (ps.flatMap Pt.cells)[j * 5]? = some (.int .i64 (ps.getD j default).k) ∧ (ps.flatMap Pt.cells)[j * 5 + 1]? = some (.int .i64 (ps.getD j default).a) ∧
    (ps.flatMap Pt.cells)[j * 5 + 2]? = some (.int .i64 (ps.getD j default).b) ∧ (ps.flatMap Pt.cells)[j * 5 + 3]? = some (.int .i64 (ps.getD j default).c) ∧ (ps.flatMap Pt.cells)[j * 5 + 4]? = some (.int .i64 (ps.getD j default).n) := by
  induction ps generalizing j with
  | nil => simp at h
  | cons p l ih =>
    have e : (p :: l).flatMap Pt.cells = p.cells ++ l.flatMap Pt.cells := by simp [List.flatMap_cons]
    rw [e]
    match j with
    | 0 => simp [Pt.cells]
    | j + 1 =>
      have hj : j < l.length := by simpa using h
      have hc : p.cells.length = 5 := rfl
      obtain ⟨a0, a1, a2, a3, a4⟩ := ih j hj
      have s (d : Nat) : (p.cells ++ l.flatMap Pt.cells)[(j + 1) * 5 + d]? = (l.flatMap Pt.cells)[j * 5 + d]? := by
        rw [List.getElem?_append_right (by omega), hc]; congr 1; omega
      have s0 := s 0
      simp only [Nat.add_zero] at s0
      rw [s0, s 1, s 2, s 3, s 4]
      simpa using ⟨a0, a1, a2, a3, a4⟩
theorem PS.of_own {w : World} {base e n c : Nat} {A : Option Addr} {ps : List Pt} (h : w.ownsRow base e 5 (.slice A n c) n (ps.flatMap Pt.cells)) : PS w w.heap.size A ps := by
  intro hn
  have hl : ps.length = n := by have := h.1; rw [length_cells] at this; omega
  rcases h.2 with ⟨_, h0⟩ | ⟨g, cap, cur, hv, _, hh, _⟩
  · omega
  · simp only [Value.slice.injEq] at hv
    obtain ⟨rfl, _, rfl⟩ := hv
    have hg : g < w.heap.size := by
      rcases Nat.lt_or_ge g w.heap.size with hlt | hge
      · exact hlt
      · rw [Array.getElem?_eq_none hge] at hh; cases hh
    refine ⟨g, 0, rfl, hg, fun j hj => ?_⟩
    obtain ⟨a0, a1, a2, a3, a4⟩ := cells_get ps j hj
    simp only [Nat.zero_add]
    rw [h.cellAt _ (by omega), h.cellAt _ (by omega), h.cellAt _ (by omega), h.cellAt _ (by omega), h.cellAt _ (by omega)]
    exact ⟨a0, a1, a2, a3, a4⟩
end Go.Proofs.Ytjhpknnhgbdkiaa

namespace Go.Proofs.Ytjhpknnhgbdkiaa
set_option linter.unusedSimpArgs false
set_option linter.unusedVariables false
open Go.RowKit
/-- How many parts a kind has below. -/
def ar (k : Int) : Int := if k = 0 ∨ k = 1 then 0 else if 2 ≤ k ∧ k ≤ 7 then 2 else if k = 8 then 3 else -1
end Go.Proofs.Ytjhpknnhgbdkiaa

namespace Go.Proofs.Ytjhpknnhgbdkiaa
set_option linter.unusedSimpArgs false
set_option linter.unusedVariables false
open Go.RowKit
def bel (p : Pt) : List Int := if ar p.k = 2 then [p.a, p.b] else if ar p.k = 3 then [p.a, p.b, p.c] else []
end Go.Proofs.Ytjhpknnhgbdkiaa

namespace Go.Proofs.Ytjhpknnhgbdkiaa
set_option linter.unusedSimpArgs false
set_option linter.unusedVariables false
open Go.RowKit
theorem PS.step {A : Option Addr} {ps : List Pt} {wk wl : World} (h : PS wk wk.heap.size A ps) (hb : Below wk.heap.size wk wl) : PS wl wl.heap.size A ps := (h.below hb (Nat.le_refl _)).more hb.size
end Go.Proofs.Ytjhpknnhgbdkiaa

namespace Go.Proofs.Ytjhpknnhgbdkiaa
set_option linter.unusedSimpArgs false
set_option linter.unusedVariables false
open Go.RowKit
section
variable {lo hi : Nat} {n c : Nat} {A : Option Addr} {ps : List Pt} {xs : List Int} {w : World}
end
end Go.Proofs.Ytjhpknnhgbdkiaa

namespace Go.Proofs.Ytjhpknnhgbdkiaa
set_option linter.unusedSimpArgs false
set_option linter.unusedVariables false
open Go.ChangeShapes Go.WideShapes Go.ChangeAt Go.RowKit Go.Deep
theorem own : ownKnob Try.prog.godebug = none := by kernel_rfl
theorem laidOut : laidOutB Try.prog = true := by kernel_rfl
theorem add_of (b off n : Nat) : (⟨b, off, none⟩ : Addr).add n = ⟨b, off + n, none⟩ := by
  unfold Addr.add
  by_cases h : n = 0 <;> simp [h]
end Go.Proofs.Ytjhpknnhgbdkiaa

namespace Go.Proofs.Ytjhpknnhgbdkiaa
set_option linter.unusedSimpArgs false
set_option linter.unusedVariables false
open Go.ChangeShapes Go.WideShapes Go.ChangeAt Go.RowKit
theorem cells_u8 : Try.prog.cellsOf 5 = 1 := by kernel_rfl
section
variable {H : Type} {enc : TypeId × Value → H} {w : World} {base : Nat} {spare : Nat → Bool} {held : Bool}
set_option maxRecDepth 100000 in
theorem open_code {r : Reach} {b0 : Nat} {v : Value} {d : DataW H} {p : List MemPlace} (hv : Value.okWide Try.prog w r b0 22 v) (h : DataW.Trod enc Try.prog w base spare held 22 v d p) :
    ∃ (A : Option Addr) (n c : Nat) (bs : List Int), v = .slice A n c ∧ n = bs.length ∧ n ≤ c ∧ n ≤ 9223372036854775807 ∧ BY bs ∧ BS w w.heap.size A bs := by
  obtain ⟨a0, len0, cap0, rfl⟩ := okWide_slice Try.underlying22 hv
  obtain ⟨fuel, hf⟩ := h
  rcases open_ints Try.underlying22 Try.underlying5 cells_u8 hf with ⟨hcs, _⟩ | ⟨x, l, c, zs, hcs, _, hl, hm, hz, _, hcell, hwz⟩
  · simp [Value.cells] at hcs
    obtain ⟨rfl, rfl, rfl⟩ := hcs
    exact ⟨none, 0, 0, [], rfl, rfl, Nat.le_refl _, by omega, fun j => by simp [List.getD], fun h => absurd h (by simp)⟩
  · simp [Value.cells] at hcs
    obtain ⟨rfl, rfl, rfl⟩ := hcs
    have hzl : len0 ≤ zs.length := by rw [hz]; split <;> omega
    have hby : BY (zs.take len0) := by
      intro j
      have hall : ∀ y ∈ zs, 0 ≤ y ∧ y ≤ 255 := by
        intro y hy
        have := hwz y hy
        have this : (decide (IntKind.u8.min ≤ y) && decide (y ≤ IntKind.u8.max)) = true := this
        have e1 : IntKind.u8.min = 0 := by decide
        have e2 : IntKind.u8.max = 255 := by decide
        rw [e1, e2] at this
        simpa using this
      rcases hg : (zs.take len0)[j]? with _ | y
      · simp [List.getD, hg]
      · have hm2 : y ∈ zs := List.mem_of_mem_take (List.mem_of_getElem? hg)
        simpa [List.getD, hg] using hall y hm2
    refine ⟨some x, len0, cap0, zs.take len0, rfl, by simp; omega, hl, by unfold maxLen at hm; omega, hby, fun hn => ?_⟩
    have hlen : (zs.take len0).length = len0 := by simp; omega
    have h0 := hcell 0 (by omega)
    obtain ⟨b, off, spot⟩ := x
    have hspot : spot = none := by
      have h1 : w.cell? ⟨b, off, spot⟩ = some (.int .u8 (zs.getD 0 0)) := by simpa [Addr.add] using h0
      exact World.cell?_spot h1
    subst hspot
    have hblk : b < w.heap.size := by
      have h1 : w.cell? ⟨b, off, none⟩ = some (.int .u8 (zs.getD 0 0)) := by simpa [Addr.add] using h0
      exact World.block_lt_of_cell? w _ h1
    refine ⟨b, off, rfl, hblk, fun j hj => ?_⟩
    have g := hcell j (by omega)
    rw [add_of] at g
    rw [g]
    congr 2
    simp only [List.getD, List.getElem?_take, if_pos (show j < len0 by omega)]
end
end Go.Proofs.Ytjhpknnhgbdkiaa
