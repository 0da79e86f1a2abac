/- Words and contracts for memory that the texts behind use. -/
import Derived.Test.YtkfglodjnnlbkaaT0a
import Derived.Test.YtkfglodjnnlbkaaT1a
import Derived.Test.YtkfglodjnnlbkaaT2b
import Derived.Test.YtkfglodjnnlbkaaT3a
import Derived.Test.YtkfglodjnnlbkaaT4a
import Derived.Test.YtkfglodjnnlbkaaT5a
import Derived.Test.YtkfglodjnnlbkaaT6a
import Derived.Test.YtkfglodjnnlbkaaT7a
import Derived.Test.YtkfglodjnnlbkaaT8a
import Derived.Test.YtkfglodjnnlbkaaT9a
import Derived.Test.YtkfglodjnnlbkaaT10a
import Derived.Test.YtkfglodjnnlbkaaT11a
import Derived.Test.YtkfglodjnnlbkaaT13a
import Derived.Test.YtkfglodjnnlbkaaT14a
import Derived.Test.YtkfglodjnnlbkaaT15a
import Derived.Test.YtkfglodjnnlbkaaT16a
import Derived.Test.YtkfglodjnnlbkaaT17a
import Derived.WalkKit
import Derived.Laws.OwnMore
import Derived.Deep.Draws
import Derived.Test.YtkfglodjnnlbkaaProg
import Derived.WalkSpells
import Derived.WalkLawsBesides
import Derived.Outline
import Derived.Lib.Hide
import Derived.BigQuiet
import Derived.Deep.QuietTactic
import Derived.StillTailTactics
import Derived.Deep.LoopGhost
import Derived.Laws.MakeOwn
import Derived.WalkSmall
import Derived.RegionTactic
import Derived.BigRegion
import Derived.Deep.RegionWith
import Derived.Deep.RegionHeld3
import Derived.Maps.AppendAt
import Derived.Laws.CopyOwn
import Derived.Maps.Own
import Derived.Maps.Views
import Derived.Deep.Cut
import Derived.Laws.Entries
import Derived.Laws.Bits64
import Derived.IntWalk
import Derived.Deep.RegionLaw
import Derived.Deep.AppendLies
import Derived.Deep.DeepCutAuto
import Derived.ArgAppend
import Derived.RangeFuncNested
import Derived.RangeFuncBound
import Derived.RangeFuncCalls
import Derived.RangeFuncLeaves
import Derived.RangeFuncBox
import Derived.Shelf.Abstract
import Derived.Shelf.RegionOpen
import Derived.OwnWalkIn
import Derived.TacticsInMore
import Derived.LoopNIn
import Derived.LoopIn
import Derived.Sort.QuietIn
import Derived.Sort.QuietTacIn
import Derived.RegionIn
import Derived.Sort.CutIn
import Derived.Test.YtkfglodjnnlbkaaRows
import Derived.ProofKit
import Derived.OpenShut
import Derived.ShutString
import Derived.ChangeOld
import Derived.Below
import Derived.Deep.Slices
import Derived.Deep.Fields

namespace Go.Proofs.Ytkfglodjnnlbkaa
set_option linter.unusedSimpArgs false
set_option linter.unusedVariables false
/-- The parts of a term in order, from index k on. -/
def Tm.post : Tm → Nat → List Pt
  | .num v, _ => [⟨0, -1, -1, -1, v⟩]
  | .rd v, _ => [⟨1, -1, -1, -1, v⟩]
  | .pr K l r, k => l.post k ++ r.post (k + l.size) ++ [⟨K, ((k + l.size : Nat) : Int) - 1, ((k + l.size + r.size : Nat) : Int) - 1, -1, 0⟩]
  | .ch t a b, k => t.post k ++ a.post (k + t.size) ++ b.post (k + t.size + a.size) ++ [⟨8, ((k + t.size : Nat) : Int) - 1, ((k + t.size + a.size : Nat) : Int) - 1, ((k + t.size + a.size + b.size : Nat) : Int) - 1, 0⟩]
end Go.Proofs.Ytkfglodjnnlbkaa

namespace Go.Proofs.Ytkfglodjnnlbkaa
set_option linter.unusedSimpArgs false
set_option linter.unusedVariables false
open Go.ChangeShapes Go.WideShapes Go.ChangeAt Go.RowKit Go.Deep
theorem own : ownKnob Try.prog.godebug = none := by kernel_rfl
theorem laidOut : laidOutB Try.prog = true := by kernel_rfl
theorem cells_int : Try.prog.cellsOf 3 = 1 := by kernel_rfl
theorem add_of (b off n : Nat) : (⟨b, off, none⟩ : Addr).add n = ⟨b, off + n, none⟩ := by
  unfold Addr.add
  by_cases h : n = 0 <;> simp [h]
theorem add_add' (a : Addr) (i j : Nat) : (a.add i).add j = a.add (i + j) := by
  unfold Addr.add
  by_cases hi : i = 0 <;> by_cases hj : j = 0 <;> simp [hi, hj, Nat.add_assoc]
end Go.Proofs.Ytkfglodjnnlbkaa

namespace Go.Proofs.Ytkfglodjnnlbkaa
set_option linter.unusedSimpArgs false
set_option linter.unusedVariables false
open Go.ChangeShapes Go.WideShapes Go.ChangeAt Go.RowKit Go.Deep
theorem choose_list {α : Type} [Inhabited α] (P : Nat → α → Prop) (len : Nat) (hp : ∀ i, i < len → ∃ a, P i a) : ∃ l : List α, l.length = len ∧ ∀ i, i < len → P i (l.getD i default) := by
  induction len with
  | zero => exact ⟨[], rfl, fun i hi => by omega⟩
  | succ k ih =>
    obtain ⟨l, hl, hP⟩ := ih (fun i hi => hp i (by omega))
    obtain ⟨a, ha⟩ := hp k (by omega)
    refine ⟨l ++ [a], by simp [hl], fun i hi => ?_⟩
    rcases Nat.lt_or_ge i k with h1 | h1
    · have := hP i h1
      simpa [List.getD, List.getElem?_append, hl, h1] using this
    · obtain rfl : i = k := by omega
      simpa [List.getD, List.getElem?_append, hl] using ha
end Go.Proofs.Ytkfglodjnnlbkaa

namespace Go.Proofs.Ytkfglodjnnlbkaa
set_option linter.unusedSimpArgs false
set_option linter.unusedVariables false
open Go.ChangeShapes Go.WideShapes Go.ChangeAt Go.RowKit Go.Deep
theorem cells_intS : Try.prog.cellsOf 26 = 1 := by kernel_rfl
section
variable {H : Type} {enc : TypeId × Value → H} {w : World} {base : Nat} {spare : Nat → Bool} {held : Bool}
set_option maxRecDepth 100000 in
theorem open_intS {fuel : Nat} {cs : List Value} {x : DataW H × List MemPlace} (h : DataW.trod enc Try.prog w base spare held fuel 26 cs = some x) :
    ∃ (A : Option Addr) (n c : Nat) (xs : List Int), cs = [.slice A n c] ∧ n = xs.length ∧ n ≤ 9223372036854775807 ∧ IS w w.heap.size A xs := by
  rcases open_ints Try.underlying26 Try.underlying3 cells_int h with ⟨hcs, _⟩ | ⟨x, len0, cap0, zs, hcs, _, hl, hm, hz, _, hcell, _⟩
  · exact ⟨none, 0, 0, [], hcs, rfl, by omega, IS.nil _ _ _⟩
  · have hzl : len0 ≤ zs.length := by rw [hz]; split <;> omega
    refine ⟨some x, len0, cap0, zs.take len0, hcs, by simp; omega, by unfold maxLen at hm; omega, fun hn => ?_⟩
    have hlen : (zs.take len0).length = len0 := by simp; omega
    have h0 := hcell 0 (by omega)
    obtain ⟨b, off, spot⟩ := x
    have hspot : spot = none := by
      have h1 : w.cell? ⟨b, off, spot⟩ = some (.int .i64 (zs.getD 0 0)) := by simpa [Addr.add] using h0
      exact World.cell?_spot h1
    subst hspot
    have hblk : b < w.heap.size := by
      have h1 : w.cell? ⟨b, off, none⟩ = some (.int .i64 (zs.getD 0 0)) := by simpa [Addr.add] using h0
      exact World.block_lt_of_cell? w _ h1
    refine ⟨b, off, rfl, hblk, fun j hj => ?_⟩
    have g := hcell j (by omega)
    rw [add_of] at g
    rw [g]
    congr 2
    simp only [List.getD, List.getElem?_take, if_pos (show j < len0 by omega)]
end
end Go.Proofs.Ytkfglodjnnlbkaa

namespace Go.Proofs.Ytkfglodjnnlbkaa
set_option linter.unusedSimpArgs false
set_option linter.unusedVariables false
open Go.ChangeShapes Go.WideShapes Go.ChangeAt Go.RowKit Go.Deep
theorem cells_lawOwner : Try.prog.cellsOf 70 = 4 := by kernel_rfl
theorem cells_bool : Try.prog.cellsOf 4 = 1 := by kernel_rfl
section
variable {H : Type} {enc : TypeId × Value → H} {w : World} {base : Nat} {spare : Nat → Bool} {held : Bool}
set_option maxRecDepth 100000 in
theorem owner_cells {fuel : Nat} {cs : List Value} {x : DataW H × List MemPlace} (h : DataW.trod enc Try.prog w base spare held fuel 70 cs = some x) :
    ∃ (d : On) (A : Option Addr) (n c : Nat) (A' : Option Addr) (n' c' : Nat), cs = [.int .i64 d.p, .bool d.o, .slice A n c, .slice A' n' c'] ∧ n = d.cl.length ∧ n ≤ 9223372036854775807 ∧ IS w w.heap.size A d.cl ∧ n' = d.cx.length ∧ n' ≤ 9223372036854775807 ∧ IS w w.heap.size A' d.cx := by
  obtain ⟨xs, n, _, _, hl, hxl, hf⟩ := DataW.trod_struct Try.underlying70 h
  rw [cells_lawOwner] at hl
  match cs, hl with
  | [c0, c1, c2, c3], _ =>
    have hxl' : xs.length = 4 := hxl
    have h0 : DataW.trod enc Try.prog w base spare held n 3 (List.take (Try.prog.cellsOf 3) [c0, c1, c2, c3]) = xs[0]? := hf 0 _ rfl
    have h1 : DataW.trod enc Try.prog w base spare held n 4 (List.take (Try.prog.cellsOf 4) [c1, c2, c3]) = xs[1]? := hf 1 _ rfl
    have h2 : DataW.trod enc Try.prog w base spare held n 26 (List.take (Try.prog.cellsOf 26) [c2, c3]) = xs[2]? := hf 2 _ rfl
    have h3 : DataW.trod enc Try.prog w base spare held n 26 (List.take (Try.prog.cellsOf 26) [c3]) = xs[3]? := hf 3 _ rfl
    rw [cells_int, List.getElem?_eq_getElem (by omega)] at h0
    rw [cells_bool, List.getElem?_eq_getElem (by omega)] at h1
    rw [cells_intS, List.getElem?_eq_getElem (by omega)] at h2 h3
    obtain ⟨p, e, _⟩ := DataW.trod_int Try.underlying3 h0
    have e0 : c0 = .int .i64 p := by simpa using e
    obtain ⟨o, e, _⟩ := DataW.trod_bool Try.underlying4 h1
    have e1 : c1 = .bool o := by simpa using e
    obtain ⟨A, m, c, ys, e, g1, g2, g3⟩ := open_intS h2
    have e2 : c2 = .slice A m c := by simpa using e
    obtain ⟨A', m', c', zs, e, k1, k2, k3⟩ := open_intS h3
    have e3 : c3 = .slice A' m' c' := by simpa using e
    exact ⟨⟨p, o, ys, zs⟩, A, m, c, A', m', c', by rw [e0, e1, e2, e3], g1, g2, g3, k1, k2, k3⟩
set_option maxRecDepth 100000 in
theorem open_owners0 {fuel : Nat} {cs : List Value} {x : DataW H × List MemPlace} (h : DataW.trod enc Try.prog w base spare held fuel 43 cs = some x) :
    ∃ (A : Option Addr) (n c : Nat) (ds : List On), cs = [.slice A n c] ∧ n = ds.length ∧ n ≤ 9223372036854775807 ∧ (∀ j, (ds.getD j default).cl.length ≤ 9223372036854775807 ∧ (ds.getD j default).cx.length ≤ 9223372036854775807) ∧ OS w w.heap.size A ds := by
  rcases open_slice Try.underlying43 h with ⟨rfl, _⟩ | ⟨a, len, cap, m, n, D, Pl, rfl, hb, hl, hm, hmm, _, hi⟩
  · exact ⟨none, 0, 0, [], rfl, rfl, by omega, fun j => ⟨Nat.zero_le _, Nat.zero_le _⟩, OS.nil _ _ _⟩
  · have hlm : len ≤ m := by rw [hmm]; split <;> omega
    have hp : ∀ i, i < len → ∃ d : On, w.cell? (a.add (i * 4)) = some (.int .i64 d.p) ∧ w.cell? (a.add (i * 4 + 1)) = some (.bool d.o) ∧ (∃ A n c, w.cell? (a.add (i * 4 + 2)) = some (.slice A n c) ∧ n = d.cl.length ∧ n ≤ 9223372036854775807 ∧ IS w w.heap.size A d.cl) ∧ ∃ A n c, w.cell? (a.add (i * 4 + 3)) = some (.slice A n c) ∧ n = d.cx.length ∧ n ≤ 9223372036854775807 ∧ IS w w.heap.size A d.cx := by
      intro i hlt
      obtain ⟨cs', hc, ht⟩ := hi i (by omega)
      obtain ⟨d, A, n, c, A', n', c', rfl, h1, h2, h3, h4, h5, h6⟩ := owner_cells ht
      rw [cells_lawOwner] at hc
      obtain ⟨_, _, hat⟩ := World.cells?_some hc
      have a0 := hat 0 (by simp)
      have a1 := hat 1 (by simp)
      have a2 := hat 2 (by simp)
      have a3 := hat 3 (by simp)
      rw [add_add'] at a0 a1 a2 a3
      exact ⟨d, a0, a1, ⟨A, n, c, a2, h1, h2, h3⟩, A', n', c', a3, h4, h5, h6⟩
    obtain ⟨ds, hlen, hds⟩ := choose_list _ len hp
    refine ⟨some a, len, cap, ds, rfl, hlen.symm, by unfold maxLen at hm; omega, fun j => ?_, fun hn => ?_⟩
    · by_cases hj : j < len
      · obtain ⟨_, _, ⟨A, n, c, _, h1, h2, _⟩, A', n', c', _, h3, h4, _⟩ := hds j hj
        omega
      · rw [show ds.getD j default = default by simp [List.getD, List.getElem?_eq_none (show ds.length ≤ j by omega)]]
        exact ⟨Nat.zero_le _, Nat.zero_le _⟩
    · obtain ⟨h0, _⟩ := hds 0 (by omega)
      obtain ⟨b, off, spot⟩ := a
      have h1 : w.cell? ⟨b, off, spot⟩ = some (.int .i64 (ds.getD 0 default).p) := by simpa [Addr.add] using h0
      have hspot : spot = none := World.cell?_spot h1
      subst hspot
      refine ⟨b, off, rfl, World.block_lt_of_cell? w _ h1, fun j hj => ?_⟩
      obtain ⟨g0, g1, ⟨A, n, c, g2, g3, _, g4⟩, A', n', c', g5, g6, _, g7⟩ := hds j (by omega)
      rw [add_of] at g0 g1 g2 g5
      exact ⟨g0, g1, ⟨A, n, c, g2, g3, g4⟩, A', n', c', g5, g6, g7⟩
set_option maxRecDepth 100000 in
theorem open_owners {r : Reach} {b0 : Nat} {v : Value} {d : DataW H} {p : List MemPlace} (hv : Value.okWide Try.prog w r b0 43 v) (h : DataW.Trod enc Try.prog w base spare held 43 v d p) :
    ∃ (A : Option Addr) (n c : Nat) (ds : List On), v = .slice A n c ∧ n = ds.length ∧ n ≤ 9223372036854775807 ∧ (∀ j, (ds.getD j default).cl.length ≤ 9223372036854775807 ∧ (ds.getD j default).cx.length ≤ 9223372036854775807) ∧ OS w w.heap.size A ds := by
  obtain ⟨a0, len0, cap0, rfl⟩ := okWide_slice Try.underlying43 hv
  obtain ⟨fuel, hf⟩ := h
  obtain ⟨A, n, c, ps, hcs, h1, h2, h3, h4⟩ := open_owners0 hf
  have e : Value.slice a0 len0 cap0 = .slice A n c := by simpa [Value.cells] using hcs
  exact ⟨A, n, c, ps, e, h1, h2, h3, h4⟩
end
end Go.Proofs.Ytkfglodjnnlbkaa
