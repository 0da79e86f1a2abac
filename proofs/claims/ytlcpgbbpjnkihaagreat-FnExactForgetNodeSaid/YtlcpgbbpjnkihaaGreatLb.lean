/- Words and contracts for memory that the texts behind use. -/
import Derived.Test.YtlcpgbbpjnkihaaGreatL0
import Derived.Test.YtlcpgbbpjnkihaaGreatL1
import Derived.Test.YtlcpgbbpjnkihaaGreatL2
import Derived.Test.YtlcpgbbpjnkihaaGreatL3
import Derived.Test.YtlcpgbbpjnkihaaGreatL4
import Derived.Test.YtlcpgbbpjnkihaaGreatL5
import Derived.Test.YtlcpgbbpjnkihaaGreatL6
import Derived.Test.YtlcpgbbpjnkihaaGreatL7
import Derived.Test.YtlcpgbbpjnkihaaGreatL8
import Derived.Test.YtlcpgbbpjnkihaaGreatL9
import Derived.Test.YtlcpgbbpjnkihaaGreatLa
import Derived.WalkKit
import Derived.Laws.OwnMore
import Derived.Deep.Draws
import Derived.Test.YtlcpgbbpjnkihaaGreatProg
import Derived.WalkSpells
import Derived.WalkLawsBesides
import Derived.Outline
import Derived.Lib.Hide
import Derived.BigQuiet
import Derived.Deep.QuietTactic
import Derived.StillTailTactics
import Derived.Deep.LoopGhost
import Derived.Laws.MakeOwn
import Derived.WalkSmall
import Derived.RegionTactic
import Derived.BigRegion
import Derived.Deep.RegionWith
import Derived.Deep.RegionHeld3
import Derived.Maps.AppendAt
import Derived.Laws.CopyOwn
import Derived.Deep.Cut
import Derived.Deep.AppendLies
import Derived.Laws.Entries
import Derived.Laws.Bits64
import Derived.IntWalk
import Derived.Deep.RegionLaw
import Derived.Deep.DeepCutAuto
import Derived.Maps.Own
import Derived.Maps.Views
import Derived.ChangeAlike
import Derived.Test.YtlcpgbbpjnkihaaGreatRows
import Derived.ProofKit
import Derived.OpenShut
import Derived.ShutString
import Derived.ChangeOld
import Derived.Below
import Derived.Deep.Slices
import Derived.Deep.Fields

namespace Go.Proofs.YtlcpgbbpjnkihaaGreat
set_option linter.unusedSimpArgs false
set_option linter.unusedVariables false
/-- The parts of a term in order, from index k on. -/
def Tm.post : Tm → Nat → List Pt
  | .num v, _ => [⟨0, -1, -1, -1, v⟩]
  | .rd v, _ => [⟨1, -1, -1, -1, v⟩]
  | .pr K l r, k => l.post k ++ r.post (k + l.size) ++ [⟨K, ((k + l.size : Nat) : Int) - 1, ((k + l.size + r.size : Nat) : Int) - 1, -1, 0⟩]
  | .ch t a b, k => t.post k ++ a.post (k + t.size) ++ b.post (k + t.size + a.size) ++ [⟨8, ((k + t.size : Nat) : Int) - 1, ((k + t.size + a.size : Nat) : Int) - 1, ((k + t.size + a.size + b.size : Nat) : Int) - 1, 0⟩]
end Go.Proofs.YtlcpgbbpjnkihaaGreat

namespace Go.Proofs.YtlcpgbbpjnkihaaGreat
set_option linter.unusedSimpArgs false
set_option linter.unusedVariables false
open Go.ChangeShapes Go.WideShapes Go.ChangeAt Go.RowKit Go.Deep
theorem own : ownKnob Tryz.prog.godebug = none := by kernel_rfl
theorem laidOut : laidOutB Tryz.prog = true := by kernel_rfl
theorem cells_lawPart : Tryz.prog.cellsOf 140 = 5 := by kernel_rfl
theorem cells_int : Tryz.prog.cellsOf 3 = 1 := by kernel_rfl
theorem cells_lawFormula : Tryz.prog.cellsOf 91 = 1 := by kernel_rfl
theorem cells_lawParts : Tryz.prog.cellsOf 89 = 1 := by kernel_rfl
theorem add_of (b off n : Nat) : (⟨b, off, none⟩ : Addr).add n = ⟨b, off + n, none⟩ := by
  unfold Addr.add
  by_cases h : n = 0 <;> simp [h]
theorem add_add' (a : Addr) (i j : Nat) : (a.add i).add j = a.add (i + j) := by
  unfold Addr.add
  by_cases hi : i = 0 <;> by_cases hj : j = 0 <;> simp [hi, hj, Nat.add_assoc]
theorem one_of_list (cs : List Value) (h : cs.length = 1) : ∃ c, cs = [c] := by
  match cs, h with
  | [c], _ => exact ⟨c, rfl⟩
theorem choose_parts (f : Nat → Nat → Option Value) (len : Nat) (hp : ∀ i, i < len → ∃ p : Pt, ∀ j, j < 5 → f i j = p.cells[j]?) :
    ∃ ps : List Pt, ps.length = len ∧ ∀ i, i < len → ∀ j, j < 5 → f i j = (ps.getD i default).cells[j]? := by
  induction len with
  | zero => exact ⟨[], rfl, fun i hi => by omega⟩
  | succ k ih =>
    obtain ⟨ps, hl, hps⟩ := ih (fun i hi => hp i (by omega))
    obtain ⟨p, hpp⟩ := hp k (by omega)
    refine ⟨ps ++ [p], by simp [hl], fun i hi j hj => ?_⟩
    rcases Nat.lt_or_ge i k with h1 | h1
    · rw [hps i h1 j hj]; simp [List.getD, List.getElem?_append, hl, h1]
    · obtain rfl : i = k := by omega
      rw [hpp j hj]; simp [List.getD, List.getElem?_append, hl]
section
variable {H : Type} {enc : TypeId × Value → H} {w : World} {base : Nat} {spare : Nat → Bool} {held : Bool}
set_option maxRecDepth 100000 in
theorem part_cells {fuel : Nat} {cs : List Value} {x : DataW H × List MemPlace} (h : DataW.trod enc Tryz.prog w base spare held fuel 140 cs = some x) :
    ∃ p : Pt, cs = p.cells := by
  obtain ⟨xs, n, _, _, hl, hxl, hf⟩ := DataW.trod_struct Tryz.underlying140 h
  rw [cells_lawPart] at hl
  match cs, hl with
  | [c0, c1, c2, c3, c4], _ =>
    have key (c : Value) (m : Nat) (i : Nat) (hi : i < xs.length) (h1 : DataW.trod enc Tryz.prog w base spare held m 3 (List.take (Tryz.prog.cellsOf 3) (c :: ([c0, c1, c2, c3, c4] : List Value).drop (i + 1))) = xs[i]?) : ∃ k : Int, c = .int .i64 k := by
      rw [cells_int, List.getElem?_eq_getElem hi] at h1
      obtain ⟨k, e, _⟩ := DataW.trod_int Tryz.underlying3 h1
      exact ⟨k, by simpa using e⟩
    have hxl' : xs.length = 5 := hxl
    obtain ⟨k0, rfl⟩ := key c0 n 0 (by omega) (hf 0 _ rfl)
    obtain ⟨k1, rfl⟩ := key c1 n 1 (by omega) (hf 1 _ rfl)
    obtain ⟨k2, rfl⟩ := key c2 n 2 (by omega) (hf 2 _ rfl)
    obtain ⟨k3, rfl⟩ := key c3 n 3 (by omega) (hf 3 _ rfl)
    obtain ⟨k4, rfl⟩ := key c4 n 4 (by omega) (hf 4 _ rfl)
    exact ⟨⟨k0, k1, k2, k3, k4⟩, rfl⟩
set_option maxRecDepth 100000 in
theorem open_parts {fuel : Nat} {cs : List Value} {x : DataW H × List MemPlace} (h : DataW.trod enc Tryz.prog w base spare held fuel 89 cs = some x) :
    ∃ (A : Option Addr) (n c : Nat) (ps : List Pt), cs = [.slice A n c] ∧ n = ps.length ∧ n ≤ 9223372036854775807 ∧ PS w w.heap.size A ps := by
  rcases open_slice Tryz.underlying89 h with ⟨rfl, _⟩ | ⟨a, len, cap, m, n, D, Pl, rfl, hb, hl, hm, hmm, _, hi⟩
  · exact ⟨none, 0, 0, [], rfl, rfl, by omega, PS.nil _ _ _⟩
  · have hlm : len ≤ m := by rw [hmm]; split <;> omega
    have hp : ∀ i, i < len → ∃ p : Pt, ∀ j, j < 5 → w.cell? (a.add (i * 5 + j)) = p.cells[j]? := by
      intro i hlt
      obtain ⟨cs', hc, ht⟩ := hi i (by omega)
      obtain ⟨p, rfl⟩ := part_cells ht
      rw [cells_lawPart] at hc
      obtain ⟨_, _, hat⟩ := World.cells?_some hc
      exact ⟨p, fun j hj => by rw [← add_add']; exact hat j hj⟩
    obtain ⟨ps, hlen, hps⟩ := choose_parts (fun i j => w.cell? (a.add (i * 5 + j))) len hp
    refine ⟨some a, len, cap, ps, rfl, hlen.symm, by unfold maxLen at hm; omega, fun hn => ?_⟩
    have h0 := hps 0 (by omega) 0 (by omega)
    obtain ⟨b, off, spot⟩ := a
    have hspot : spot = none := by
      have h1 : w.cell? ⟨b, off, spot⟩ = some (.int .i64 (ps.getD 0 default).k) := by simpa [Addr.add, Pt.cells] using h0
      exact World.cell?_spot h1
    subst hspot
    have hblk : b < w.heap.size := by
      have h1 : w.cell? ⟨b, off, none⟩ = some (.int .i64 (ps.getD 0 default).k) := by simpa [Addr.add, Pt.cells] using h0
      exact World.block_lt_of_cell? w _ h1
    refine ⟨b, off, rfl, hblk, fun j hj => ?_⟩
    have g := hps j (by omega)
    have g0 := g 0 (by omega)
    have g1 := g 1 (by omega)
    have g2 := g 2 (by omega)
    have g3 := g 3 (by omega)
    have g4 := g 4 (by omega)
    simp only [add_of] at g0 g1 g2 g3 g4
    exact ⟨g0, g1, g2, g3, g4⟩
end
end Go.Proofs.YtlcpgbbpjnkihaaGreat

namespace Go.Proofs.YtlcpgbbpjnkihaaGreat
set_option linter.unusedSimpArgs false
set_option linter.unusedVariables false
open Go.ChangeShapes Go.WideShapes Go.ChangeAt Go.RowKit Go.Deep
theorem cells_lawNode : Tryz.prog.cellsOf 93 = 2 := by kernel_rfl
theorem cells_lawGraph : Tryz.prog.cellsOf 24 = 1 := by kernel_rfl
theorem cells_lawNodes : Tryz.prog.cellsOf 22 = 1 := by kernel_rfl
theorem choose_list {α : Type} [Inhabited α] (P : Nat → α → Prop) (len : Nat) (hp : ∀ i, i < len → ∃ a, P i a) : ∃ l : List α, l.length = len ∧ ∀ i, i < len → P i (l.getD i default) := by
  induction len with
  | zero => exact ⟨[], rfl, fun i hi => by omega⟩
  | succ k ih =>
    obtain ⟨l, hl, hP⟩ := ih (fun i hi => hp i (by omega))
    obtain ⟨a, ha⟩ := hp k (by omega)
    refine ⟨l ++ [a], by simp [hl], fun i hi => ?_⟩
    rcases Nat.lt_or_ge i k with h1 | h1
    · have := hP i h1
      simpa [List.getD, List.getElem?_append, hl, h1] using this
    · obtain rfl : i = k := by omega
      simpa [List.getD, List.getElem?_append, hl] using ha
section
variable {H : Type} {enc : TypeId × Value → H} {w : World} {base : Nat} {spare : Nat → Bool} {held : Bool}
set_option maxRecDepth 100000 in
theorem node_cells {fuel : Nat} {cs : List Value} {x : DataW H × List MemPlace} (h : DataW.trod enc Tryz.prog w base spare held fuel 93 cs = some x) :
    ∃ (k : Int) (A : Option Addr) (n c : Nat) (ps : List Pt), cs = [.int .i64 k, .slice A n c] ∧ n = ps.length ∧ n ≤ 9223372036854775807 ∧ PS w w.heap.size A ps := by
  obtain ⟨xs, n, _, _, hl, hxl, hf⟩ := DataW.trod_struct Tryz.underlying93 h
  rw [cells_lawNode] at hl
  match cs, hl with
  | [c0, c1], _ =>
    have hxl' : xs.length = 2 := hxl
    have h0 : DataW.trod enc Tryz.prog w base spare held n 3 (List.take (Tryz.prog.cellsOf 3) [c0, c1]) = xs[0]? := hf 0 _ rfl
    have h1 : DataW.trod enc Tryz.prog w base spare held n 91 (List.take (Tryz.prog.cellsOf 91) [c1]) = xs[1]? := hf 1 _ rfl
    rw [cells_int, List.getElem?_eq_getElem (by omega)] at h0
    rw [cells_lawFormula, List.getElem?_eq_getElem (by omega)] at h1
    obtain ⟨k, e, _⟩ := DataW.trod_int Tryz.underlying3 h0
    have e0 : c0 = .int .i64 k := by simpa using e
    obtain ⟨ys, n2, _, _, hl2, hyl, hg⟩ := DataW.trod_struct Tryz.underlying91 h1
    have hyl' : ys.length = 1 := hyl
    have h2 : DataW.trod enc Tryz.prog w base spare held n2 89 (List.take (Tryz.prog.cellsOf 89) [c1]) = ys[0]? := hg 0 _ rfl
    rw [List.getElem?_eq_getElem (by omega)] at h2
    obtain ⟨A, n3, c', ps, e3, h3, h4, h5⟩ := open_parts h2
    rw [cells_lawParts] at e3
    have e1 : c1 = .slice A n3 c' := by simpa using e3
    exact ⟨k, A, n3, c', ps, by rw [e0, e1], h3, h4, h5⟩
set_option maxRecDepth 100000 in
theorem open_nodes {fuel : Nat} {cs : List Value} {x : DataW H × List MemPlace} (h : DataW.trod enc Tryz.prog w base spare held fuel 22 cs = some x) :
    ∃ (A : Option Addr) (n c : Nat) (gs : List Nd), cs = [.slice A n c] ∧ n = gs.length ∧ n ≤ 9223372036854775807 ∧ (∀ j, (gs.getD j default).ps.length ≤ 9223372036854775807) ∧ GS w w.heap.size A gs := by
  rcases open_slice Tryz.underlying22 h with ⟨rfl, _⟩ | ⟨a, len, cap, m, n, D, Pl, rfl, hb, hl, hm, hmm, _, hi⟩
  · exact ⟨none, 0, 0, [], rfl, rfl, by omega, fun j => by simp [List.getD]; exact Nat.zero_le _, GS.nil _ _ _⟩
  · have hlm : len ≤ m := by rw [hmm]; split <;> omega
    have hp : ∀ i, i < len → ∃ d : Nd, w.cell? (a.add (i * 2)) = some (.int .i64 d.k) ∧ ∃ A n c, w.cell? (a.add (i * 2 + 1)) = some (.slice A n c) ∧ n = d.ps.length ∧ n ≤ 9223372036854775807 ∧ PS w w.heap.size A d.ps := by
      intro i hlt
      obtain ⟨cs', hc, ht⟩ := hi i (by omega)
      obtain ⟨k, A, n, c, ps, rfl, h1, h2, h3⟩ := node_cells ht
      rw [cells_lawNode] at hc
      obtain ⟨_, _, hat⟩ := World.cells?_some hc
      have a0 := hat 0 (by simp)
      have a1 := hat 1 (by simp)
      rw [add_add'] at a0 a1
      exact ⟨⟨k, ps⟩, a0, A, n, c, a1, h1, h2, h3⟩
    obtain ⟨gs, hlen, hgs⟩ := choose_list _ len hp
    refine ⟨some a, len, cap, gs, rfl, hlen.symm, by unfold maxLen at hm; omega, fun j => ?_, fun hn => ?_⟩
    · by_cases hj : j < len
      · obtain ⟨_, A, n, c, _, h1, h2, _⟩ := hgs j hj
        omega
      · rw [show gs.getD j default = default by simp [List.getD, List.getElem?_eq_none (show gs.length ≤ j by omega)]]
        exact Nat.zero_le _
    · obtain ⟨h0, _⟩ := hgs 0 (by omega)
      obtain ⟨b, off, spot⟩ := a
      have h1 : w.cell? ⟨b, off, spot⟩ = some (.int .i64 (gs.getD 0 default).k) := by simpa [Addr.add] using h0
      have hspot : spot = none := World.cell?_spot h1
      subst hspot
      refine ⟨b, off, rfl, World.block_lt_of_cell? w _ h1, fun j hj => ?_⟩
      obtain ⟨g0, A, n, c, g1, g2, _, g3⟩ := hgs j (by omega)
      rw [add_of] at g0 g1
      exact ⟨g0, A, n, c, g1, g2, g3⟩
set_option maxRecDepth 100000 in
theorem open_graph {r : Reach} {b0 : Nat} {v : Value} {d : DataW H} {p : List MemPlace} (hv : Value.okWide Tryz.prog w r b0 24 v) (h : DataW.Trod enc Tryz.prog w base spare held 24 v d p) :
    ∃ (A : Option Addr) (n c : Nat) (gs : List Nd), v = .agg #[.slice A n c] ∧ n = gs.length ∧ n ≤ 9223372036854775807 ∧ (∀ j, (gs.getD j default).ps.length ≤ 9223372036854775807) ∧ GS w w.heap.size A gs := by
  obtain ⟨cs, rfl, hsz⟩ := okWide_struct Tryz.underlying24 hv
  obtain ⟨fuel, hf⟩ := h
  obtain ⟨xs, n, _, _, hl, hxl, hg⟩ := DataW.trod_struct Tryz.underlying24 hf
  obtain ⟨l⟩ := cs
  obtain ⟨c, rfl⟩ := one_of_list l (by rw [cells_lawGraph] at hsz; simpa using hsz)
  have hxl' : xs.length = 1 := hxl
  have h1 : DataW.trod enc Tryz.prog w base spare held n 22 (List.take (Tryz.prog.cellsOf 22) [c]) = xs[0]? := hg 0 _ rfl
  rw [List.getElem?_eq_getElem (by omega)] at h1
  obtain ⟨A, n, c', gs, e, h2, h3, h4, h5⟩ := open_nodes h1
  rw [cells_lawNodes] at e
  have e' : c = .slice A n c' := by simpa using e
  subst e'
  exact ⟨A, n, c', gs, rfl, h2, h3, h4, h5⟩
end
end Go.Proofs.YtlcpgbbpjnkihaaGreat

namespace Go.Proofs.YtlcpgbbpjnkihaaGreat
set_option linter.unusedSimpArgs false
set_option linter.unusedVariables false
open Go.ChangeShapes Go.WideShapes Go.ChangeAt Go.RowKit Go.Deep
theorem cells_intS : Tryz.prog.cellsOf 25 = 1 := by kernel_rfl
theorem cells_intSS : Tryz.prog.cellsOf 26 = 1 := by kernel_rfl
section
variable {H : Type} {enc : TypeId × Value → H} {w : World} {base : Nat} {spare : Nat → Bool} {held : Bool}
set_option maxRecDepth 100000 in
theorem open_intS {fuel : Nat} {cs : List Value} {x : DataW H × List MemPlace} (h : DataW.trod enc Tryz.prog w base spare held fuel 25 cs = some x) :
    ∃ (A : Option Addr) (n c : Nat) (xs : List Int), cs = [.slice A n c] ∧ n = xs.length ∧ n ≤ 9223372036854775807 ∧ IS w w.heap.size A xs := by
  rcases open_ints Tryz.underlying25 Tryz.underlying3 cells_int h with ⟨hcs, _⟩ | ⟨x, len0, cap0, zs, hcs, _, hl, hm, hz, _, hcell, _⟩
  · exact ⟨none, 0, 0, [], hcs, rfl, by omega, IS.nil _ _ _⟩
  · have hzl : len0 ≤ zs.length := by rw [hz]; split <;> omega
    refine ⟨some x, len0, cap0, zs.take len0, hcs, by simp; omega, by unfold maxLen at hm; omega, fun hn => ?_⟩
    have hlen : (zs.take len0).length = len0 := by simp; omega
    have h0 := hcell 0 (by omega)
    obtain ⟨b, off, spot⟩ := x
    have hspot : spot = none := by
      have h1 : w.cell? ⟨b, off, spot⟩ = some (.int .i64 (zs.getD 0 0)) := by simpa [Addr.add] using h0
      exact World.cell?_spot h1
    subst hspot
    have hblk : b < w.heap.size := by
      have h1 : w.cell? ⟨b, off, none⟩ = some (.int .i64 (zs.getD 0 0)) := by simpa [Addr.add] using h0
      exact World.block_lt_of_cell? w _ h1
    refine ⟨b, off, rfl, hblk, fun j hj => ?_⟩
    have g := hcell j (by omega)
    rw [add_of] at g
    rw [g]
    congr 2
    simp only [List.getD, List.getElem?_take, if_pos (show j < len0 by omega)]
set_option maxRecDepth 100000 in
theorem open_intSS {fuel : Nat} {cs : List Value} {x : DataW H × List MemPlace} (h : DataW.trod enc Tryz.prog w base spare held fuel 26 cs = some x) :
    ∃ (A : Option Addr) (n c : Nat) (xss : List (List Int)), cs = [.slice A n c] ∧ n = xss.length ∧ n ≤ 9223372036854775807 ∧ (∀ j, (xss.getD j []).length ≤ 9223372036854775807) ∧ SS w w.heap.size A xss := by
  rcases open_slice Tryz.underlying26 h with ⟨rfl, _⟩ | ⟨a, len, cap, m, n, D, Pl, rfl, hb, hl, hm, hmm, _, hi⟩
  · exact ⟨none, 0, 0, [], rfl, rfl, by omega, fun j => by simp [List.getD]; try exact Nat.zero_le _, SS.nil _ _ _⟩
  · have hlm : len ≤ m := by rw [hmm]; split <;> omega
    have hp : ∀ i, i < len → ∃ xs : List Int, ∃ A n c, w.cell? (a.add i) = some (.slice A n c) ∧ n = xs.length ∧ n ≤ 9223372036854775807 ∧ IS w w.heap.size A xs := by
      intro i hlt
      obtain ⟨cs', hc, ht⟩ := hi i (by omega)
      obtain ⟨A, n, c, xs, rfl, h1, h2, h3⟩ := open_intS ht
      rw [cells_intS] at hc
      obtain ⟨_, _, hat⟩ := World.cells?_some hc
      have a0 := hat 0 (by simp)
      rw [add_add', Nat.mul_one, Nat.add_zero] at a0
      exact ⟨xs, A, n, c, a0, h1, h2, h3⟩
    obtain ⟨xss, hlen, hxs⟩ := choose_list _ len hp
    refine ⟨some a, len, cap, xss, rfl, hlen.symm, by unfold maxLen at hm; omega, fun j => ?_, fun hn => ?_⟩
    · by_cases hj : j < len
      · obtain ⟨A, n, c, _, h1, h2, _⟩ := hxs j hj
        have h1' : n = (xss.getD j []).length := h1
        omega
      · rw [show xss.getD j [] = [] by simp [List.getD, List.getElem?_eq_none (show xss.length ≤ j by omega)]]
        exact Nat.zero_le _
    · obtain ⟨A, n, c, h0, _⟩ := hxs 0 (by omega)
      obtain ⟨b, off, spot⟩ := a
      have h1 : w.cell? ⟨b, off, spot⟩ = some (.slice A n c) := by simpa [Addr.add] using h0
      have hspot : spot = none := World.cell?_spot h1
      subst hspot
      refine ⟨b, off, rfl, World.block_lt_of_cell? w _ h1, fun j hj => ?_⟩
      obtain ⟨A, n, c, g0, g1, _, g3⟩ := hxs j (by omega)
      rw [add_of] at g0
      exact ⟨A, n, c, g0, g1, g3⟩
end
end Go.Proofs.YtlcpgbbpjnkihaaGreat

namespace Go.Proofs.YtlcpgbbpjnkihaaGreat
set_option linter.unusedSimpArgs false
set_option linter.unusedVariables false
open Go.ChangeShapes Go.WideShapes Go.ChangeAt Go.RowKit Go.Deep
theorem cells_lawLazy : Tryz.prog.cellsOf 28 = 3 := by kernel_rfl
section
variable {H : Type} {enc : TypeId × Value → H} {w : World} {base : Nat} {spare : Nat → Bool} {held : Bool}
set_option maxRecDepth 100000 in
theorem open_lazy {r : Reach} {b0 : Nat} {v : Value} {d : DataW H} {p : List MemPlace} (hsp : ∀ b, spare b = true) (hv : Value.okWide Tryz.prog w r b0 28 v) (h : DataW.Trod enc Tryz.prog w base spare held 28 v d p) :
    ∃ (A : Option Addr) (n c : Nat) (E : Option Addr) (en ec : Nat) (C : Option Addr) (kn kc : Nat) (st : Lz), v = .agg #[.slice A n c, .slice E en ec, .slice C kn kc] ∧ n = st.vs.length ∧ en = st.rs.length ∧ kn = st.cs.length ∧ n ≤ 9223372036854775807 ∧ en ≤ 9223372036854775807 ∧ kn ≤ 9223372036854775807 ∧ (∀ j, (st.rs.getD j []).length ≤ 9223372036854775807) ∧ LS3 w w.heap.size A E C st := by
  obtain ⟨cs, rfl, hsz⟩ := okWide_struct Tryz.underlying28 hv
  obtain ⟨fuel, hf⟩ := h
  obtain ⟨xs, n, _, _, hl, hxl, hg⟩ := DataW.trod_struct Tryz.underlying28 hf
  obtain ⟨l⟩ := cs
  have hll : l.length = 3 := by rw [cells_lawLazy] at hsz; simpa using hsz
  match l, hll with
  | [c0, c1, c2], _ =>
    have hxl' : xs.length = 3 := hxl
    have h0 : DataW.trod enc Tryz.prog w base spare held n 25 (List.take (Tryz.prog.cellsOf 25) [c0, c1, c2]) = xs[0]? := hg 0 _ rfl
    have h1 : DataW.trod enc Tryz.prog w base spare held n 26 (List.take (Tryz.prog.cellsOf 26) [c1, c2]) = xs[1]? := hg 1 _ rfl
    have h2 : DataW.trod enc Tryz.prog w base spare held n 25 (List.take (Tryz.prog.cellsOf 25) [c2]) = xs[2]? := hg 2 _ rfl
    rw [cells_intS, List.getElem?_eq_getElem (by omega)] at h0
    rw [cells_intSS, List.getElem?_eq_getElem (by omega)] at h1
    rw [cells_intS, List.getElem?_eq_getElem (by omega)] at h2
    obtain ⟨A, n1, k1, zs, e0, a1, a2, a3⟩ := open_intS h0
    obtain ⟨C, n3, k3, ys, e2, d1, d2, d3⟩ := open_intS h2
    obtain ⟨E, n2, k2, zss, e1, b1, b2, b3, b4⟩ := open_intSS h1
    have e0' : c0 = .slice A n1 k1 := by simpa using e0
    have e1' : c1 = .slice E n2 k2 := by simpa using e1
    have e2' : c2 = .slice C n3 k3 := by simpa using e2
    subst e0' e1' e2'
    exact ⟨A, n1, k1, E, n2, k2, C, n3, k3, ⟨zs, zss, ys⟩, rfl, a1, b1, d1, a2, b2, d2, b3, a3, b4, d3⟩
end
end Go.Proofs.YtlcpgbbpjnkihaaGreat
