/- Words and contracts for memory that the texts behind use. -/
import Derived.Test.YtcfiondggnbnoaaS0
import Derived.Test.YtcfiondggnbnoaaS1
import Derived.Test.YtcfiondggnbnoaaS2
import Derived.Test.YtcfiondggnbnoaaS3
import Derived.Test.YtcfiondggnbnoaaS4
import Derived.Test.YtcfiondggnbnoaaS5
import Derived.Test.YtcfiondggnbnoaaS6
import Derived.Test.YtcfiondggnbnoaaS7
import Derived.Test.YtcfiondggnbnoaaS8
import Derived.Test.YtcfiondggnbnoaaS9
import Derived.Test.YtcfiondggnbnoaaS10
import Derived.WalkKit
import Derived.Laws.OwnMore
import Derived.Deep.Draws
import Derived.Test.YtcfiondggnbnoaaProg
import Derived.WalkSpells
import Derived.WalkLawsBesides
import Derived.Outline
import Derived.Lib.Hide
import Derived.BigQuiet
import Derived.Deep.QuietTactic
import Derived.StillTailTactics
import Derived.Deep.LoopGhost
import Derived.Laws.MakeOwn
import Derived.WalkSmall
import Derived.RegionTactic
import Derived.BigRegion
import Derived.Deep.RegionWith
import Derived.Deep.RegionHeld3
import Derived.Maps.AppendAt
import Derived.Laws.CopyOwn
import Derived.ChangeAlike
import Derived.Test.YtcfiondggnbnoaaRows
import Derived.ProofKit
import Derived.OpenShut
import Derived.ShutString
import Derived.ChangeOld
import Derived.Below
import Derived.Deep.Slices
import Derived.Deep.Fields

namespace Go.Proofs.Ytcfiondggnbnoaa
set_option linter.unusedSimpArgs false
set_option linter.unusedVariables false
open Go.ChangeShapes Go.WideShapes Go.ChangeAt Go.RowKit Go.Deep
theorem own : ownKnob Try.prog.godebug = none := by kernel_rfl
theorem laidOut : laidOutB Try.prog = true := by kernel_rfl
theorem cells_lawPart : Try.prog.cellsOf 101 = 5 := by kernel_rfl
theorem cells_int : Try.prog.cellsOf 3 = 1 := by kernel_rfl
theorem cells_lawFormula : Try.prog.cellsOf 70 = 1 := by kernel_rfl
theorem cells_lawParts : Try.prog.cellsOf 68 = 1 := by kernel_rfl
theorem add_of (b off n : Nat) : (⟨b, off, none⟩ : Addr).add n = ⟨b, off + n, none⟩ := by
  unfold Addr.add
  by_cases h : n = 0 <;> simp [h]
theorem add_add' (a : Addr) (i j : Nat) : (a.add i).add j = a.add (i + j) := by
  unfold Addr.add
  by_cases hi : i = 0 <;> by_cases hj : j = 0 <;> simp [hi, hj, Nat.add_assoc]
theorem one_of_list (cs : List Value) (h : cs.length = 1) : ∃ c, cs = [c] := by
  match cs, h with
  | [c], _ => exact ⟨c, rfl⟩
theorem choose_parts (f : Nat → Nat → Option Value) (len : Nat) (hp : ∀ i, i < len → ∃ p : Pt, ∀ j, j < 5 → f i j = p.cells[j]?) :
    ∃ ps : List Pt, ps.length = len ∧ ∀ i, i < len → ∀ j, j < 5 → f i j = (ps.getD i default).cells[j]? := by
  induction len with
  | zero => exact ⟨[], rfl, fun i hi => by omega⟩
  | succ k ih =>
    obtain ⟨ps, hl, hps⟩ := ih (fun i hi => hp i (by omega))
    obtain ⟨p, hpp⟩ := hp k (by omega)
    refine ⟨ps ++ [p], by simp [hl], fun i hi j hj => ?_⟩
    rcases Nat.lt_or_ge i k with h1 | h1
    · rw [hps i h1 j hj]; simp [List.getD, List.getElem?_append, hl, h1]
    · obtain rfl : i = k := by omega
      rw [hpp j hj]; simp [List.getD, List.getElem?_append, hl]
section
variable {H : Type} {enc : TypeId × Value → H} {w : World} {base : Nat} {spare : Nat → Bool} {held : Bool}
set_option maxRecDepth 100000 in
theorem part_cells {fuel : Nat} {cs : List Value} {x : DataW H × List MemPlace} (h : DataW.trod enc Try.prog w base spare held fuel 101 cs = some x) :
    ∃ p : Pt, cs = p.cells := by
  obtain ⟨xs, n, _, _, hl, hxl, hf⟩ := DataW.trod_struct Try.underlying101 h
  rw [cells_lawPart] at hl
  match cs, hl with
  | [c0, c1, c2, c3, c4], _ =>
    have key (c : Value) (m : Nat) (i : Nat) (hi : i < xs.length) (h1 : DataW.trod enc Try.prog w base spare held m 3 (List.take (Try.prog.cellsOf 3) (c :: ([c0, c1, c2, c3, c4] : List Value).drop (i + 1))) = xs[i]?) : ∃ k : Int, c = .int .i64 k := by
      rw [cells_int, List.getElem?_eq_getElem hi] at h1
      obtain ⟨k, e, _⟩ := DataW.trod_int Try.underlying3 h1
      exact ⟨k, by simpa using e⟩
    have hxl' : xs.length = 5 := hxl
    obtain ⟨k0, rfl⟩ := key c0 n 0 (by omega) (hf 0 _ rfl)
    obtain ⟨k1, rfl⟩ := key c1 n 1 (by omega) (hf 1 _ rfl)
    obtain ⟨k2, rfl⟩ := key c2 n 2 (by omega) (hf 2 _ rfl)
    obtain ⟨k3, rfl⟩ := key c3 n 3 (by omega) (hf 3 _ rfl)
    obtain ⟨k4, rfl⟩ := key c4 n 4 (by omega) (hf 4 _ rfl)
    exact ⟨⟨k0, k1, k2, k3, k4⟩, rfl⟩
set_option maxRecDepth 100000 in
theorem open_parts {fuel : Nat} {cs : List Value} {x : DataW H × List MemPlace} (h : DataW.trod enc Try.prog w base spare held fuel 68 cs = some x) :
    ∃ (A : Option Addr) (n c : Nat) (ps : List Pt), cs = [.slice A n c] ∧ n = ps.length ∧ n ≤ 9223372036854775807 ∧ PS w w.heap.size A ps := by
  rcases open_slice Try.underlying68 h with ⟨rfl, _⟩ | ⟨a, len, cap, m, n, D, Pl, rfl, hb, hl, hm, hmm, _, hi⟩
  · exact ⟨none, 0, 0, [], rfl, rfl, by omega, PS.nil _ _ _⟩
  · have hlm : len ≤ m := by rw [hmm]; split <;> omega
    have hp : ∀ i, i < len → ∃ p : Pt, ∀ j, j < 5 → w.cell? (a.add (i * 5 + j)) = p.cells[j]? := by
      intro i hlt
      obtain ⟨cs', hc, ht⟩ := hi i (by omega)
      obtain ⟨p, rfl⟩ := part_cells ht
      rw [cells_lawPart] at hc
      obtain ⟨_, _, hat⟩ := World.cells?_some hc
      exact ⟨p, fun j hj => by rw [← add_add']; exact hat j hj⟩
    obtain ⟨ps, hlen, hps⟩ := choose_parts (fun i j => w.cell? (a.add (i * 5 + j))) len hp
    refine ⟨some a, len, cap, ps, rfl, hlen.symm, by unfold maxLen at hm; omega, fun hn => ?_⟩
    have h0 := hps 0 (by omega) 0 (by omega)
    obtain ⟨b, off, spot⟩ := a
    have hspot : spot = none := by
      have h1 : w.cell? ⟨b, off, spot⟩ = some (.int .i64 (ps.getD 0 default).k) := by simpa [Addr.add, Pt.cells] using h0
      exact World.cell?_spot h1
    subst hspot
    have hblk : b < w.heap.size := by
      have h1 : w.cell? ⟨b, off, none⟩ = some (.int .i64 (ps.getD 0 default).k) := by simpa [Addr.add, Pt.cells] using h0
      exact World.block_lt_of_cell? w _ h1
    refine ⟨b, off, rfl, hblk, fun j hj => ?_⟩
    have g := hps j (by omega)
    have g0 := g 0 (by omega)
    have g1 := g 1 (by omega)
    have g2 := g 2 (by omega)
    have g3 := g 3 (by omega)
    have g4 := g 4 (by omega)
    simp only [add_of] at g0 g1 g2 g3 g4
    exact ⟨g0, g1, g2, g3, g4⟩
end
end Go.Proofs.Ytcfiondggnbnoaa

namespace Go.Proofs.Ytcfiondggnbnoaa
set_option linter.unusedSimpArgs false
set_option linter.unusedVariables false
open Go.ChangeShapes Go.WideShapes Go.ChangeAt Go.RowKit Go.Deep
theorem cells_lawNode : Try.prog.cellsOf 72 = 2 := by kernel_rfl
theorem cells_lawGraph : Try.prog.cellsOf 24 = 1 := by kernel_rfl
theorem cells_lawNodes : Try.prog.cellsOf 22 = 1 := by kernel_rfl
theorem choose_list {α : Type} [Inhabited α] (P : Nat → α → Prop) (len : Nat) (hp : ∀ i, i < len → ∃ a, P i a) : ∃ l : List α, l.length = len ∧ ∀ i, i < len → P i (l.getD i default) := by
  induction len with
  | zero => exact ⟨[], rfl, fun i hi => by omega⟩
  | succ k ih =>
    obtain ⟨l, hl, hP⟩ := ih (fun i hi => hp i (by omega))
    obtain ⟨a, ha⟩ := hp k (by omega)
    refine ⟨l ++ [a], by simp [hl], fun i hi => ?_⟩
    rcases Nat.lt_or_ge i k with h1 | h1
    · have := hP i h1
      simpa [List.getD, List.getElem?_append, hl, h1] using this
    · obtain rfl : i = k := by omega
      simpa [List.getD, List.getElem?_append, hl] using ha
section
variable {H : Type} {enc : TypeId × Value → H} {w : World} {base : Nat} {spare : Nat → Bool} {held : Bool}
set_option maxRecDepth 100000 in
theorem node_cells {fuel : Nat} {cs : List Value} {x : DataW H × List MemPlace} (h : DataW.trod enc Try.prog w base spare held fuel 72 cs = some x) :
    ∃ (k : Int) (A : Option Addr) (n c : Nat) (ps : List Pt), cs = [.int .i64 k, .slice A n c] ∧ n = ps.length ∧ n ≤ 9223372036854775807 ∧ PS w w.heap.size A ps := by
  obtain ⟨xs, n, _, _, hl, hxl, hf⟩ := DataW.trod_struct Try.underlying72 h
  rw [cells_lawNode] at hl
  match cs, hl with
  | [c0, c1], _ =>
    have hxl' : xs.length = 2 := hxl
    have h0 : DataW.trod enc Try.prog w base spare held n 3 (List.take (Try.prog.cellsOf 3) [c0, c1]) = xs[0]? := hf 0 _ rfl
    have h1 : DataW.trod enc Try.prog w base spare held n 70 (List.take (Try.prog.cellsOf 70) [c1]) = xs[1]? := hf 1 _ rfl
    rw [cells_int, List.getElem?_eq_getElem (by omega)] at h0
    rw [cells_lawFormula, List.getElem?_eq_getElem (by omega)] at h1
    obtain ⟨k, e, _⟩ := DataW.trod_int Try.underlying3 h0
    have e0 : c0 = .int .i64 k := by simpa using e
    obtain ⟨ys, n2, _, _, hl2, hyl, hg⟩ := DataW.trod_struct Try.underlying70 h1
    have hyl' : ys.length = 1 := hyl
    have h2 : DataW.trod enc Try.prog w base spare held n2 68 (List.take (Try.prog.cellsOf 68) [c1]) = ys[0]? := hg 0 _ rfl
    rw [List.getElem?_eq_getElem (by omega)] at h2
    obtain ⟨A, n3, c', ps, e3, h3, h4, h5⟩ := open_parts h2
    rw [cells_lawParts] at e3
    have e1 : c1 = .slice A n3 c' := by simpa using e3
    exact ⟨k, A, n3, c', ps, by rw [e0, e1], h3, h4, h5⟩
set_option maxRecDepth 100000 in
theorem open_nodes {fuel : Nat} {cs : List Value} {x : DataW H × List MemPlace} (h : DataW.trod enc Try.prog w base spare held fuel 22 cs = some x) :
    ∃ (A : Option Addr) (n c : Nat) (gs : List Nd), cs = [.slice A n c] ∧ n = gs.length ∧ n ≤ 9223372036854775807 ∧ (∀ j, (gs.getD j default).ps.length ≤ 9223372036854775807) ∧ GS w w.heap.size A gs := by
  rcases open_slice Try.underlying22 h with ⟨rfl, _⟩ | ⟨a, len, cap, m, n, D, Pl, rfl, hb, hl, hm, hmm, _, hi⟩
  · exact ⟨none, 0, 0, [], rfl, rfl, by omega, fun j => by simp [List.getD]; exact Nat.zero_le _, GS.nil _ _ _⟩
  · have hlm : len ≤ m := by rw [hmm]; split <;> omega
    have hp : ∀ i, i < len → ∃ d : Nd, w.cell? (a.add (i * 2)) = some (.int .i64 d.k) ∧ ∃ A n c, w.cell? (a.add (i * 2 + 1)) = some (.slice A n c) ∧ n = d.ps.length ∧ n ≤ 9223372036854775807 ∧ PS w w.heap.size A d.ps := by
      intro i hlt
      obtain ⟨cs', hc, ht⟩ := hi i (by omega)
      obtain ⟨k, A, n, c, ps, rfl, h1, h2, h3⟩ := node_cells ht
      rw [cells_lawNode] at hc
      obtain ⟨_, _, hat⟩ := World.cells?_some hc
      have a0 := hat 0 (by simp)
      have a1 := hat 1 (by simp)
      rw [add_add'] at a0 a1
      exact ⟨⟨k, ps⟩, a0, A, n, c, a1, h1, h2, h3⟩
    obtain ⟨gs, hlen, hgs⟩ := choose_list _ len hp
    refine ⟨some a, len, cap, gs, rfl, hlen.symm, by unfold maxLen at hm; omega, fun j => ?_, fun hn => ?_⟩
    · by_cases hj : j < len
      · obtain ⟨_, A, n, c, _, h1, h2, _⟩ := hgs j hj
        omega
      · rw [show gs.getD j default = default by simp [List.getD, List.getElem?_eq_none (show gs.length ≤ j by omega)]]
        exact Nat.zero_le _
    · obtain ⟨h0, _⟩ := hgs 0 (by omega)
      obtain ⟨b, off, spot⟩ := a
      have h1 : w.cell? ⟨b, off, spot⟩ = some (.int .i64 (gs.getD 0 default).k) := by simpa [Addr.add] using h0
      have hspot : spot = none := World.cell?_spot h1
      subst hspot
      refine ⟨b, off, rfl, World.block_lt_of_cell? w _ h1, fun j hj => ?_⟩
      obtain ⟨g0, A, n, c, g1, g2, _, g3⟩ := hgs j (by omega)
      rw [add_of] at g0 g1
      exact ⟨g0, A, n, c, g1, g2, g3⟩
set_option maxRecDepth 100000 in
theorem open_graph {r : Reach} {b0 : Nat} {v : Value} {d : DataW H} {p : List MemPlace} (hv : Value.okWide Try.prog w r b0 24 v) (h : DataW.Trod enc Try.prog w base spare held 24 v d p) :
    ∃ (A : Option Addr) (n c : Nat) (gs : List Nd), v = .agg #[.slice A n c] ∧ n = gs.length ∧ n ≤ 9223372036854775807 ∧ (∀ j, (gs.getD j default).ps.length ≤ 9223372036854775807) ∧ GS w w.heap.size A gs := by
  obtain ⟨cs, rfl, hsz⟩ := okWide_struct Try.underlying24 hv
  obtain ⟨fuel, hf⟩ := h
  obtain ⟨xs, n, _, _, hl, hxl, hg⟩ := DataW.trod_struct Try.underlying24 hf
  obtain ⟨l⟩ := cs
  obtain ⟨c, rfl⟩ := one_of_list l (by rw [cells_lawGraph] at hsz; simpa using hsz)
  have hxl' : xs.length = 1 := hxl
  have h1 : DataW.trod enc Try.prog w base spare held n 22 (List.take (Try.prog.cellsOf 22) [c]) = xs[0]? := hg 0 _ rfl
  rw [List.getElem?_eq_getElem (by omega)] at h1
  obtain ⟨A, n, c', gs, e, h2, h3, h4, h5⟩ := open_nodes h1
  rw [cells_lawNodes] at e
  have e' : c = .slice A n c' := by simpa using e
  subst e'
  exact ⟨A, n, c', gs, rfl, h2, h3, h4, h5⟩
end
end Go.Proofs.Ytcfiondggnbnoaa
