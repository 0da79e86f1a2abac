/- How the laws' arguments open: a formula, a list of numbers. -/
import Derived.Test.YtkmhpiojbocjkaaRows
import Derived.Test.YtkmhpiojbocjkaaB0
import Derived.WalkKit
import Derived.ProofKit
import Derived.OpenShut
import Derived.ShutString
import Derived.ChangeOld
import Derived.Below
import Derived.Deep.Slices
import Derived.Deep.Fields
namespace Go.Proofs.Ytkmhpiojbocjkaa
set_option linter.unusedSimpArgs false
set_option linter.unusedVariables false
open Go.ChangeShapes Go.WideShapes Go.ChangeAt Go.RowKit Go.Deep

theorem own : ownKnob Try.prog.godebug = none := by kernel_rfl
theorem laidOut : laidOutB Try.prog = true := by kernel_rfl
theorem cells_lawPart : Try.prog.cellsOf 131 = 5 := by kernel_rfl
theorem cells_int : Try.prog.cellsOf 3 = 1 := by kernel_rfl
theorem cells_lawFormula : Try.prog.cellsOf 76 = 1 := by kernel_rfl
theorem cells_lawParts : Try.prog.cellsOf 74 = 1 := by kernel_rfl

theorem add_of (b off n : Nat) : (⟨b, off, none⟩ : Addr).add n = ⟨b, off + n, none⟩ := by
  unfold Addr.add
  by_cases h : n = 0 <;> simp [h]

theorem add_add' (a : Addr) (i j : Nat) : (a.add i).add j = a.add (i + j) := by
  unfold Addr.add
  by_cases hi : i = 0 <;> by_cases hj : j = 0 <;> simp [hi, hj, Nat.add_assoc]

theorem one_of_list (cs : List Value) (h : cs.length = 1) : ∃ c, cs = [c] := by
  match cs, h with
  | [c], _ => exact ⟨c, rfl⟩

theorem choose_parts (f : Nat → Nat → Option Value) (len : Nat) (hp : ∀ i, i < len → ∃ p : Pt, ∀ j, j < 5 → f i j = p.cells[j]?) :
    ∃ ps : List Pt, ps.length = len ∧ ∀ i, i < len → ∀ j, j < 5 → f i j = (ps.getD i default).cells[j]? := by
  induction len with
  | zero => exact ⟨[], rfl, fun i hi => by omega⟩
  | succ k ih =>
    obtain ⟨ps, hl, hps⟩ := ih (fun i hi => hp i (by omega))
    obtain ⟨p, hpp⟩ := hp k (by omega)
    refine ⟨ps ++ [p], by simp [hl], fun i hi j hj => ?_⟩
    rcases Nat.lt_or_ge i k with h1 | h1
    · rw [hps i h1 j hj]; simp [List.getD, List.getElem?_append, hl, h1]
    · obtain rfl : i = k := by omega
      rw [hpp j hj]; simp [List.getD, List.getElem?_append, hl]

section
variable {H : Type} {enc : TypeId × Value → H} {w : World} {base : Nat} {spare : Nat → Bool} {held : Bool}

set_option maxRecDepth 100000 in
theorem part_cells {fuel : Nat} {cs : List Value} {x : DataW H × List MemPlace} (h : DataW.trod enc Try.prog w base spare held fuel 131 cs = some x) :
    ∃ p : Pt, cs = p.cells := by
  obtain ⟨xs, n, _, _, hl, hxl, hf⟩ := DataW.trod_struct Try.underlying131 h
  rw [cells_lawPart] at hl
  match cs, hl with
  | [c0, c1, c2, c3, c4], _ =>
    have key (c : Value) (m : Nat) (i : Nat) (hi : i < xs.length) (h1 : DataW.trod enc Try.prog w base spare held m 3 (List.take (Try.prog.cellsOf 3) (c :: ([c0, c1, c2, c3, c4] : List Value).drop (i + 1))) = xs[i]?) : ∃ k : Int, c = .int .i64 k := by
      rw [cells_int, List.getElem?_eq_getElem hi] at h1
      obtain ⟨k, e, _⟩ := DataW.trod_int Try.underlying3 h1
      exact ⟨k, by simpa using e⟩
    have hxl' : xs.length = 5 := hxl
    obtain ⟨k0, rfl⟩ := key c0 n 0 (by omega) (hf 0 _ rfl)
    obtain ⟨k1, rfl⟩ := key c1 n 1 (by omega) (hf 1 _ rfl)
    obtain ⟨k2, rfl⟩ := key c2 n 2 (by omega) (hf 2 _ rfl)
    obtain ⟨k3, rfl⟩ := key c3 n 3 (by omega) (hf 3 _ rfl)
    obtain ⟨k4, rfl⟩ := key c4 n 4 (by omega) (hf 4 _ rfl)
    exact ⟨⟨k0, k1, k2, k3, k4⟩, rfl⟩

set_option maxRecDepth 100000 in
theorem open_parts {fuel : Nat} {cs : List Value} {x : DataW H × List MemPlace} (h : DataW.trod enc Try.prog w base spare held fuel 74 cs = some x) :
    ∃ (A : Option Addr) (n c : Nat) (ps : List Pt), cs = [.slice A n c] ∧ n = ps.length ∧ n ≤ 9223372036854775807 ∧ PS w w.heap.size A ps := by
  rcases open_slice Try.underlying74 h with ⟨rfl, _⟩ | ⟨a, len, cap, m, n, D, Pl, rfl, hb, hl, hm, hmm, _, hi⟩
  · exact ⟨none, 0, 0, [], rfl, rfl, by omega, PS.nil _ _ _⟩
  · have hlm : len ≤ m := by rw [hmm]; split <;> omega
    have hp : ∀ i, i < len → ∃ p : Pt, ∀ j, j < 5 → w.cell? (a.add (i * 5 + j)) = p.cells[j]? := by
      intro i hlt
      obtain ⟨cs', hc, ht⟩ := hi i (by omega)
      obtain ⟨p, rfl⟩ := part_cells ht
      rw [cells_lawPart] at hc
      obtain ⟨_, _, hat⟩ := World.cells?_some hc
      exact ⟨p, fun j hj => by rw [← add_add']; exact hat j hj⟩
    obtain ⟨ps, hlen, hps⟩ := choose_parts (fun i j => w.cell? (a.add (i * 5 + j))) len hp
    refine ⟨some a, len, cap, ps, rfl, hlen.symm, by unfold maxLen at hm; omega, fun hn => ?_⟩
    have h0 := hps 0 (by omega) 0 (by omega)
    obtain ⟨b, off, spot⟩ := a
    have hspot : spot = none := by
      have h1 : w.cell? ⟨b, off, spot⟩ = some (.int .i64 (ps.getD 0 default).k) := by simpa [Addr.add, Pt.cells] using h0
      exact World.cell?_spot h1
    subst hspot
    have hblk : b < w.heap.size := by
      have h1 : w.cell? ⟨b, off, none⟩ = some (.int .i64 (ps.getD 0 default).k) := by simpa [Addr.add, Pt.cells] using h0
      exact World.block_lt_of_cell? w _ h1
    refine ⟨b, off, rfl, hblk, fun j hj => ?_⟩
    have g := hps j (by omega)
    have g0 := g 0 (by omega)
    have g1 := g 1 (by omega)
    have g2 := g 2 (by omega)
    have g3 := g 3 (by omega)
    have g4 := g 4 (by omega)
    simp only [add_of] at g0 g1 g2 g3 g4
    exact ⟨g0, g1, g2, g3, g4⟩

set_option maxRecDepth 100000 in
theorem open_formula {r : Reach} {b0 : Nat} {v : Value} {d : DataW H} {p : List MemPlace} (hv : Value.okWide Try.prog w r b0 76 v) (h : DataW.Trod enc Try.prog w base spare held 76 v d p) :
    ∃ (A : Option Addr) (n c : Nat) (ps : List Pt), v = .agg #[.slice A n c] ∧ n = ps.length ∧ n ≤ 9223372036854775807 ∧ PS w w.heap.size A ps := by
  obtain ⟨cs, rfl, hsz⟩ := okWide_struct Try.underlying76 hv
  obtain ⟨fuel, hf⟩ := h
  obtain ⟨xs, n, _, _, hl, hxl, hg⟩ := DataW.trod_struct Try.underlying76 hf
  obtain ⟨l⟩ := cs
  obtain ⟨c, rfl⟩ := one_of_list l (by rw [cells_lawFormula] at hsz; simpa using hsz)
  have h1 := hg 0 _ rfl
  have hx : ∃ y, xs[0]? = some y := ⟨_, List.getElem?_eq_getElem (by rw [hxl]; decide)⟩
  obtain ⟨y, hy⟩ := hx
  rw [hy] at h1
  obtain ⟨A, n, c', ps, e, h2, h3, h4⟩ := open_parts h1
  have e' : c = .slice A n c' := by
    change List.take (Try.prog.cellsOf 74) [c] = _ at e
    rw [cells_lawParts] at e
    simpa using e
  subst e'
  exact ⟨A, n, c', ps, rfl, h2, h3, h4⟩

set_option maxRecDepth 100000 in
theorem open_list {r : Reach} {b0 : Nat} {v : Value} {d : DataW H} {p : List MemPlace} (hsp : ∀ b, spare b = true) (hv : Value.okWide Try.prog w r b0 55 v) (h : DataW.Trod enc Try.prog w base spare held 55 v d p) :
    ∃ (A : Option Addr) (n c : Nat) (xs : List Int), v = .slice A n c ∧ n = xs.length ∧ n ≤ 9223372036854775807 ∧ IS w w.heap.size A xs := by
  obtain ⟨a0, len0, cap0, rfl⟩ := okWide_slice Try.underlying55 hv
  obtain ⟨fuel, hf⟩ := h
  rcases open_ints Try.underlying55 Try.underlying3 cells_int hf with ⟨hcs, _⟩ | ⟨x, l, c, zs, hcs, _, hl, hm, hz, _, hcell, _⟩
  · simp [Value.cells] at hcs
    obtain ⟨rfl, rfl, rfl⟩ := hcs
    exact ⟨none, 0, 0, [], rfl, rfl, by omega, IS.nil _ _ _⟩
  · simp [Value.cells] at hcs
    obtain ⟨rfl, rfl, rfl⟩ := hcs
    have hzl : len0 ≤ zs.length := by rw [hz]; split <;> omega
    refine ⟨some x, len0, cap0, zs.take len0, rfl, by simp; omega, by unfold maxLen at hm; omega, fun hn => ?_⟩
    have hlen : (zs.take len0).length = len0 := by simp; omega
    have h0 := hcell 0 (by omega)
    obtain ⟨b, off, spot⟩ := x
    have hspot : spot = none := by
      have h1 : w.cell? ⟨b, off, spot⟩ = some (.int .i64 (zs.getD 0 0)) := by simpa [Addr.add] using h0
      exact World.cell?_spot h1
    subst hspot
    have hblk : b < w.heap.size := by
      have h1 : w.cell? ⟨b, off, none⟩ = some (.int .i64 (zs.getD 0 0)) := by simpa [Addr.add] using h0
      exact World.block_lt_of_cell? w _ h1
    refine ⟨b, off, rfl, hblk, fun j hj => ?_⟩
    have g := hcell j (by omega)
    rw [add_of] at g
    rw [g]
    congr 2
    simp only [List.getD, List.getElem?_take, if_pos (show j < len0 by omega)]
end
end Go.Proofs.Ytkmhpiojbocjkaa
