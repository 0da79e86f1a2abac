/- How the laws' arguments open: lists of numbers inside others, a state of the eager machine. -/
import Derived.Test.YthephbppeiealaaO2
import Derived.Test.YthephbppeiealaaE1
namespace Go.Proofs.Ythephbppeiealaa
set_option linter.unusedSimpArgs false
set_option linter.unusedVariables false
open Go.ChangeShapes Go.WideShapes Go.ChangeAt Go.RowKit Go.Deep

theorem cells_lawEager : Try.prog.cellsOf 28 = 2 := by kernel_rfl
theorem cells_intS : Try.prog.cellsOf 25 = 1 := by kernel_rfl
theorem cells_intSS : Try.prog.cellsOf 26 = 1 := by kernel_rfl

section
variable {H : Type} {enc : TypeId × Value → H} {w : World} {base : Nat} {spare : Nat → Bool} {held : Bool}

set_option maxRecDepth 100000 in
theorem open_intS {fuel : Nat} {cs : List Value} {x : DataW H × List MemPlace} (h : DataW.trod enc Try.prog w base spare held fuel 25 cs = some x) :
    ∃ (A : Option Addr) (n c : Nat) (xs : List Int), cs = [.slice A n c] ∧ n = xs.length ∧ n ≤ 9223372036854775807 ∧ IS w w.heap.size A xs := by
  rcases open_ints Try.underlying25 Try.underlying3 cells_int h with ⟨hcs, _⟩ | ⟨x, len0, cap0, zs, hcs, _, hl, hm, hz, _, hcell, _⟩
  · exact ⟨none, 0, 0, [], hcs, rfl, by omega, IS.nil _ _ _⟩
  · have hzl : len0 ≤ zs.length := by rw [hz]; split <;> omega
    refine ⟨some x, len0, cap0, zs.take len0, hcs, by simp; omega, by unfold maxLen at hm; omega, fun hn => ?_⟩
    have hlen : (zs.take len0).length = len0 := by simp; omega
    have h0 := hcell 0 (by omega)
    obtain ⟨b, off, spot⟩ := x
    have hspot : spot = none := by
      have h1 : w.cell? ⟨b, off, spot⟩ = some (.int .i64 (zs.getD 0 0)) := by simpa [Addr.add] using h0
      exact World.cell?_spot h1
    subst hspot
    have hblk : b < w.heap.size := by
      have h1 : w.cell? ⟨b, off, none⟩ = some (.int .i64 (zs.getD 0 0)) := by simpa [Addr.add] using h0
      exact World.block_lt_of_cell? w _ h1
    refine ⟨b, off, rfl, hblk, fun j hj => ?_⟩
    have g := hcell j (by omega)
    rw [add_of] at g
    rw [g]
    congr 2
    simp only [List.getD, List.getElem?_take, if_pos (show j < len0 by omega)]

set_option maxRecDepth 100000 in
theorem open_intSS {fuel : Nat} {cs : List Value} {x : DataW H × List MemPlace} (h : DataW.trod enc Try.prog w base spare held fuel 26 cs = some x) :
    ∃ (A : Option Addr) (n c : Nat) (xss : List (List Int)), cs = [.slice A n c] ∧ n = xss.length ∧ n ≤ 9223372036854775807 ∧ (∀ j, (xss.getD j []).length ≤ 9223372036854775807) ∧ SS w w.heap.size A xss := by
  rcases open_slice Try.underlying26 h with ⟨rfl, _⟩ | ⟨a, len, cap, m, n, D, Pl, rfl, hb, hl, hm, hmm, _, hi⟩
  · exact ⟨none, 0, 0, [], rfl, rfl, by omega, fun j => by simp [List.getD]; try exact Nat.zero_le _, SS.nil _ _ _⟩
  · have hlm : len ≤ m := by rw [hmm]; split <;> omega
    have hp : ∀ i, i < len → ∃ xs : List Int, ∃ A n c, w.cell? (a.add i) = some (.slice A n c) ∧ n = xs.length ∧ n ≤ 9223372036854775807 ∧ IS w w.heap.size A xs := by
      intro i hlt
      obtain ⟨cs', hc, ht⟩ := hi i (by omega)
      obtain ⟨A, n, c, xs, rfl, h1, h2, h3⟩ := open_intS ht
      rw [cells_intS] at hc
      obtain ⟨_, _, hat⟩ := World.cells?_some hc
      have a0 := hat 0 (by simp)
      rw [add_add', Nat.mul_one, Nat.add_zero] at a0
      exact ⟨xs, A, n, c, a0, h1, h2, h3⟩
    obtain ⟨xss, hlen, hxs⟩ := choose_list _ len hp
    refine ⟨some a, len, cap, xss, rfl, hlen.symm, by unfold maxLen at hm; omega, fun j => ?_, fun hn => ?_⟩
    · by_cases hj : j < len
      · obtain ⟨A, n, c, _, h1, h2, _⟩ := hxs j hj
        have h1' : n = (xss.getD j []).length := h1
        omega
      · rw [show xss.getD j [] = [] by simp [List.getD, List.getElem?_eq_none (show xss.length ≤ j by omega)]]
        exact Nat.zero_le _
    · obtain ⟨A, n, c, h0, _⟩ := hxs 0 (by omega)
      obtain ⟨b, off, spot⟩ := a
      have h1 : w.cell? ⟨b, off, spot⟩ = some (.slice A n c) := by simpa [Addr.add] using h0
      have hspot : spot = none := World.cell?_spot h1
      subst hspot
      refine ⟨b, off, rfl, World.block_lt_of_cell? w _ h1, fun j hj => ?_⟩
      obtain ⟨A, n, c, g0, g1, _, g3⟩ := hxs j (by omega)
      rw [add_of] at g0
      exact ⟨A, n, c, g0, g1, g3⟩

set_option maxRecDepth 100000 in
theorem open_eager {r : Reach} {b0 : Nat} {v : Value} {d : DataW H} {p : List MemPlace} (hsp : ∀ b, spare b = true) (hv : Value.okWide Try.prog w r b0 28 v) (h : DataW.Trod enc Try.prog w base spare held 28 v d p) :
    ∃ (A : Option Addr) (n c : Nat) (E : Option Addr) (en ec : Nat) (st : Eg), v = .agg #[.slice A n c, .slice E en ec] ∧ n = st.vs.length ∧ en = st.rs.length ∧ n ≤ 9223372036854775807 ∧ en ≤ 9223372036854775807 ∧ (∀ j, (st.rs.getD j []).length ≤ 9223372036854775807) ∧ ES w w.heap.size A E st := by
  obtain ⟨cs, rfl, hsz⟩ := okWide_struct Try.underlying28 hv
  obtain ⟨fuel, hf⟩ := h
  obtain ⟨xs, n, _, _, hl, hxl, hg⟩ := DataW.trod_struct Try.underlying28 hf
  obtain ⟨l⟩ := cs
  have hll : l.length = 2 := by rw [cells_lawEager] at hsz; simpa using hsz
  match l, hll with
  | [c0, c1], _ =>
    have hxl' : xs.length = 2 := hxl
    have h0 : DataW.trod enc Try.prog w base spare held n 25 (List.take (Try.prog.cellsOf 25) [c0, c1]) = xs[0]? := hg 0 _ rfl
    have h1 : DataW.trod enc Try.prog w base spare held n 26 (List.take (Try.prog.cellsOf 26) [c1]) = xs[1]? := hg 1 _ rfl
    rw [cells_intS, List.getElem?_eq_getElem (by omega)] at h0
    rw [cells_intSS, List.getElem?_eq_getElem (by omega)] at h1
    obtain ⟨A, n1, k1, zs, e0, a1, a2, a3⟩ := open_intS h0
    obtain ⟨E, n2, k2, zss, e1, b1, b2, b3, b4⟩ := open_intSS h1
    have e0' : c0 = .slice A n1 k1 := by simpa using e0
    have e1' : c1 = .slice E n2 k2 := by simpa using e1
    subst e0' e1'
    exact ⟨A, n1, k1, E, n2, k2, ⟨zs, zss⟩, rfl, a1, b1, a2, b2, b3, a3, b4⟩
end
end Go.Proofs.Ythephbppeiealaa
