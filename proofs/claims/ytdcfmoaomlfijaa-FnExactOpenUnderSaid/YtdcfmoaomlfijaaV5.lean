/- How the laws' arguments open: owners. -/
import Derived.Test.YtdcfmoaomlfijaaS0
import Derived.Test.YtdcfmoaomlfijaaV1

namespace Go.Proofs.Ytdcfmoaomlfijaa
set_option linter.unusedSimpArgs false
set_option linter.unusedVariables false
open Go.ChangeShapes Go.WideShapes Go.ChangeAt Go.RowKit Go.Deep

theorem cells_lawOwner : Try.prog.cellsOf 49 = 4 := by kernel_rfl
theorem cells_bool : Try.prog.cellsOf 4 = 1 := by kernel_rfl

section
variable {H : Type} {enc : TypeId × Value → H} {w : World} {base : Nat} {spare : Nat → Bool} {held : Bool}

set_option maxRecDepth 100000 in
theorem owner_cells {fuel : Nat} {cs : List Value} {x : DataW H × List MemPlace} (h : DataW.trod enc Try.prog w base spare held fuel 49 cs = some x) :
    ∃ (d : On) (A : Option Addr) (n c : Nat) (A' : Option Addr) (n' c' : Nat), cs = [.int .i64 d.p, .bool d.o, .slice A n c, .slice A' n' c'] ∧ n = d.cl.length ∧ n ≤ 9223372036854775807 ∧ IS w w.heap.size A d.cl ∧ n' = d.cx.length ∧ n' ≤ 9223372036854775807 ∧ IS w w.heap.size A' d.cx := by
  obtain ⟨xs, n, _, _, hl, hxl, hf⟩ := DataW.trod_struct Try.underlying49 h
  rw [cells_lawOwner] at hl
  match cs, hl with
  | [c0, c1, c2, c3], _ =>
    have hxl' : xs.length = 4 := hxl
    have h0 : DataW.trod enc Try.prog w base spare held n 3 (List.take (Try.prog.cellsOf 3) [c0, c1, c2, c3]) = xs[0]? := hf 0 _ rfl
    have h1 : DataW.trod enc Try.prog w base spare held n 4 (List.take (Try.prog.cellsOf 4) [c1, c2, c3]) = xs[1]? := hf 1 _ rfl
    have h2 : DataW.trod enc Try.prog w base spare held n 29 (List.take (Try.prog.cellsOf 29) [c2, c3]) = xs[2]? := hf 2 _ rfl
    have h3 : DataW.trod enc Try.prog w base spare held n 29 (List.take (Try.prog.cellsOf 29) [c3]) = xs[3]? := hf 3 _ rfl
    rw [cells_int, List.getElem?_eq_getElem (by omega)] at h0
    rw [cells_bool, List.getElem?_eq_getElem (by omega)] at h1
    rw [cells_intS, List.getElem?_eq_getElem (by omega)] at h2 h3
    obtain ⟨p, e, _⟩ := DataW.trod_int Try.underlying3 h0
    have e0 : c0 = .int .i64 p := by simpa using e
    obtain ⟨o, e, _⟩ := DataW.trod_bool Try.underlying4 h1
    have e1 : c1 = .bool o := by simpa using e
    obtain ⟨A, m, c, ys, e, g1, g2, g3⟩ := open_intS h2
    have e2 : c2 = .slice A m c := by simpa using e
    obtain ⟨A', m', c', zs, e, k1, k2, k3⟩ := open_intS h3
    have e3 : c3 = .slice A' m' c' := by simpa using e
    exact ⟨⟨p, o, ys, zs⟩, A, m, c, A', m', c', by rw [e0, e1, e2, e3], g1, g2, g3, k1, k2, k3⟩

set_option maxRecDepth 100000 in
theorem open_owners0 {fuel : Nat} {cs : List Value} {x : DataW H × List MemPlace} (h : DataW.trod enc Try.prog w base spare held fuel 22 cs = some x) :
    ∃ (A : Option Addr) (n c : Nat) (ds : List On), cs = [.slice A n c] ∧ n = ds.length ∧ n ≤ 9223372036854775807 ∧ (∀ j, (ds.getD j default).cl.length ≤ 9223372036854775807 ∧ (ds.getD j default).cx.length ≤ 9223372036854775807) ∧ OS w w.heap.size A ds := by
  rcases open_slice Try.underlying22 h with ⟨rfl, _⟩ | ⟨a, len, cap, m, n, D, Pl, rfl, hb, hl, hm, hmm, _, hi⟩
  · exact ⟨none, 0, 0, [], rfl, rfl, by omega, fun j => ⟨Nat.zero_le _, Nat.zero_le _⟩, OS.nil _ _ _⟩
  · have hlm : len ≤ m := by rw [hmm]; split <;> omega
    have hp : ∀ i, i < len → ∃ d : On, w.cell? (a.add (i * 4)) = some (.int .i64 d.p) ∧ w.cell? (a.add (i * 4 + 1)) = some (.bool d.o) ∧ (∃ A n c, w.cell? (a.add (i * 4 + 2)) = some (.slice A n c) ∧ n = d.cl.length ∧ n ≤ 9223372036854775807 ∧ IS w w.heap.size A d.cl) ∧ ∃ A n c, w.cell? (a.add (i * 4 + 3)) = some (.slice A n c) ∧ n = d.cx.length ∧ n ≤ 9223372036854775807 ∧ IS w w.heap.size A d.cx := by
      intro i hlt
      obtain ⟨cs', hc, ht⟩ := hi i (by omega)
      obtain ⟨d, A, n, c, A', n', c', rfl, h1, h2, h3, h4, h5, h6⟩ := owner_cells ht
      rw [cells_lawOwner] at hc
      obtain ⟨_, _, hat⟩ := World.cells?_some hc
      have a0 := hat 0 (by simp)
      have a1 := hat 1 (by simp)
      have a2 := hat 2 (by simp)
      have a3 := hat 3 (by simp)
      rw [add_add'] at a0 a1 a2 a3
      exact ⟨d, a0, a1, ⟨A, n, c, a2, h1, h2, h3⟩, A', n', c', a3, h4, h5, h6⟩
    obtain ⟨ds, hlen, hds⟩ := choose_list _ len hp
    refine ⟨some a, len, cap, ds, rfl, hlen.symm, by unfold maxLen at hm; omega, fun j => ?_, fun hn => ?_⟩
    · by_cases hj : j < len
      · obtain ⟨_, _, ⟨A, n, c, _, h1, h2, _⟩, A', n', c', _, h3, h4, _⟩ := hds j hj
        omega
      · rw [show ds.getD j default = default by simp [List.getD, List.getElem?_eq_none (show ds.length ≤ j by omega)]]
        exact ⟨Nat.zero_le _, Nat.zero_le _⟩
    · obtain ⟨h0, _⟩ := hds 0 (by omega)
      obtain ⟨b, off, spot⟩ := a
      have h1 : w.cell? ⟨b, off, spot⟩ = some (.int .i64 (ds.getD 0 default).p) := by simpa [Addr.add] using h0
      have hspot : spot = none := World.cell?_spot h1
      subst hspot
      refine ⟨b, off, rfl, World.block_lt_of_cell? w _ h1, fun j hj => ?_⟩
      obtain ⟨g0, g1, ⟨A, n, c, g2, g3, _, g4⟩, A', n', c', g5, g6, _, g7⟩ := hds j (by omega)
      rw [add_of] at g0 g1 g2 g5
      exact ⟨g0, g1, ⟨A, n, c, g2, g3, g4⟩, A', n', c', g5, g6, g7⟩

set_option maxRecDepth 100000 in
theorem open_owners {r : Reach} {b0 : Nat} {v : Value} {d : DataW H} {p : List MemPlace} (hv : Value.okWide Try.prog w r b0 22 v) (h : DataW.Trod enc Try.prog w base spare held 22 v d p) :
    ∃ (A : Option Addr) (n c : Nat) (ds : List On), v = .slice A n c ∧ n = ds.length ∧ n ≤ 9223372036854775807 ∧ (∀ j, (ds.getD j default).cl.length ≤ 9223372036854775807 ∧ (ds.getD j default).cx.length ≤ 9223372036854775807) ∧ OS w w.heap.size A ds := by
  obtain ⟨a0, len0, cap0, rfl⟩ := okWide_slice Try.underlying22 hv
  obtain ⟨fuel, hf⟩ := h
  obtain ⟨A, n, c, ps, hcs, h1, h2, h3, h4⟩ := open_owners0 hf
  have e : Value.slice a0 len0 cap0 = .slice A n c := by simpa [Value.cells] using hcs
  exact ⟨A, n, c, ps, e, h1, h2, h3, h4⟩
end
end Go.Proofs.Ytdcfmoaomlfijaa
