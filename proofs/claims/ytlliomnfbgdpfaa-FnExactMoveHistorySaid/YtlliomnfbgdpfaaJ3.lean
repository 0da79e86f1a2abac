/- How the laws' arguments open: a history. -/
import Derived.Test.YtlliomnfbgdpfaaS9
import Derived.Test.YtlliomnfbgdpfaaJ1

namespace Go.Proofs.Ytlliomnfbgdpfaa
set_option linter.unusedSimpArgs false
set_option linter.unusedVariables false
open Go.ChangeShapes Go.WideShapes Go.ChangeAt Go.RowKit Go.Deep

theorem cells_lawHistory : Try.prog.cellsOf 27 = 2 := by kernel_rfl
section
variable {H : Type} {enc : TypeId × Value → H} {w : World} {base : Nat} {spare : Nat → Bool} {held : Bool}
set_option maxRecDepth 100000 in
theorem open_hist {r : Reach} {b0 : Nat} {v : Value} {d : DataW H} {p : List MemPlace} (hv : Value.okWide Try.prog w r b0 27 v) (h : DataW.Trod enc Try.prog w base spare held 27 v d p) :
    ∃ (A : Option Addr) (n c : Nat) (st : Hi), v = .agg #[.slice A n c, .int .i64 st.ix] ∧ n = st.ss.length ∧ n ≤ 9223372036854775807 ∧ (∀ j, (st.ss.getD j []).length ≤ 9223372036854775807) ∧ HiS w w.heap.size A st := by
  obtain ⟨cs, rfl, hsz⟩ := okWide_struct Try.underlying27 hv
  obtain ⟨fuel, hf⟩ := h
  obtain ⟨xs, n, _, _, hl, hxl, hg⟩ := DataW.trod_struct Try.underlying27 hf
  obtain ⟨l⟩ := cs
  have hll : l.length = 2 := by rw [cells_lawHistory] at hsz; simpa using hsz
  match l, hll with
  | [c0, c1], _ =>
    have hxl' : xs.length = 2 := hxl
    have h0 : DataW.trod enc Try.prog w base spare held n 25 (List.take (Try.prog.cellsOf 25) [c0, c1]) = xs[0]? := hg 0 _ rfl
    have h1 : DataW.trod enc Try.prog w base spare held n 3 (List.take (Try.prog.cellsOf 3) [c1]) = xs[1]? := hg 1 _ rfl
    rw [cells_intSS, List.getElem?_eq_getElem (by omega)] at h0
    rw [cells_int, List.getElem?_eq_getElem (by omega)] at h1
    obtain ⟨E, n2, k2, zss, e1, b1, b2, b3, b4⟩ := open_intSS h0
    obtain ⟨x, hx, _, _⟩ := DataW.trod_int Try.underlying3 h1
    have e0' : c0 = .slice E n2 k2 := by simpa using e1
    have e1' : c1 = .int .i64 x := by simpa using hx
    subst e0' e1'
    exact ⟨E, n2, k2, ⟨zss, x⟩, rfl, b1, b2, b3, b4⟩
end

theorem lit_bd {x : Int} (h : (Lit.int .i64 x).wf = true) : -9223372036854775808 ≤ x ∧ x ≤ 9223372036854775807 := by
  simp only [Lit.wf, Bool.and_eq_true, decide_eq_true_eq] at h
  have h1 : IntKind.i64.min = -9223372036854775808 := by decide
  have h2 : IntKind.i64.max = 9223372036854775807 := by decide
  rw [h1, h2] at h
  exact h
end Go.Proofs.Ytlliomnfbgdpfaa
