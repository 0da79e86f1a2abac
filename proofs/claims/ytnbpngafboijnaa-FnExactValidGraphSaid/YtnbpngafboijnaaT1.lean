/- The standing contracts of ValidGraph. -/
import Derived.Test.YtnbpngafboijnaaG6
import Derived.Test.YtnbpngafboijnaaG7
namespace Go.Proofs.Ytnbpngafboijnaa
set_option linter.unusedSimpArgs false
set_option linter.unusedVariables false
open Go.RowKit

set_option maxHeartbeats 800000 in
theorem top_spec_ValidGraph (gs : List Nd) (hG : GB gs) : ∀ (A : Option Addr) (n c : Nat) (w : World), n = gs.length → n ≤ c → GS w w.heap.size A gs →
    Calls Try.prog 23 #[.agg #[.slice A n c]] w fun e w' => e = .returned (.bool (validG gs)) ∧ Below w.heap.size w w' := by
  intro A n c w hn _ h
  have H := Lib.hid h
  have HC := Lib.hid fun (w' : World) (hB : w.heap.size ≤ w'.heap.size) (h : GS w' w.heap.size A gs) => spec_validGraph A n c gs w' w.heap.size hB hn h hG
  generalize validG gs = r at *
  clear h hn
  go_enter Try.func23, Try.ntmps23
  go_wp2_with fail
  refine (HC.out _ (by simp) (H.out.alloc (Nat.le_refl _) _)).mono ?_
  rintro e w1 ⟨rfl, hb⟩
  go_wp2
  go_ret
  exact ⟨rfl, ((Below.refl _ _).alloc (Nat.le_refl _) _).trans (hb.mono (by simp))⟩

theorem top_impl_ValidGraph (gs : List Nd) (hG : GB gs) : ∀ (A : Option Addr) (n c : Nat) (w : World), n = gs.length → n ≤ c → GS w w.heap.size A gs →
    Calls Try.prog 25 #[.agg #[.slice A n c]] w fun e w' => e = .returned (.bool (validG gs)) ∧ Below w.heap.size w w' :=
  fun A n c w hn hc h => impl_ValidGraph A n c gs w w.heap.size (Nat.le_refl _) hn h hG hc
end Go.Proofs.Ytnbpngafboijnaa
