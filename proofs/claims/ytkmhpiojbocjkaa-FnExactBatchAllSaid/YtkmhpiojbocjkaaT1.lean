/- The standing contracts of ValidGraph. -/
import Derived.Test.YtkmhpiojbocjkaaG6
import Derived.Test.YtkmhpiojbocjkaaG7
namespace Go.Proofs.Ytkmhpiojbocjkaa
set_option linter.unusedSimpArgs false
set_option linter.unusedVariables false
open Go.RowKit

theorem top_impl_ValidGraph (gs : List Nd) (hG : GB gs) : ∀ (A : Option Addr) (n c : Nat) (w : World), n = gs.length → n ≤ c → GS w w.heap.size A gs →
    Calls Try.prog 25 #[.agg #[.slice A n c]] w fun e w' => e = .returned (.bool (validG gs)) ∧ Below w.heap.size w w' :=
  fun A n c w hn hc h => impl_ValidGraph A n c gs w w.heap.size (Nat.le_refl _) hn h hG hc
end Go.Proofs.Ytkmhpiojbocjkaa
