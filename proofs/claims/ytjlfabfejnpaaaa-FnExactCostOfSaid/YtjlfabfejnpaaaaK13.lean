/- PatchOf, CostOf: the program's standing contracts. -/
import Derived.Test.YtjlfabfejnpaaaaS20
import Derived.Test.YtjlfabfejnpaaaaK12

namespace Go.Proofs.Ytjlfabfejnpaaaa
set_option linter.unusedSimpArgs false
set_option linter.unusedVariables false
open Go.RowKit

theorem top_impl_PatchOf (xs ys : List Int) (hL : xs.length ≤ 1048576) (hL2 : ys.length ≤ 1048576) : ∀ (A : Option Addr) (n c : Nat) (A' : Option Addr) (m c' : Nat) (w : World), n = xs.length → n ≤ c → IS w w.heap.size A xs → m = ys.length → m ≤ c' → IS w w.heap.size A' ys →
    Calls Try.prog 24 #[.slice A n c, .slice A' m c'] w fun e w' => RetC w (patchF xs ys) e w' :=
  fun A n c A' m c' w hn hnc h hm hmc h' => impl_PatchOf A A' n c m c' xs ys w hn hnc hm hmc h h' (by omega) (by omega)

set_option maxHeartbeats 1600000 in
theorem top_impl_CostOf (xs ys : List Int) (hL : xs.length ≤ 1048576) (hL2 : ys.length ≤ 1048576) : ∀ (A : Option Addr) (n c : Nat) (A' : Option Addr) (m c' : Nat) (w : World), n = xs.length → n ≤ c → IS w w.heap.size A xs → m = ys.length → m ≤ c' → IS w w.heap.size A' ys →
    Calls Try.prog 40 #[.slice A n c, .slice A' m c'] w fun e w' => e = .returned (.int .i64 (costF xs ys)) ∧ Below w.heap.size w w' := by
  intro A n c A' m c' w hn hnc h hm hmc h'
  have HC := Lib.hid (impl_areBothKeys A A' n c m c' xs ys w w.heap.size (Nat.le_refl _) hn hnc hm hmc h h' (by omega) (by omega))
  have HD := Lib.hid fun (w' : World) (hb : Below w.heap.size w w') => impl_PatchOf A A' n c m c' xs ys w' hn hnc hm hmc ((h.below hb (Nat.le_refl _)).more hb.size) ((h'.below hb (Nat.le_refl _)).more hb.size) (by omega) (by omega)
  have hcf : costF xs ys = if bothK xs ys then ((patchF xs ys).length : Int) else -1 := by
    unfold costF patchF
    cases bothK xs ys <;> rfl
  have hpl := patchF_len xs ys
  rw [hcf]
  generalize patchF xs ys = F at *
  obtain ⟨l, hl⟩ : ∃ l : Nat, l = F.length := ⟨_, rfl⟩
  have hl1 : l ≤ 20 := by omega
  have HL := Lib.hid hl
  generalize bothK xs ys = r at *
  clear hpl hl hcf hn hnc h hm hmc h' hL hL2
  cases r
  · simp only [Bool.false_eq_true, if_false]
    go_enter Try.func40, Try.ntmps40
    go_wp2_with fail
    refine HC.out.mono ?_
    rintro e w1 ⟨rfl, hb⟩
    go_wp2
    go_ret
    exact ⟨rfl, hb⟩
  · simp only [if_true]
    go_enter Try.func40, Try.ntmps40
    go_wp2_with fail
    refine HC.out.mono ?_
    rintro e w1 ⟨rfl, hb3⟩
    go_wp2_with fail
    refine (HD.out _ hb3).mono ?_
    rintro e w4 ⟨v, rfl, ho, hb6⟩
    unfold OwnC at ho
    rw [← HL.out] at ho
    obtain ⟨A3, c3, rfl⟩ := own_form ho
    clear ho
    go_wp2
    go_ret
    exact ⟨ret_i (by rw [← HL.out]), hb3.trans (hb6.mono hb3.size)⟩
end Go.Proofs.Ytjlfabfejnpaaaa
