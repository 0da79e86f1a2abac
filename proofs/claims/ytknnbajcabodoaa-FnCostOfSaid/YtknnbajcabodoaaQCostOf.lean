/- laws.FnCostOf returns true for all bytes, and writes nothing that was there. (Made by genpl.py.) -/
import Derived.Test.YtknnbajcabodoaaKD5
import Derived.Test.YtknnbajcabodoaaQ5
import Derived.Test.YtknnbajcabodoaaM22
import Derived.BigQuiet
import Derived.Deep.QuietTactic
import Derived.Test.YtknnbajcabodoaaKD6
import Derived.Test.YtknnbajcabodoaaM23

namespace Go.Proofs.Ytknnbajcabodoaa
set_option linter.unusedSimpArgs false
set_option linter.unusedVariables false
open Go.RowKit

theorem costF_neg {xs ys : List Int} (h : ¬ costF xs ys < 0) : validK xs = true ∧ validK ys = true := by
  unfold costF at h
  split at h
  · rename_i hb; exact bothK_parts _ _ hb
  · omega
theorem costF_facts {xs ys : List Int} (h1 : validK xs = true) (h2 : validK ys = true) : costF xs ys = ((patchF xs ys).length : Int) ∧ costF ys xs = costF xs ys ∧ (costF xs ys == 0) = decide (xs = ys) := by
  have hb : bothK xs ys = true := by unfold bothK; rw [h1, h2]; rfl
  have hb2 : bothK ys xs = true := by unfold bothK; rw [h1, h2]; rfl
  have hx := (validK_parts h1).2.2
  have hy := (validK_parts h2).2.2
  unfold costF patchF
  rw [if_pos hb, if_pos hb2, if_pos hb, patchK_symm xs ys hx hy]
  refine ⟨rfl, rfl, ?_⟩
  have := cost_zero xs ys hx hy
  rw [Bool.eq_iff_iff, decide_eq_true_iff, ← this]
  simp

set_option maxRecDepth 100000 in
set_option maxHeartbeats 6400000 in
theorem plaw_CostOf (A : Option Addr) (n c : Nat) (bs : List Int) (w : World) (hn : n = bs.length) (hnc : n ≤ c) (h : BS w w.heap.size A bs) (hy : BY bs) (hm : n ≤ 9223372036854775807) :
    Calls Try.prog 7 #[.slice A n c] w fun e w' => e = .returned (.bool true) ∧ Below w.heap.size w w' := by
  by_cases hs : 1048576 < n
  · clear hn hnc h hy
    go_enter Try.func7, Try.ntmps7
    go_wp2
    go_ret
    exact ⟨rfl, Below.refl _ _⟩
  have HC := Lib.hid (spec_DrawCostOf A n c bs w hn hnc h hy (by omega))
  clear hn hnc h hy
  go_enter Try.func7, Try.ntmps7
  go_wp2_with fail
  refine HC.out.mono ?_
  rintro e w1 ⟨A1, n1, c1, xs, A2, n2, c2, ys, rfl, h1, hn11, hnc1, h4, hn21, hnc2, hI1, hI2, hb⟩
  have HN1 := Lib.hid h1
  have HM1 := Lib.hid h4
  have P_1 := Lib.hid (hI1)
  have I_1 := Lib.hid (hI2)
  have B_1 := Lib.hid (hb)
  clear h1 h4 hI1 hI2 hb HC
  have HVA := Lib.hid fun (w' : World) (h : IS w' w'.heap.size A1 xs) => impl_ValidKeys A1 n1 c1 xs w' w'.heap.size (Nat.le_refl _) HN1.out hnc1 h (by omega)
  have HVB := Lib.hid fun (w' : World) (h : IS w' w'.heap.size A2 ys) => impl_ValidKeys A2 n2 c2 ys w' w'.heap.size (Nat.le_refl _) HM1.out hnc2 h (by omega)
  have HIM := Lib.hid fun (w' : World) (h : IS w' w'.heap.size A1 xs) (h' : IS w' w'.heap.size A2 ys) => top_impl_CostOf xs ys (by have := HN1.out; omega) (by have := HM1.out; omega) A1 n1 c1 A2 n2 c2 w' HN1.out hnc1 h HM1.out hnc2 h'
  have HSP := Lib.hid fun (w' : World) (h : IS w' w'.heap.size A1 xs) (h' : IS w' w'.heap.size A2 ys) => top_spec_CostOf xs ys (by have := HN1.out; omega) (by have := HM1.out; omega) A1 n1 c1 A2 n2 c2 w' HN1.out hnc1 h HM1.out hnc2 h'
  have HBA := Lib.hid fun (w' : World) (h : IS w' w'.heap.size A1 xs) (h' : IS w' w'.heap.size A2 ys) => top_impl_CostOf ys xs (by have := HM1.out; omega) (by have := HN1.out; omega) A2 n2 c2 A1 n1 c1 w' HM1.out hnc2 h' HN1.out hnc1 h
  have HPA := Lib.hid fun (w' : World) (h : IS w' w'.heap.size A1 xs) (h' : IS w' w'.heap.size A2 ys) => top_impl_PatchOf xs ys (by have := HN1.out; omega) (by have := HM1.out; omega) A1 n1 c1 A2 n2 c2 w' HN1.out hnc1 h HM1.out hnc2 h'
  have HN_ := Lib.hid (costF_neg (xs := xs) (ys := ys))
  have HF := Lib.hid (costF_facts (xs := xs) (ys := ys))
  generalize costF ys xs = F2 at *
  generalize costF xs ys = F at *
  have hff : (F != F) = false := by simp
  by_cases hneg : F < 0
  · skip
    go_wp2_with fail
    refine (HIM.out w1 P_1.out I_1.out).mono ?_
    rintro e w2 ⟨rfl, hb⟩
    have P_2 := Lib.hid (P_1.out.step hb)
    clear P_1
    have I_2 := Lib.hid (I_1.out.step hb)
    clear I_1
    have B_2 := Lib.hid (B_1.out.trans (hb.mono B_1.out.size))
    clear B_1
    clear hb
    go_wp2_with fail
    refine (HSP.out w2 P_2.out I_2.out).mono ?_
    rintro e w3 ⟨rfl, hb⟩
    have P_3 := Lib.hid (P_2.out.step hb)
    clear P_2
    have I_3 := Lib.hid (I_2.out.step hb)
    clear I_2
    have B_3 := Lib.hid (B_2.out.trans (hb.mono B_2.out.size))
    clear B_2
    clear hb
    go_wp2_with fail
    refine (HSP.out w3 P_3.out I_3.out).mono ?_
    rintro e w4 ⟨rfl, hb⟩
    have P_4 := Lib.hid (P_3.out.step hb)
    clear P_3
    have I_4 := Lib.hid (I_3.out.step hb)
    clear I_3
    have B_4 := Lib.hid (B_3.out.trans (hb.mono B_3.out.size))
    clear B_3
    clear hb
    go_wp2
    go_ret
    exact ⟨ret_b (by simp), B_4.out⟩
  obtain ⟨hva, hvb⟩ := HN_.out hneg
  obtain ⟨hf1, hf2, hf3⟩ := HF.out hva hvb
  subst hf2
  generalize patchF xs ys = R at *
  obtain ⟨rl, hrl2⟩ : ∃ l, l = R.length := ⟨_, rfl⟩
  rw [← hrl2] at hf1
  have HF1 := Lib.hid hf1
  have HF3 := Lib.hid hf3
  have HRL := Lib.hid hrl2
  have hfr : (F2 == (rl : Int)) = true := by rw [hf1]; simp
  clear HF HN_ hva hvb hf1 hf3 hrl2
  go_wp2_with fail
  refine (HIM.out w1 P_1.out I_1.out).mono ?_
  rintro e w2 ⟨rfl, hb⟩
  have P_2 := Lib.hid (P_1.out.step hb)
  clear P_1
  have I_2 := Lib.hid (I_1.out.step hb)
  clear I_1
  have B_2 := Lib.hid (B_1.out.trans (hb.mono B_1.out.size))
  clear B_1
  clear hb
  go_wp2_with fail
  refine (HSP.out w2 P_2.out I_2.out).mono ?_
  rintro e w3 ⟨rfl, hb⟩
  have P_3 := Lib.hid (P_2.out.step hb)
  clear P_2
  have I_3 := Lib.hid (I_2.out.step hb)
  clear I_2
  have B_3 := Lib.hid (B_2.out.trans (hb.mono B_2.out.size))
  clear B_2
  clear hb
  go_wp2_with fail
  refine (HPA.out w3 P_3.out I_3.out).mono ?_
  rintro e w4 ⟨v, rfl, ho, hb⟩
  obtain ⟨A3, c3, rfl⟩ := own_form ho
  rw [← HRL.out]
  clear ho
  have P_4 := Lib.hid (P_3.out.step hb)
  clear P_3
  have I_4 := Lib.hid (I_3.out.step hb)
  clear I_3
  have B_4 := Lib.hid (B_3.out.trans (hb.mono B_3.out.size))
  clear B_3
  clear hb
  go_wp2_with fail
  refine (HBA.out w4 P_4.out I_4.out).mono ?_
  rintro e w5 ⟨rfl, hb⟩
  have P_5 := Lib.hid (P_4.out.step hb)
  clear P_4
  have I_5 := Lib.hid (I_4.out.step hb)
  clear I_4
  have B_5 := Lib.hid (B_4.out.trans (hb.mono B_4.out.size))
  clear B_4
  clear hb
  have hgg : (F2 == F2) = true := by simp
  have HEQ := Lib.hid (laws_equalInts A1 A2 n1 n2 c1 c2 xs ys w5 w5.heap.size (Nat.le_refl _) HN1.out HM1.out P_5.out I_5.out (by omega) (by omega))
  rw [← HF3.out] at HEQ
  go_wp2_with fail
  refine (HEQ.out).mono ?_
  rintro e w6 ⟨rfl, hb⟩
  have P_6 := Lib.hid (P_5.out.step hb)
  clear P_5
  have I_6 := Lib.hid (I_5.out.step hb)
  clear I_5
  have B_6 := Lib.hid (B_5.out.trans (hb.mono B_5.out.size))
  clear B_5
  clear hb
  clear HEQ
  go_wp2
  go_ret
  exact ⟨ret_b (by simp), B_6.out⟩
end Go.Proofs.Ytknnbajcabodoaa
