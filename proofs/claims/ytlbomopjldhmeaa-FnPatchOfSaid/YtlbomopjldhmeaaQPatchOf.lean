/- laws.FnPatchOf returns true for all bytes, and writes nothing that was there. (Made by genpl.py.) -/
import Derived.Test.YtlbomopjldhmeaaB6a
import Derived.BigQuiet
import Derived.Deep.QuietTactic
import Derived.Test.YtlbomopjldhmeaaM33
import Derived.Test.YtlbomopjldhmeaaK20

namespace Go.Proofs.Ytlbomopjldhmeaa
set_option linter.unusedSimpArgs false
set_option linter.unusedVariables false
open Go.RowKit

set_option maxRecDepth 100000 in
set_option maxHeartbeats 6400000 in
theorem plaw_PatchOf (A : Option Addr) (n c : Nat) (bs : List Int) (w : World) (hn : n = bs.length) (hnc : n ≤ c) (h : BS w w.heap.size A bs) (hy : BY bs) (hm : n ≤ 9223372036854775807) :
    Calls Try.prog 4 #[.slice A n c] w fun e w' => e = .returned (.bool true) ∧ Below w.heap.size w w' := by
  by_cases hs : 1048576 < n
  · clear hn hnc h hy
    go_enter Try.func4, Try.ntmps4
    go_wp2
    go_ret
    exact ⟨rfl, Below.refl _ _⟩
  have HC := Lib.hid (spec_DrawPatchOf A n c bs w hn hnc h hy (by omega))
  clear hn hnc h hy
  go_enter Try.func4, Try.ntmps4
  go_wp2_with fail
  refine HC.out.mono ?_
  rintro e w1 ⟨A1, n1, c1, xs, A2, n2, c2, ys, rfl, h1, hn11, hnc1, h4, hn21, hnc2, hI1, hI2, hb⟩
  have HN1 := Lib.hid h1
  have HM1 := Lib.hid h4
  have P_1 := Lib.hid (hI1)
  have I_1 := Lib.hid (hI2)
  have B_1 := Lib.hid (hb)
  clear h1 h4 hI1 hI2 hb HC
  have HVA := Lib.hid fun (w' : World) (h : IS w' w'.heap.size A1 xs) => impl_ValidKeys A1 n1 c1 xs w' w'.heap.size (Nat.le_refl _) HN1.out hnc1 h (by omega)
  have HVB := Lib.hid fun (w' : World) (h : IS w' w'.heap.size A2 ys) => impl_ValidKeys A2 n2 c2 ys w' w'.heap.size (Nat.le_refl _) HM1.out hnc2 h (by omega)
  have HIM := Lib.hid fun (w' : World) (h : IS w' w'.heap.size A1 xs) (h' : IS w' w'.heap.size A2 ys) => top_impl_PatchOf xs ys (by have := HN1.out; omega) (by have := HM1.out; omega) A1 n1 c1 A2 n2 c2 w' HN1.out hnc1 h HM1.out hnc2 h'
  have HSP := Lib.hid fun (w' : World) (h : IS w' w'.heap.size A1 xs) (h' : IS w' w'.heap.size A2 ys) => top_spec_PatchOf xs ys (by have := HN1.out; omega) (by have := HM1.out; omega) A1 n1 c1 A2 n2 c2 w' HN1.out hnc1 h HM1.out hnc2 h'
  have hrl := patchF_len xs ys
  have HF := Lib.hid (patch_makes (xs := xs) (ys := ys))
  unfold bothK at HF
  generalize patchF xs ys = R at *
  generalize validK xs = va at *
  generalize validK ys = vb at *
  go_wp2_with fail
  refine (HIM.out w1 P_1.out I_1.out).mono ?_
  rintro e w2 ⟨v, rfl, ho, hb⟩
  obtain ⟨A3, c3, rfl⟩ := own_form ho
  have hI9 := CS.of_own ho
  have hnc9 := own_ncap ho
  have P_2 := Lib.hid (P_1.out.step hb)
  clear P_1
  have I_2 := Lib.hid (I_1.out.step hb)
  clear I_1
  have B_2 := Lib.hid (B_1.out.trans (hb.mono B_1.out.size))
  clear B_1
  clear hb
  obtain ⟨rl, hrl2⟩ : ∃ l, l = R.length := ⟨_, rfl⟩
  have HRL := Lib.hid hrl2
  have R_2 := Lib.hid (hI9)
  rw [← hrl2] at hrl hnc9
  rw [← hrl2]
  clear ho hI9
  clear hrl2
  go_wp2_with fail
  refine (HSP.out w2 P_2.out I_2.out).mono ?_
  rintro e w3 ⟨v, rfl, ho, hb⟩
  obtain ⟨A4, c4, rfl⟩ := own_form ho
  have hI9 := CS.of_own ho
  have hnc8 := own_ncap ho
  have P_3 := Lib.hid (P_2.out.step hb)
  clear P_2
  have I_3 := Lib.hid (I_2.out.step hb)
  clear I_2
  have B_3 := Lib.hid (B_2.out.trans (hb.mono B_2.out.size))
  clear B_2
  have R_3 := Lib.hid (R_2.out.step hb)
  clear R_2
  clear hb
  clear hnc8
  rw [← HRL.out]
  have HEQ := Lib.hid (laws_equalChanges A3 A4 rl c3 c4 R w3 w3.heap.size (Nat.le_refl _) HRL.out R_3.out hI9 (by omega))
  clear ho hI9
  go_wp2_with fail
  refine (HEQ.out).mono ?_
  rintro e w4 ⟨rfl, hb⟩
  have P_4 := Lib.hid (P_3.out.step hb)
  clear P_3
  have I_4 := Lib.hid (I_3.out.step hb)
  clear I_3
  have B_4 := Lib.hid (B_3.out.trans (hb.mono B_3.out.size))
  clear B_3
  have R_4 := Lib.hid (R_3.out.step hb)
  clear R_3
  clear hb
  clear HEQ
  go_wp2_with fail
  refine (HVA.out w4 P_4.out).mono ?_
  rintro e w5 ⟨rfl, hb⟩
  have P_5 := Lib.hid (P_4.out.step hb)
  clear P_4
  have I_5 := Lib.hid (I_4.out.step hb)
  clear I_4
  have B_5 := Lib.hid (B_4.out.trans (hb.mono B_4.out.size))
  clear B_4
  have R_5 := Lib.hid (R_4.out.step hb)
  clear R_4
  clear hb
  cases va
  · skip
    go_wp2_with fail
    refine (HSP.out w5 P_5.out I_5.out).mono ?_
    rintro e w6 ⟨v, rfl, ho, hb⟩
    obtain ⟨A4, c4, rfl⟩ := own_form ho
    have hI9 := CS.of_own ho
    have hnc8 := own_ncap ho
    have P_6 := Lib.hid (P_5.out.step hb)
    clear P_5
    have I_6 := Lib.hid (I_5.out.step hb)
    clear I_5
    have B_6 := Lib.hid (B_5.out.trans (hb.mono B_5.out.size))
    clear B_5
    have R_6 := Lib.hid (R_5.out.step hb)
    clear R_5
    clear hb
    clear hnc8
    rw [← HRL.out]
    have HEQ := Lib.hid (laws_equalChanges A3 A4 rl c3 c4 R w6 w6.heap.size (Nat.le_refl _) HRL.out R_6.out hI9 (by omega))
    clear ho hI9
    go_wp2_with fail
    refine (HEQ.out).mono ?_
    rintro e w7 ⟨rfl, hb⟩
    have P_7 := Lib.hid (P_6.out.step hb)
    clear P_6
    have I_7 := Lib.hid (I_6.out.step hb)
    clear I_6
    have B_7 := Lib.hid (B_6.out.trans (hb.mono B_6.out.size))
    clear B_6
    have R_7 := Lib.hid (R_6.out.step hb)
    clear R_6
    clear hb
    clear HEQ
    go_wp2
    go_ret
    exact ⟨rfl, B_7.out⟩
  go_wp2_with fail
  refine (HVB.out w5 I_5.out).mono ?_
  rintro e w6 ⟨rfl, hb⟩
  have P_6 := Lib.hid (P_5.out.step hb)
  clear P_5
  have I_6 := Lib.hid (I_5.out.step hb)
  clear I_5
  have B_6 := Lib.hid (B_5.out.trans (hb.mono B_5.out.size))
  clear B_5
  have R_6 := Lib.hid (R_5.out.step hb)
  clear R_5
  clear hb
  cases vb
  · skip
    go_wp2_with fail
    refine (HSP.out w6 P_6.out I_6.out).mono ?_
    rintro e w7 ⟨v, rfl, ho, hb⟩
    obtain ⟨A4, c4, rfl⟩ := own_form ho
    have hI9 := CS.of_own ho
    have hnc8 := own_ncap ho
    have P_7 := Lib.hid (P_6.out.step hb)
    clear P_6
    have I_7 := Lib.hid (I_6.out.step hb)
    clear I_6
    have B_7 := Lib.hid (B_6.out.trans (hb.mono B_6.out.size))
    clear B_6
    have R_7 := Lib.hid (R_6.out.step hb)
    clear R_6
    clear hb
    clear hnc8
    rw [← HRL.out]
    have HEQ := Lib.hid (laws_equalChanges A3 A4 rl c3 c4 R w7 w7.heap.size (Nat.le_refl _) HRL.out R_7.out hI9 (by omega))
    clear ho hI9
    go_wp2_with fail
    refine (HEQ.out).mono ?_
    rintro e w8 ⟨rfl, hb⟩
    have P_8 := Lib.hid (P_7.out.step hb)
    clear P_7
    have I_8 := Lib.hid (I_7.out.step hb)
    clear I_7
    have B_8 := Lib.hid (B_7.out.trans (hb.mono B_7.out.size))
    clear B_7
    have R_8 := Lib.hid (R_7.out.step hb)
    clear R_7
    clear hb
    clear HEQ
    go_wp2
    go_ret
    exact ⟨rfl, B_8.out⟩
  have HAP := Lib.hid fun (w' : World) (h : IS w' w'.heap.size A1 xs) (h' : CS w' w'.heap.size A3 R) => top_impl_ApplyPatch xs R (by have := HN1.out; omega) (by have := HRL.out; omega) A1 n1 c1 A3 rl c3 w' HN1.out hnc1 h HRL.out hnc9 h'
  obtain ⟨hf1, hf2⟩ := HF.out rfl
  rw [hf1, hf2] at HAP
  clear HF hf1 hf2
  go_wp2_with fail
  refine (HAP.out w6 P_6.out R_6.out).mono ?_
  rintro e w7 ⟨v, rfl, ho, hb⟩
  obtain ⟨A5, c5, rfl, hI9⟩ := OwnI.form ho
  have P_7 := Lib.hid (P_6.out.step hb)
  clear P_6
  have I_7 := Lib.hid (I_6.out.step hb)
  clear I_6
  have B_7 := Lib.hid (B_6.out.trans (hb.mono B_6.out.size))
  clear B_6
  have R_7 := Lib.hid (R_6.out.step hb)
  clear R_6
  clear hb
  rw [← HM1.out]
  have HEQ := Lib.hid (laws_equalInts A5 A2 n2 n2 c5 c2 ys ys w7 w7.heap.size (Nat.le_refl _) HM1.out HM1.out hI9 I_7.out (by omega) (by omega))
  rw [show decide (ys = ys) = true from decide_eq_true rfl] at HEQ
  clear ho hI9
  go_wp2_with fail
  refine (HEQ.out).mono ?_
  rintro e w8 ⟨rfl, hb⟩
  have P_8 := Lib.hid (P_7.out.step hb)
  clear P_7
  have I_8 := Lib.hid (I_7.out.step hb)
  clear I_7
  have B_8 := Lib.hid (B_7.out.trans (hb.mono B_7.out.size))
  clear B_7
  have R_8 := Lib.hid (R_7.out.step hb)
  clear R_7
  clear hb
  go_wp2
  go_ret
  exact ⟨rfl, B_8.out⟩
end Go.Proofs.Ytlbomopjldhmeaa
