/- laws.FnApplyPatch returns true for all bytes, and writes nothing that was there. (Made by genpl.py.) -/
import Derived.Test.YtlbomopjldhmeaaB11a
import Derived.BigQuiet
import Derived.Deep.QuietTactic
import Derived.Test.YtlbomopjldhmeaaKD9
import Derived.Test.YtlbomopjldhmeaaM34
import Derived.Test.YtlbomopjldhmeaaK20

namespace Go.Proofs.Ytlbomopjldhmeaa
set_option linter.unusedSimpArgs false
set_option linter.unusedVariables false
open Go.RowKit

theorem CS.tail3 {w : World} {B b off : Nat} {ps : List Ac} (h : CS w B (some ⟨b, off, none⟩) ps) (k : Nat) : CS w B (some ⟨b, off + k * 3, none⟩) (ps.drop k) := by
  intro hl
  rw [List.length_drop] at hl
  obtain ⟨b', off', e, hb, hc⟩ := h (by omega)
  cases e
  refine ⟨b, off + k * 3, rfl, hb, fun j hj => ?_⟩
  rw [List.length_drop] at hj
  obtain ⟨c0, c1, c2⟩ := hc (k + j) (by omega)
  have e1 : (ps.drop k).getD j default = ps.getD (k + j) default := by simp [List.getD, List.getElem?_drop]
  rw [e1, show off + k * 3 + j * 3 = off + (k + j) * 3 by omega]
  exact ⟨c0, c1, c2⟩

set_option maxRecDepth 100000 in
set_option maxHeartbeats 6400000 in
theorem plaw_ApplyPatch (A : Option Addr) (n c : Nat) (bs : List Int) (w : World) (hn : n = bs.length) (hnc : n ≤ c) (h : BS w w.heap.size A bs) (hy : BY bs) (hm : n ≤ 9223372036854775807) :
    Calls Try.prog 5 #[.slice A n c] w fun e w' => e = .returned (.bool true) ∧ Below w.heap.size w w' := by
  by_cases hs : 1048576 < n
  · clear hn hnc h hy
    go_enter Try.func5, Try.ntmps5
    go_wp2
    go_ret
    exact ⟨rfl, Below.refl _ _⟩
  have HC := Lib.hid (spec_DrawApplyPatch A n c bs w hn hnc h hy (by omega))
  clear hn hnc h hy
  go_enter Try.func5, Try.ntmps5
  go_wp2_with fail
  refine HC.out.mono ?_
  rintro e w1 ⟨A1, n1, c1, xs, A2, n2, c2, ac, rfl, h1, hn11, hnc1, h4, hn21, hnc2, hI1, hI2, hb⟩
  have HN1 := Lib.hid h1
  have HM1 := Lib.hid h4
  have P_1 := Lib.hid (hI1)
  have I_1 := Lib.hid (hI2)
  have B_1 := Lib.hid (hb)
  clear h1 h4 hI1 hI2 hb HC
  have HIM := Lib.hid fun (w' : World) (h : IS w' w'.heap.size A1 xs) (h' : CS w' w'.heap.size A2 ac) => top_impl_ApplyPatch xs ac (by have := HN1.out; omega) (by have := HM1.out; omega) A1 n1 c1 A2 n2 c2 w' HN1.out hnc1 h HM1.out hnc2 h'
  have HSP := Lib.hid fun (w' : World) (h : IS w' w'.heap.size A1 xs) (h' : CS w' w'.heap.size A2 ac) => top_spec_ApplyPatch xs ac (by have := HN1.out; omega) (by have := HM1.out; omega) A1 n1 c1 A2 n2 c2 w' HN1.out hnc1 h HM1.out hnc2 h'
  have hrl := applyF_len xs ac
  have HB0 : Hid (∀ b, applyB xs ac = b → b = applyB xs ac) := fun _ h => h.symm
  generalize hF : applyF xs ac = R at *
  generalize hB : applyB xs ac = ok at *
  have HFE := Lib.hid hF
  have HBE := Lib.hid hB
  clear HB0 hF hB
  go_wp2_with fail
  refine (HIM.out w1 P_1.out I_1.out).mono ?_
  rintro e w2 ⟨v, rfl, ho, hb⟩
  obtain ⟨A3, c3, rfl⟩ := own_form ho
  have hI9 := IS.of_own ho
  have hnc9 := own_ncap ho
  have P_2 := Lib.hid (P_1.out.step hb)
  clear P_1
  have I_2 := Lib.hid (I_1.out.step hb)
  clear I_1
  have B_2 := Lib.hid (B_1.out.trans (hb.mono B_1.out.size))
  clear B_1
  clear hb
  obtain ⟨rl, hrl2⟩ : ∃ l, l = R.length := ⟨_, rfl⟩
  have HRL := Lib.hid hrl2
  have R_2 := Lib.hid (hI9)
  rw [← hrl2] at hrl hnc9
  rw [← hrl2]
  clear ho hI9 hrl2
  go_wp2_with fail
  refine (HSP.out w2 P_2.out I_2.out).mono ?_
  rintro e w3 ⟨v, rfl, ho, hb⟩
  obtain ⟨A4, c4, rfl⟩ := own_form ho
  have hI9 := IS.of_own ho
  have hnc8 := own_ncap ho
  have P_3 := Lib.hid (P_2.out.step hb)
  clear P_2
  have I_3 := Lib.hid (I_2.out.step hb)
  clear I_2
  have B_3 := Lib.hid (B_2.out.trans (hb.mono B_2.out.size))
  clear B_2
  have R_3 := Lib.hid (R_2.out.step hb)
  clear R_2
  clear hb
  clear hnc8
  rw [← HRL.out]
  have S_3 := Lib.hid (hI9)
  clear ho hI9
  have HEQ := Lib.hid (laws_equalInts A3 A4 rl rl c3 c4 R R w3 w3.heap.size (Nat.le_refl _) HRL.out HRL.out R_3.out S_3.out (by omega) (by omega))
  rw [show decide (R = R) = true from decide_eq_true rfl] at HEQ
  go_wp2_with fail
  refine (HEQ.out).mono ?_
  rintro e w4 ⟨rfl, hb⟩
  have P_4 := Lib.hid (P_3.out.step hb)
  clear P_3
  have I_4 := Lib.hid (I_3.out.step hb)
  clear I_3
  have B_4 := Lib.hid (B_3.out.trans (hb.mono B_3.out.size))
  clear B_3
  have R_4 := Lib.hid (R_3.out.step hb)
  clear R_3
  have S_4 := Lib.hid (S_3.out.step hb)
  clear S_3
  clear hb
  clear HEQ
  cases ok
  · skip
    have HEQ := Lib.hid (laws_equalInts A3 A4 rl rl c3 c4 R R w4 w4.heap.size (Nat.le_refl _) HRL.out HRL.out R_4.out S_4.out (by omega) (by omega))
    rw [show decide (R = R) = true from decide_eq_true rfl] at HEQ
    go_wp2_with fail
    refine (HEQ.out).mono ?_
    rintro e w5 ⟨rfl, hb⟩
    have P_5 := Lib.hid (P_4.out.step hb)
    clear P_4
    have I_5 := Lib.hid (I_4.out.step hb)
    clear I_4
    have B_5 := Lib.hid (B_4.out.trans (hb.mono B_4.out.size))
    clear B_4
    have R_5 := Lib.hid (R_4.out.step hb)
    clear R_4
    have S_5 := Lib.hid (S_4.out.step hb)
    clear S_4
    clear hb
    clear HEQ
    go_wp2
    go_ret
    exact ⟨rfl, B_5.out⟩
  by_cases hm0 : n2 = 0
  · have hR : R = xs := by rw [← HFE.out]; exact apply_nil HBE.out (by have := HM1.out; omega)
    subst hm0 hR
    have hln : rl = n1 := by have := HRL.out; have := HN1.out; omega
    subst hln
    have HEQ := Lib.hid (laws_equalInts A3 A1 _ _ c3 c1 _ _ w4 w4.heap.size (Nat.le_refl _) HRL.out HN1.out R_4.out P_4.out (by omega) (by omega))
    rw [decide_eq_true rfl] at HEQ
    go_wp2_with fail
    refine (HEQ.out).mono ?_
    rintro e w5 ⟨rfl, hb⟩
    have P_5 := Lib.hid (P_4.out.step hb)
    clear P_4
    have I_5 := Lib.hid (I_4.out.step hb)
    clear I_4
    have B_5 := Lib.hid (B_4.out.trans (hb.mono B_4.out.size))
    clear B_4
    have R_5 := Lib.hid (R_4.out.step hb)
    clear R_4
    have S_5 := Lib.hid (S_4.out.step hb)
    clear S_4
    clear hb
    go_wp2
    go_ret
    exact ⟨rfl, B_5.out⟩
  have em0 : ((n2 : Int) == 0) = false := by simp; omega
  obtain ⟨j, hj⟩ : ∃ j, n2 = j + 1 := ⟨n2 - 1, by omega⟩
  have HLA := Lib.hid (apply_last HBE.out j (by have := HM1.out; omega))
  have HAV := Lib.hid (apply_some HBE.out).2.2.2
  rw [HFE.out] at HLA HAV
  have HJ := Lib.hid hj
  have hj1 : j ≤ n2 := by omega
  have hj2 : j ≤ c2 := by omega
  have hj3 : ¬ c2 = j := by omega
  have hj4 : (j : Int) ≤ (n2 : Int) := by omega
  have hwj : IntKind.i64.wrap ((n2 : Int) - 1) = (j : Int) := by rw [IntKind.wrap_i64] <;> omega
  obtain ⟨b, off, hA2, -, -⟩ := I_4.out (by have := HM1.out; omega)
  subst hA2
  have HE := Lib.hid fun (w' : World) (h : IS w' w'.heap.size A1 xs) (h' : CS w' w'.heap.size (some ⟨b, off, none⟩) ac) => top_impl_ApplyPatch xs (ac.take j) (by have := HN1.out; omega) (by have := HM1.out; rw [List.length_take]; omega) A1 n1 c1 (some ⟨b, off, none⟩) j c2 w' HN1.out hnc1 h (by have := HM1.out; rw [List.length_take]; omega) hj2 (h'.take j (by have := HM1.out; omega))
  have hfl := applyF_len xs (ac.take j)
  have HL := Lib.hid fun (A5 : Option Addr) (n5 c5 : Nat) (w' : World) (h5 : n5 = (applyF xs (ac.take j)).length) (hc5 : n5 ≤ c5) (h : IS w' w'.heap.size A5 (applyF xs (ac.take j))) (h' : CS w' w'.heap.size (some ⟨b, off, none⟩) ac) => top_impl_ApplyPatch (applyF xs (ac.take j)) (ac.drop j) (by omega) (by have := HM1.out; rw [List.length_drop]; omega) A5 n5 c5 (some ⟨b, off + j * 3, none⟩) (n2 - j) (c2 - j) w' h5 hc5 h (by have := HM1.out; rw [List.length_drop]; omega) (by omega) (h'.tail3 j)
  clear hj hm0
  generalize applyF xs (ac.take j) = E at *
  generalize applyB xs (ac.take j) = p at *
  obtain ⟨hla1, hla2⟩ := HLA.out
  rw [hla1] at HL
  have HLQ := Lib.hid hla2
  clear hla1 hla2 HLA
  generalize applyF E (ac.drop j) = Q at *
  obtain ⟨el, hel⟩ : ∃ l, l = E.length := ⟨_, rfl⟩
  have HEL := Lib.hid hel
  rw [← hel] at hfl
  clear hel
  go_wp2_with fail
  refine (HE.out w4 P_4.out I_4.out).mono ?_
  rintro e w5 ⟨v, rfl, ho, hb⟩
  obtain ⟨A5, c5, rfl⟩ := own_form ho
  have hI9 := IS.of_own ho
  have hnc5 := own_ncap ho
  have P_5 := Lib.hid (P_4.out.step hb)
  clear P_4
  have I_5 := Lib.hid (I_4.out.step hb)
  clear I_4
  have B_5 := Lib.hid (B_4.out.trans (hb.mono B_4.out.size))
  clear B_4
  have R_5 := Lib.hid (R_4.out.step hb)
  clear R_4
  have S_5 := Lib.hid (S_4.out.step hb)
  clear S_4
  clear hb
  rw [← HEL.out] at hnc5 ⊢
  have E_5 := Lib.hid (hI9)
  clear ho hI9
  go_wp2_with fail
  refine (HL.out A5 el c5 w5 HEL.out hnc5 E_5.out I_5.out).mono ?_
  rintro e w6 ⟨v, rfl, ho, hb⟩
  obtain ⟨A6, c6, rfl⟩ := own_form ho
  have hI9 := IS.of_own ho
  have hnc6 := own_ncap ho
  have P_6 := Lib.hid (P_5.out.step hb)
  clear P_5
  have I_6 := Lib.hid (I_5.out.step hb)
  clear I_5
  have B_6 := Lib.hid (B_5.out.trans (hb.mono B_5.out.size))
  clear B_5
  have R_6 := Lib.hid (R_5.out.step hb)
  clear R_5
  have S_6 := Lib.hid (S_5.out.step hb)
  clear S_5
  have E_6 := Lib.hid (E_5.out.step hb)
  clear E_5
  clear hb
  have HVA := Lib.hid fun (w' : World) (h : IS w' w'.heap.size A3 R) => impl_ValidKeys A3 rl c3 R w' w'.heap.size (Nat.le_refl _) HRL.out hnc9 h (by omega)
  rw [HAV.out] at HVA
  cases p
  · clear ho hI9 hnc6
    go_wp2_with fail
    refine (HVA.out w6 R_6.out).mono ?_
    rintro e w7 ⟨rfl, hb⟩
    have P_7 := Lib.hid (P_6.out.step hb)
    clear P_6
    have I_7 := Lib.hid (I_6.out.step hb)
    clear I_6
    have B_7 := Lib.hid (B_6.out.trans (hb.mono B_6.out.size))
    clear B_6
    have R_7 := Lib.hid (R_6.out.step hb)
    clear R_6
    have S_7 := Lib.hid (S_6.out.step hb)
    clear S_6
    have E_7 := Lib.hid (E_6.out.step hb)
    clear E_6
    clear hb
    go_wp2
    go_ret
    exact ⟨rfl, B_7.out⟩
  have hqr := HLQ.out rfl
  subst hqr
  rw [← HRL.out]
  have HEQ := Lib.hid (laws_equalInts A6 A3 rl rl c6 c3 _ _ w6 w6.heap.size (Nat.le_refl _) HRL.out HRL.out hI9 R_6.out (by omega) (by omega))
  rw [decide_eq_true rfl] at HEQ
  clear ho hI9 hnc6
  go_wp2_with fail
  refine (HEQ.out).mono ?_
  rintro e w7 ⟨rfl, hb⟩
  have P_7 := Lib.hid (P_6.out.step hb)
  clear P_6
  have I_7 := Lib.hid (I_6.out.step hb)
  clear I_6
  have B_7 := Lib.hid (B_6.out.trans (hb.mono B_6.out.size))
  clear B_6
  have R_7 := Lib.hid (R_6.out.step hb)
  clear R_6
  have S_7 := Lib.hid (S_6.out.step hb)
  clear S_6
  have E_7 := Lib.hid (E_6.out.step hb)
  clear E_6
  clear hb
  go_wp2_with fail
  refine (HVA.out w7 R_7.out).mono ?_
  rintro e w8 ⟨rfl, hb⟩
  have P_8 := Lib.hid (P_7.out.step hb)
  clear P_7
  have I_8 := Lib.hid (I_7.out.step hb)
  clear I_7
  have B_8 := Lib.hid (B_7.out.trans (hb.mono B_7.out.size))
  clear B_7
  have R_8 := Lib.hid (R_7.out.step hb)
  clear R_7
  have S_8 := Lib.hid (S_7.out.step hb)
  clear S_7
  have E_8 := Lib.hid (E_7.out.step hb)
  clear E_7
  clear hb
  go_wp2
  go_ret
  exact ⟨rfl, B_8.out⟩
end Go.Proofs.Ytlbomopjldhmeaa
