/- laws.FnStaysOf returns true for all bytes, and writes nothing that was there. (Made by genpl.py.) -/
import Derived.Test.YtknnbajcabodoaaKD5
import Derived.Test.YtknnbajcabodoaaQ6
import Derived.Test.YtknnbajcabodoaaM22
import Derived.BigQuiet
import Derived.Deep.QuietTactic

namespace Go.Proofs.Ytknnbajcabodoaa
set_option linter.unusedSimpArgs false
set_option linter.unusedVariables false
open Go.RowKit

theorem staysF_facts {xs ys : List Int} (h : bothK xs ys = true) : (∀ j, j + 1 < (staysF xs ys).length → plc xs ((staysF xs ys).getD j 0) < plc xs ((staysF xs ys).getD (j + 1) 0) ∧ plc ys ((staysF xs ys).getD j 0) < plc ys ((staysF xs ys).getD (j + 1) 0)) ∧ (∀ x ∈ staysF xs ys, x ∈ xs) ∧ (∀ x ∈ staysF xs ys, x ∈ ys) ∧ staysF xs xs = xs := by
  obtain ⟨h1, h2⟩ := bothK_parts xs ys h
  have hx := (validK_parts h1).2.2
  have hy := (validK_parts h2).2.2
  have e1 : staysF xs ys = stK xs ys := by unfold staysF; rw [if_pos h]
  have e2 : staysF xs xs = stK xs xs := by unfold staysF; rw [if_pos (by unfold bothK; rw [h1]; rfl)]
  rw [e1, e2, stK_self xs hx]
  have hr := stK_Ris xs ys hy
  exact ⟨fun j hj => ⟨(pw_getD hr.1 j (j + 1) (by omega) hj).1, (pw_getD hr.1 j (j + 1) (by omega) hj).2⟩, fun x hx => (hr.2 x hx).1, fun x hx => (hr.2 x hx).2, rfl⟩

set_option maxRecDepth 100000 in
set_option maxHeartbeats 6400000 in
theorem plaw_StaysOf (A : Option Addr) (n c : Nat) (bs : List Int) (w : World) (hn : n = bs.length) (hnc : n ≤ c) (h : BS w w.heap.size A bs) (hy : BY bs) (hm : n ≤ 9223372036854775807) :
    Calls Try.prog 3 #[.slice A n c] w fun e w' => e = .returned (.bool true) ∧ Below w.heap.size w w' := by
  by_cases hs : 1048576 < n
  · clear hn hnc h hy
    go_enter Try.func3, Try.ntmps3
    go_wp2
    go_ret
    exact ⟨rfl, Below.refl _ _⟩
  have HC := Lib.hid (spec_DrawStaysOf A n c bs w hn hnc h hy (by omega))
  clear hn hnc h hy
  go_enter Try.func3, Try.ntmps3
  go_wp2_with fail
  refine HC.out.mono ?_
  rintro e w1 ⟨A1, n1, c1, xs, A2, n2, c2, ys, rfl, h1, hn11, hnc1, h4, hn21, hnc2, hI1, hI2, hb⟩
  have HN1 := Lib.hid h1
  have HM1 := Lib.hid h4
  have P_1 := Lib.hid (hI1)
  have I_1 := Lib.hid (hI2)
  have B_1 := Lib.hid (hb)
  clear h1 h4 hI1 hI2 hb HC
  have HVA := Lib.hid fun (w' : World) (h : IS w' w'.heap.size A1 xs) => impl_ValidKeys A1 n1 c1 xs w' w'.heap.size (Nat.le_refl _) HN1.out hnc1 h (by omega)
  have HVB := Lib.hid fun (w' : World) (h : IS w' w'.heap.size A2 ys) => impl_ValidKeys A2 n2 c2 ys w' w'.heap.size (Nat.le_refl _) HM1.out hnc2 h (by omega)
  have HIM := Lib.hid fun (w' : World) (h : IS w' w'.heap.size A1 xs) (h' : IS w' w'.heap.size A2 ys) => top_impl_StaysOf xs ys (by have := HN1.out; omega) (by have := HM1.out; omega) A1 n1 c1 A2 n2 c2 w' HN1.out hnc1 h HM1.out hnc2 h'
  have HSP := Lib.hid fun (w' : World) (h : IS w' w'.heap.size A1 xs) (h' : IS w' w'.heap.size A2 ys) => top_spec_StaysOf xs ys (by have := HN1.out; omega) (by have := HM1.out; omega) A1 n1 c1 A2 n2 c2 w' HN1.out hnc1 h HM1.out hnc2 h'
  have HAA := Lib.hid fun (w' : World) (h : IS w' w'.heap.size A1 xs) => top_impl_StaysOf xs xs (by have := HN1.out; omega) (by have := HN1.out; omega) A1 n1 c1 A1 n1 c1 w' HN1.out hnc1 h HN1.out hnc1 h
  have hrl := staysF_len xs ys
  have HF := Lib.hid (staysF_facts (xs := xs) (ys := ys))
  unfold bothK at HF
  generalize staysF xs ys = R at *
  generalize validK xs = va at *
  generalize validK ys = vb at *
  go_wp2_with fail
  refine (HIM.out w1 P_1.out I_1.out).mono ?_
  rintro e w2 ⟨v, rfl, ho, hb⟩
  obtain ⟨A3, c3, rfl⟩ := OwK.form ho
  have hI9 := OwK.ints ho
  have P_2 := Lib.hid (P_1.out.step hb)
  clear P_1
  have I_2 := Lib.hid (I_1.out.step hb)
  clear I_1
  have B_2 := Lib.hid (B_1.out.trans (hb.mono B_1.out.size))
  clear B_1
  clear hb
  obtain ⟨rl, hrl2⟩ : ∃ l, l = R.length := ⟨_, rfl⟩
  have HRL := Lib.hid hrl2
  have R_2 := Lib.hid (hI9)
  clear ho hI9
  rw [← hrl2] at hrl
  rw [← hrl2]
  clear hrl2
  go_wp2_with fail
  refine (HSP.out w2 P_2.out I_2.out).mono ?_
  rintro e w3 ⟨v, rfl, ho, hb⟩
  obtain ⟨A4, c4, rfl⟩ := OwK.form ho
  have hI9 := OwK.ints ho
  have P_3 := Lib.hid (P_2.out.step hb)
  clear P_2
  have I_3 := Lib.hid (I_2.out.step hb)
  clear I_2
  have B_3 := Lib.hid (B_2.out.trans (hb.mono B_2.out.size))
  clear B_2
  have R_3 := Lib.hid (R_2.out.step hb)
  clear R_2
  clear hb
  rw [← HRL.out]
  have HEQ := Lib.hid (laws_equalInts A3 A4 rl rl c3 c4 R R w3 w3.heap.size (Nat.le_refl _) HRL.out HRL.out R_3.out hI9 (by omega) (by omega))
  rw [show decide (R = R) = true from decide_eq_true rfl] at HEQ
  clear ho hI9
  go_wp2_with fail
  refine (HEQ.out).mono ?_
  rintro e w4 ⟨rfl, hb⟩
  have P_4 := Lib.hid (P_3.out.step hb)
  clear P_3
  have I_4 := Lib.hid (I_3.out.step hb)
  clear I_3
  have B_4 := Lib.hid (B_3.out.trans (hb.mono B_3.out.size))
  clear B_3
  have R_4 := Lib.hid (R_3.out.step hb)
  clear R_3
  clear hb
  clear HEQ
  go_wp2_with fail
  refine (HVA.out w4 P_4.out).mono ?_
  rintro e w5 ⟨rfl, hb⟩
  have P_5 := Lib.hid (P_4.out.step hb)
  clear P_4
  have I_5 := Lib.hid (I_4.out.step hb)
  clear I_4
  have B_5 := Lib.hid (B_4.out.trans (hb.mono B_4.out.size))
  clear B_4
  have R_5 := Lib.hid (R_4.out.step hb)
  clear R_4
  clear hb
  cases va
  · skip
    go_wp2_with fail
    refine (HSP.out w5 P_5.out I_5.out).mono ?_
    rintro e w6 ⟨v, rfl, ho, hb⟩
    obtain ⟨A4, c4, rfl⟩ := OwK.form ho
    have hI9 := OwK.ints ho
    have P_6 := Lib.hid (P_5.out.step hb)
    clear P_5
    have I_6 := Lib.hid (I_5.out.step hb)
    clear I_5
    have B_6 := Lib.hid (B_5.out.trans (hb.mono B_5.out.size))
    clear B_5
    have R_6 := Lib.hid (R_5.out.step hb)
    clear R_5
    clear hb
    rw [← HRL.out]
    have HEQ := Lib.hid (laws_equalInts A3 A4 rl rl c3 c4 R R w6 w6.heap.size (Nat.le_refl _) HRL.out HRL.out R_6.out hI9 (by omega) (by omega))
    rw [show decide (R = R) = true from decide_eq_true rfl] at HEQ
    clear ho hI9
    go_wp2_with fail
    refine (HEQ.out).mono ?_
    rintro e w7 ⟨rfl, hb⟩
    have P_7 := Lib.hid (P_6.out.step hb)
    clear P_6
    have I_7 := Lib.hid (I_6.out.step hb)
    clear I_6
    have B_7 := Lib.hid (B_6.out.trans (hb.mono B_6.out.size))
    clear B_6
    have R_7 := Lib.hid (R_6.out.step hb)
    clear R_6
    clear hb
    clear HEQ
    go_wp2
    go_ret
    exact ⟨rfl, B_7.out⟩
  go_wp2_with fail
  refine (HVB.out w5 I_5.out).mono ?_
  rintro e w6 ⟨rfl, hb⟩
  have P_6 := Lib.hid (P_5.out.step hb)
  clear P_5
  have I_6 := Lib.hid (I_5.out.step hb)
  clear I_5
  have B_6 := Lib.hid (B_5.out.trans (hb.mono B_5.out.size))
  clear B_5
  have R_6 := Lib.hid (R_5.out.step hb)
  clear R_5
  clear hb
  cases vb
  · skip
    go_wp2_with fail
    refine (HSP.out w6 P_6.out I_6.out).mono ?_
    rintro e w7 ⟨v, rfl, ho, hb⟩
    obtain ⟨A4, c4, rfl⟩ := OwK.form ho
    have hI9 := OwK.ints ho
    have P_7 := Lib.hid (P_6.out.step hb)
    clear P_6
    have I_7 := Lib.hid (I_6.out.step hb)
    clear I_6
    have B_7 := Lib.hid (B_6.out.trans (hb.mono B_6.out.size))
    clear B_6
    have R_7 := Lib.hid (R_6.out.step hb)
    clear R_6
    clear hb
    rw [← HRL.out]
    have HEQ := Lib.hid (laws_equalInts A3 A4 rl rl c3 c4 R R w7 w7.heap.size (Nat.le_refl _) HRL.out HRL.out R_7.out hI9 (by omega) (by omega))
    rw [show decide (R = R) = true from decide_eq_true rfl] at HEQ
    clear ho hI9
    go_wp2_with fail
    refine (HEQ.out).mono ?_
    rintro e w8 ⟨rfl, hb⟩
    have P_8 := Lib.hid (P_7.out.step hb)
    clear P_7
    have I_8 := Lib.hid (I_7.out.step hb)
    clear I_7
    have B_8 := Lib.hid (B_7.out.trans (hb.mono B_7.out.size))
    clear B_7
    have R_8 := Lib.hid (R_7.out.step hb)
    clear R_7
    clear hb
    clear HEQ
    go_wp2
    go_ret
    exact ⟨rfl, B_8.out⟩
  obtain ⟨hf1, hf2, hf3, hf4⟩ := HF.out rfl
  rw [hf4] at HAA
  clear hf4
  have HF1 := Lib.hid hf1
  have HF2 := Lib.hid hf2
  have HF3 := Lib.hid hf3
  clear HF hf1 hf2 hf3
  go_wp2
  go_loopw [6] (fun v wr => ∃ i : Nat, v = .int .i64 i ∧ 1 ≤ i ∧ i ≤ rl + 1 ∧ Hid (Below w6.heap.size w6 wr)) (fun v _ => rl + 1 - (intOf v).toNat)
  case atStart => exact ⟨1, rfl, by omega, by omega, Below.refl _ _⟩
  case round =>
    obtain ⟨i, rfl, hi1, hi2, HBr⟩ := hrel
    obtain ⟨w7, hwK⟩ : ∃ W, W = wr := ⟨_, rfl⟩
    rw [← hwK]
    rw [← hwK] at HBr
    clear hwK
    have P_7 := Lib.hid (P_6.out.step HBr.out)
    clear P_6
    have I_7 := Lib.hid (I_6.out.step HBr.out)
    clear I_6
    have B_7 := Lib.hid (B_6.out.trans (HBr.out.mono B_6.out.size))
    clear B_6
    have R_7 := Lib.hid (R_6.out.step HBr.out)
    clear R_6
    by_cases hlt : i < rl
    · obtain ⟨b, off, hA3, hbw, hc⟩ := R_7.out (by have := HRL.out; omega)
      subst hA3
      obtain ⟨k, hki⟩ : ∃ k, i = k + 1 := ⟨i - 1, by omega⟩
      have e0 := hc k (by have := HRL.out; omega)
      have e1 := hc i (by have := HRL.out; omega)
      obtain ⟨hp1, hp2⟩ := HF1.out k (by rw [← HRL.out]; omega)
      rw [← hki] at hp1 hp2
      clear hc
      generalize R.getD i 0 = y at *
      generalize R.getD k 0 = x at *
      have HQ1x := Lib.hid fun (q : Nat) => laws_place A1 n1 c1 xs x (w7.drewN q) w7.heap.size (Nat.le_refl _) HN1.out P_7.out (by omega)
      have HQ1y := Lib.hid fun (q : Nat) => laws_place A1 n1 c1 xs y (w7.drewN q) w7.heap.size (Nat.le_refl _) HN1.out P_7.out (by omega)
      have HQ2x := Lib.hid fun (q : Nat) => laws_place A2 n2 c2 ys x (w7.drewN q) w7.heap.size (Nat.le_refl _) HM1.out I_7.out (by omega)
      have HQ2y := Lib.hid fun (q : Nat) => laws_place A2 n2 c2 ys y (w7.drewN q) w7.heap.size (Nat.le_refl _) HM1.out I_7.out (by omega)
      generalize plc xs x = px at *
      generalize plc xs y = py at *
      generalize plc ys x = qx at *
      generalize plc ys y = qy at *
      have hn1 : ¬ py ≤ px := by omega
      have hn2 : ¬ qy ≤ qx := by omega
      clear hp1 hp2
      have hw1 : IntKind.i64.wrap ((i : Int) - 1) = (k : Int) := by rw [IntKind.wrap_i64]; omega
      have hkr : k < rl := by omega
      clear hki
      go_wp2
      go_quiet (first | (go_at_call 13; first | (with_reducible refine Calls.mono (HQ1x.out _) ?_; exact fun e w' h => ⟨h.1, _, h.2.symm⟩) | (with_reducible refine Calls.mono (HQ1y.out _) ?_; exact fun e w' h => ⟨h.1, _, h.2.symm⟩) | (with_reducible refine Calls.mono (HQ2x.out _) ?_; exact fun e w' h => ⟨h.1, _, h.2.symm⟩) | (with_reducible refine Calls.mono (HQ2y.out _) ?_; exact fun e w' h => ⟨h.1, _, h.2.symm⟩)))
      go_wp2
      go_round
      case rel => exact ⟨i + 1, by go_num, by omega, by omega, drewN_below0 HBr.out⟩
      case measure => simp [intOf]; omega
    · skip
      have hlt2 : ¬ ((i : Int) < (rl : Int)) := by omega
      go_wp2_with fail
      refine (laws_within A3 A1 rl c3 n1 c1 R xs w7 w7.heap.size (Nat.le_refl _) HRL.out R_7.out (by omega) HN1.out P_7.out (by omega) HF2.out).mono ?_
      rintro e w9 ⟨rfl, rfl⟩
      go_wp2_with fail
      refine (laws_within A3 A2 rl c3 n2 c2 R ys w7 w7.heap.size (Nat.le_refl _) HRL.out R_7.out (by omega) HM1.out I_7.out (by omega) HF3.out).mono ?_
      rintro e w9 ⟨rfl, rfl⟩
      go_wp2_with fail
      refine (HAA.out w7 P_7.out).mono ?_
      rintro e w8 ⟨v, rfl, ho, hb⟩
      obtain ⟨A5, c5, rfl⟩ := OwK.form ho
      have hI9 := OwK.ints ho
      have P_8 := Lib.hid (P_7.out.step hb)
      clear P_7
      have I_8 := Lib.hid (I_7.out.step hb)
      clear I_7
      have B_8 := Lib.hid (B_7.out.trans (hb.mono B_7.out.size))
      clear B_7
      have R_8 := Lib.hid (R_7.out.step hb)
      clear R_7
      clear hb
      rw [← HN1.out]
      have HEQ := Lib.hid (laws_equalInts A5 A1 n1 n1 c5 c1 xs xs w8 w8.heap.size (Nat.le_refl _) HN1.out HN1.out hI9 P_8.out (by omega) (by omega))
      rw [show decide (xs = xs) = true from decide_eq_true rfl] at HEQ
      clear ho hI9
      go_wp2_with fail
      refine (HEQ.out).mono ?_
      rintro e w9 ⟨rfl, hb⟩
      have P_9 := Lib.hid (P_8.out.step hb)
      clear P_8
      have I_9 := Lib.hid (I_8.out.step hb)
      clear I_8
      have B_9 := Lib.hid (B_8.out.trans (hb.mono B_8.out.size))
      clear B_8
      have R_9 := Lib.hid (R_8.out.step hb)
      clear R_8
      clear hb
      clear HEQ
      go_wp2
      go_ret
      exact ⟨rfl, B_9.out⟩
end Go.Proofs.Ytknnbajcabodoaa
