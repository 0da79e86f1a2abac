/- laws.FnWhyChanged returns true for all bytes, and writes nothing that was there. (Made by genpl.py.) -/
import Derived.Test.YtdhjflhpenkchaaR18
import Derived.Test.YtdhjflhpenkchaaR19
import Derived.Test.YtdhjflhpenkchaaH18
import Derived.Test.YtdhjflhpenkchaaM26
import Derived.Deep.RegionHeld3
import Derived.Test.YtdhjflhpenkchaaM31
import Derived.Test.YtdhjflhpenkchaaR20

namespace Go.Proofs.Ytdhjflhpenkchaa
set_option linter.unusedSimpArgs false
set_option linter.unusedVariables false
open Go.RowKit

set_option maxRecDepth 100000 in
set_option maxHeartbeats 6400000 in
theorem plaw_WhyChanged (A : Option Addr) (n c : Nat) (bs : List Int) (w : World) (hn : n = bs.length) (hnc : n ≤ c) (h : BS w w.heap.size A bs) (hy : BY bs) (hm : n ≤ 9223372036854775807) :
    Calls Try.prog 12 #[.slice A n c] w fun e w' => e = .returned (.bool true) ∧ Below w.heap.size w w' := by
  by_cases hs : 1048576 < n
  · clear hn hnc h hy
    go_enter Try.func12, Try.ntmps12
    go_wp2
    go_ret
    exact ⟨rfl, Below.refl _ _⟩
  have HC := Lib.hid (spec_DrawWhyChanged A n c bs w hn hnc h hy (by omega))
  clear hn hnc h hy
  go_enter Try.func12, Try.ntmps12
  go_wp2_with fail
  refine HC.out.mono ?_
  rintro e w1 ⟨A1, n1, c1, gs, E1, m1, d1, xs, E2, m2, d2, ys, x, rfl, hp1, hp2, hp3, hnc1, hsm, hm1, hx1, hx2, hm2, hy1, hy2, hz1, hz2, hP, hI, hJ, hb⟩
  have HN1 := Lib.hid hp1
  have HG := Lib.hid (GB.of_drawn (by omega) hsm)
  have HM1 := Lib.hid hm1
  have HM2 := Lib.hid hm2
  have P_1 := Lib.hid (hP)
  have I_1 := Lib.hid (hI)
  have J_1 := Lib.hid (hJ)
  have B_1 := Lib.hid (hb)
  clear hP hp1 hb HC hsm hI hJ hm1 hm2
  go_wp2_with fail
  obtain ⟨w2, hw2⟩ : ∃ W, W = w1.alloc (.cells #[.slice A1 n1 c1] 25) := ⟨_, rfl⟩
  have hb : Below w1.heap.size w1 w2 := by rw [hw2]; exact (Below.refl _ _).alloc (Nat.le_refl _) _
  have P_2 := Lib.hid (P_1.out.step hb)
  clear P_1
  have I_2 := Lib.hid (I_1.out.step hb)
  clear I_1
  have J_2 := Lib.hid (J_1.out.step hb)
  clear J_1
  have B_2 := Lib.hid (B_1.out.trans (hb.mono B_1.out.size))
  clear B_1
  have F_2 : Hid (As w1.heap.size (w1.heap.size + 1) (fun w' => w'.cell? ⟨w1.heap.size, 0, none⟩ = some (.slice A1 n1 c1)) w2) := by rw [hw2]; exact box_new _ _ _
  clear hb
  rw [← hw2]
  clear hw2
  have HIM := Lib.hid fun (w' : World) (h : GS w' w'.heap.size A1 gs) (h1 : IS w' w'.heap.size E1 xs) (h2 : IS w' w'.heap.size E2 ys) => top_impl_WhyChanged gs xs ys x HG.out (by have := HM1.out; omega) (by have := HM2.out; omega) A1 n1 c1 E1 m1 d1 E2 m2 d2 w' HN1.out hnc1 h HM1.out h1 HM2.out h2
  have HSP := Lib.hid fun (w' : World) (h : GS w' w'.heap.size A1 gs) (h1 : IS w' w'.heap.size E1 xs) (h2 : IS w' w'.heap.size E2 ys) => top_spec_WhyChanged gs xs ys x HG.out (by have := HM1.out; omega) (by have := HM2.out; omega) A1 n1 c1 E1 m1 d1 E2 m2 d2 w' HN1.out hnc1 h HM1.out h1 HM2.out h2
  have HCH := Lib.hid fun (w' : World) (h : GS w' w'.heap.size A1 gs) (h1 : IS w' w'.heap.size E1 xs) (h2 : IS w' w'.heap.size E2 ys) => top_impl_ChangedBy gs xs ys HG.out (by have := HM1.out; omega) (by have := HM2.out; omega) A1 n1 c1 E1 m1 d1 E2 m2 d2 w' HN1.out hnc1 h HM1.out h1 HM2.out h2
  have HDE := Lib.hid fun (w' : World) (h : GS w' w'.heap.size A1 gs) (h1 : IS w' w'.heap.size E1 xs) (h2 : IS w' w'.heap.size E2 ys) => top_impl_DepsOf gs xs HG.out (by have := HM1.out; omega) A1 n1 c1 E1 m1 d1 w' HN1.out hnc1 h HM1.out h1
  have HV1 := Lib.hid fun (w' : World) (h : GS w' w'.heap.size A1 gs) (h1 : IS w' w'.heap.size E1 xs) (h2 : IS w' w'.heap.size E2 ys) => top_impl_ValidCells gs xs HG.out (by have := HM1.out; omega) A1 n1 c1 E1 m1 d1 w' HN1.out hnc1 h HM1.out h1
  have HV2 := Lib.hid fun (w' : World) (h : GS w' w'.heap.size A1 gs) (h1 : IS w' w'.heap.size E1 xs) (h2 : IS w' w'.heap.size E2 ys) => top_impl_ValidCells gs ys HG.out (by have := HM2.out; omega) A1 n1 c1 E2 m2 d2 w' HN1.out hnc1 h HM2.out h2
  have hml := whyF_len gs xs ys x
  have hcl := chgF_len gs xs ys
  have HSB := Lib.hid (depsF_len gs xs).1
  obtain ⟨v1, hv1⟩ : ∃ v, v = okC gs xs := ⟨_, rfl⟩
  obtain ⟨v2, hv2⟩ : ∃ v, v = okC gs ys := ⟨_, rfl⟩
  have HW1 := Lib.hid hv1
  have HW2 := Lib.hid hv2
  rw [← hv1] at HV1
  rw [← hv2] at HV2
  clear hv1 hv2
  obtain ⟨R, hR⟩ : ∃ R, R = whyF gs xs ys x := ⟨_, rfl⟩
  have HR := Lib.hid hR
  rw [← hR] at HIM HSP hml
  clear hR
  have q0 := F_2.out.it
  go_wp2_with fail
  refine (HIM.out w2 P_2.out I_2.out J_2.out).mono ?_
  rintro e w3 ⟨v, rfl, ho, hb⟩
  have P_3 := Lib.hid (P_2.out.step hb)
  clear P_2
  have I_3 := Lib.hid (I_2.out.step hb)
  clear I_2
  have J_3 := Lib.hid (J_2.out.step hb)
  clear J_2
  have B_3 := Lib.hid (B_2.out.trans (hb.mono B_2.out.size))
  clear B_2
  have F_3 := Lib.hid (F_2.out.step hb)
  clear F_2
  clear hb
  clear q0
  obtain ⟨A3, c3, rfl, hI9⟩ := OwnI.form ho
  obtain ⟨rl, hl2⟩ : ∃ l, l = R.length := ⟨_, rfl⟩
  have HRL := Lib.hid hl2
  rw [← hl2]
  have R_3 := Lib.hid (hI9)
  clear ho hI9 hl2
  rw [← HRL.out] at hml
  clear HIM
  have q0 := F_3.out.it
  go_wp2_with fail
  refine (HSP.out w3 P_3.out I_3.out J_3.out).mono ?_
  rintro e w4 ⟨v, rfl, ho, hb⟩
  obtain ⟨A4, c4, rfl, hI9⟩ := OwnI.form ho
  have P_4 := Lib.hid (P_3.out.step hb)
  clear P_3
  have I_4 := Lib.hid (I_3.out.step hb)
  clear I_3
  have J_4 := Lib.hid (J_3.out.step hb)
  clear J_3
  have B_4 := Lib.hid (B_3.out.trans (hb.mono B_3.out.size))
  clear B_3
  have F_4 := Lib.hid (F_3.out.step hb)
  clear F_3
  have R_4 := Lib.hid (R_3.out.step hb)
  clear R_3
  clear hb
  clear q0
  rw [← HRL.out]
  have HEQ := Lib.hid (laws_equalInts A3 A4 rl rl c3 c4 R R w4 w4.heap.size (Nat.le_refl _) HRL.out HRL.out R_4.out hI9 (by omega) (by omega))
  rw [show decide (R = R) = true from decide_eq_true rfl] at HEQ
  clear ho hI9
  have q0 := F_4.out.it
  go_wp2_with fail
  refine (HEQ.out).mono ?_
  rintro e w5 ⟨rfl, hb⟩
  have P_5 := Lib.hid (P_4.out.step hb)
  clear P_4
  have I_5 := Lib.hid (I_4.out.step hb)
  clear I_4
  have J_5 := Lib.hid (J_4.out.step hb)
  clear J_4
  have B_5 := Lib.hid (B_4.out.trans (hb.mono B_4.out.size))
  clear B_4
  have F_5 := Lib.hid (F_4.out.step hb)
  clear F_4
  have R_5 := Lib.hid (R_4.out.step hb)
  clear R_4
  clear hb
  clear q0
  clear HEQ
  have q0 := F_5.out.it
  go_wp2_with fail
  refine (HV1.out w5 P_5.out I_5.out J_5.out).mono ?_
  rintro e w6 ⟨rfl, hb⟩
  have P_6 := Lib.hid (P_5.out.step hb)
  clear P_5
  have I_6 := Lib.hid (I_5.out.step hb)
  clear I_5
  have J_6 := Lib.hid (J_5.out.step hb)
  clear J_5
  have B_6 := Lib.hid (B_5.out.trans (hb.mono B_5.out.size))
  clear B_5
  have F_6 := Lib.hid (F_5.out.step hb)
  clear F_5
  have R_6 := Lib.hid (R_5.out.step hb)
  clear R_5
  clear hb
  clear q0
  cases v1
  · skip
    have q0 := F_6.out.it
    go_wp2_with fail
    refine (HSP.out w6 P_6.out I_6.out J_6.out).mono ?_
    rintro e w7 ⟨v, rfl, ho, hb⟩
    obtain ⟨A4, c4, rfl, hI9⟩ := OwnI.form ho
    have P_7 := Lib.hid (P_6.out.step hb)
    clear P_6
    have I_7 := Lib.hid (I_6.out.step hb)
    clear I_6
    have J_7 := Lib.hid (J_6.out.step hb)
    clear J_6
    have B_7 := Lib.hid (B_6.out.trans (hb.mono B_6.out.size))
    clear B_6
    have F_7 := Lib.hid (F_6.out.step hb)
    clear F_6
    have R_7 := Lib.hid (R_6.out.step hb)
    clear R_6
    clear hb
    clear q0
    rw [← HRL.out]
    have HEQ := Lib.hid (laws_equalInts A3 A4 rl rl c3 c4 R R w7 w7.heap.size (Nat.le_refl _) HRL.out HRL.out R_7.out hI9 (by omega) (by omega))
    rw [show decide (R = R) = true from decide_eq_true rfl] at HEQ
    clear ho hI9
    have q0 := F_7.out.it
    go_wp2_with fail
    refine (HEQ.out).mono ?_
    rintro e w8 ⟨rfl, hb⟩
    have P_8 := Lib.hid (P_7.out.step hb)
    clear P_7
    have I_8 := Lib.hid (I_7.out.step hb)
    clear I_7
    have J_8 := Lib.hid (J_7.out.step hb)
    clear J_7
    have B_8 := Lib.hid (B_7.out.trans (hb.mono B_7.out.size))
    clear B_7
    have F_8 := Lib.hid (F_7.out.step hb)
    clear F_7
    have R_8 := Lib.hid (R_7.out.step hb)
    clear R_7
    clear hb
    clear q0
    clear HEQ
    go_wp2
    go_ret
    exact ⟨rfl, B_8.out⟩
  · skip
    have q0 := F_6.out.it
    go_wp2_with fail
    refine (HV2.out w6 P_6.out I_6.out J_6.out).mono ?_
    rintro e w7 ⟨rfl, hb⟩
    have P_7 := Lib.hid (P_6.out.step hb)
    clear P_6
    have I_7 := Lib.hid (I_6.out.step hb)
    clear I_6
    have J_7 := Lib.hid (J_6.out.step hb)
    clear J_6
    have B_7 := Lib.hid (B_6.out.trans (hb.mono B_6.out.size))
    clear B_6
    have F_7 := Lib.hid (F_6.out.step hb)
    clear F_6
    have R_7 := Lib.hid (R_6.out.step hb)
    clear R_6
    clear hb
    clear q0
    cases v2
    · skip
      have q0 := F_7.out.it
      go_wp2_with fail
      refine (HSP.out w7 P_7.out I_7.out J_7.out).mono ?_
      rintro e w8 ⟨v, rfl, ho, hb⟩
      obtain ⟨A4, c4, rfl, hI9⟩ := OwnI.form ho
      have P_8 := Lib.hid (P_7.out.step hb)
      clear P_7
      have I_8 := Lib.hid (I_7.out.step hb)
      clear I_7
      have J_8 := Lib.hid (J_7.out.step hb)
      clear J_7
      have B_8 := Lib.hid (B_7.out.trans (hb.mono B_7.out.size))
      clear B_7
      have F_8 := Lib.hid (F_7.out.step hb)
      clear F_7
      have R_8 := Lib.hid (R_7.out.step hb)
      clear R_7
      clear hb
      clear q0
      rw [← HRL.out]
      have HEQ := Lib.hid (laws_equalInts A3 A4 rl rl c3 c4 R R w8 w8.heap.size (Nat.le_refl _) HRL.out HRL.out R_8.out hI9 (by omega) (by omega))
      rw [show decide (R = R) = true from decide_eq_true rfl] at HEQ
      clear ho hI9
      have q0 := F_8.out.it
      go_wp2_with fail
      refine (HEQ.out).mono ?_
      rintro e w9 ⟨rfl, hb⟩
      have P_9 := Lib.hid (P_8.out.step hb)
      clear P_8
      have I_9 := Lib.hid (I_8.out.step hb)
      clear I_8
      have J_9 := Lib.hid (J_8.out.step hb)
      clear J_8
      have B_9 := Lib.hid (B_8.out.trans (hb.mono B_8.out.size))
      clear B_8
      have F_9 := Lib.hid (F_8.out.step hb)
      clear F_8
      have R_9 := Lib.hid (R_8.out.step hb)
      clear R_8
      clear hb
      clear q0
      clear HEQ
      go_wp2
      go_ret
      exact ⟨rfl, B_9.out⟩
    · by_cases hx0 : x < 0
      · skip
        have q0 := F_7.out.it
        go_wp2_with fail
        refine (HSP.out w7 P_7.out I_7.out J_7.out).mono ?_
        rintro e w8 ⟨v, rfl, ho, hb⟩
        obtain ⟨A4, c4, rfl, hI9⟩ := OwnI.form ho
        have P_8 := Lib.hid (P_7.out.step hb)
        clear P_7
        have I_8 := Lib.hid (I_7.out.step hb)
        clear I_7
        have J_8 := Lib.hid (J_7.out.step hb)
        clear J_7
        have B_8 := Lib.hid (B_7.out.trans (hb.mono B_7.out.size))
        clear B_7
        have F_8 := Lib.hid (F_7.out.step hb)
        clear F_7
        have R_8 := Lib.hid (R_7.out.step hb)
        clear R_7
        clear hb
        clear q0
        rw [← HRL.out]
        have HEQ := Lib.hid (laws_equalInts A3 A4 rl rl c3 c4 R R w8 w8.heap.size (Nat.le_refl _) HRL.out HRL.out R_8.out hI9 (by omega) (by omega))
        rw [show decide (R = R) = true from decide_eq_true rfl] at HEQ
        clear ho hI9
        have q0 := F_8.out.it
        go_wp2_with fail
        refine (HEQ.out).mono ?_
        rintro e w9 ⟨rfl, hb⟩
        have P_9 := Lib.hid (P_8.out.step hb)
        clear P_8
        have I_9 := Lib.hid (I_8.out.step hb)
        clear I_8
        have J_9 := Lib.hid (J_8.out.step hb)
        clear J_8
        have B_9 := Lib.hid (B_8.out.trans (hb.mono B_8.out.size))
        clear B_8
        have F_9 := Lib.hid (F_8.out.step hb)
        clear F_8
        have R_9 := Lib.hid (R_8.out.step hb)
        clear R_8
        clear hb
        clear q0
        clear HEQ
        go_wp2
        go_ret
        exact ⟨rfl, B_9.out⟩
      · by_cases hxn : (n1 : Int) ≤ x
        · skip
          have q0 := F_7.out.it
          go_wp2_with fail
          refine (HSP.out w7 P_7.out I_7.out J_7.out).mono ?_
          rintro e w8 ⟨v, rfl, ho, hb⟩
          obtain ⟨A4, c4, rfl, hI9⟩ := OwnI.form ho
          have P_8 := Lib.hid (P_7.out.step hb)
          clear P_7
          have I_8 := Lib.hid (I_7.out.step hb)
          clear I_7
          have J_8 := Lib.hid (J_7.out.step hb)
          clear J_7
          have B_8 := Lib.hid (B_7.out.trans (hb.mono B_7.out.size))
          clear B_7
          have F_8 := Lib.hid (F_7.out.step hb)
          clear F_7
          have R_8 := Lib.hid (R_7.out.step hb)
          clear R_7
          clear hb
          clear q0
          rw [← HRL.out]
          have HEQ := Lib.hid (laws_equalInts A3 A4 rl rl c3 c4 R R w8 w8.heap.size (Nat.le_refl _) HRL.out HRL.out R_8.out hI9 (by omega) (by omega))
          rw [show decide (R = R) = true from decide_eq_true rfl] at HEQ
          clear ho hI9
          have q0 := F_8.out.it
          go_wp2_with fail
          refine (HEQ.out).mono ?_
          rintro e w9 ⟨rfl, hb⟩
          have P_9 := Lib.hid (P_8.out.step hb)
          clear P_8
          have I_9 := Lib.hid (I_8.out.step hb)
          clear I_8
          have J_9 := Lib.hid (J_8.out.step hb)
          clear J_8
          have B_9 := Lib.hid (B_8.out.trans (hb.mono B_8.out.size))
          clear B_8
          have F_9 := Lib.hid (F_8.out.step hb)
          clear F_8
          have R_9 := Lib.hid (R_8.out.step hb)
          clear R_8
          clear hb
          clear q0
          clear HEQ
          go_wp2
          go_ret
          exact ⟨rfl, B_9.out⟩
        · skip
          have hcb : chgB gs xs ys = true := by unfold chgB; obtain ⟨a1, a2⟩ := okC_parts gs xs HW1.out.symm; obtain ⟨b1, b2⟩ := okC_parts gs ys HW2.out.symm; rw [a1, a2, b2]; rfl
          have hl1 : n1 = m1 := by have := HM1.out; have := HN1.out; have := (validC_parts gs xs (okC_parts gs xs HW1.out.symm).2).1; omega
          have hl2 : n1 = m2 := by have := HM2.out; have := HN1.out; have := (validC_parts gs ys (okC_parts gs ys HW2.out.symm).2).1; omega
          subst hl1 hl2
          have HCB := Lib.hid hcb
          clear hcb HSP HV1 HV2
          have HWF := Lib.hid (why_facts gs xs ys HCB.out x)
          have HWN := Lib.hid (why_none gs xs ys x)
          obtain ⟨D, hD⟩ : ∃ D, D = chgF gs xs ys := ⟨_, rfl⟩
          have HD := Lib.hid hD
          rw [← hD] at HCH hcl HWF HWN
          rw [← HR.out] at HWF HWN
          clear hD
          have q0 := F_7.out.it
          go_wp2_with fail
          refine (HCH.out w7 P_7.out I_7.out J_7.out).mono ?_
          rintro e w8 ⟨v, rfl, ho, hb⟩
          have P_8 := Lib.hid (P_7.out.step hb)
          clear P_7
          have I_8 := Lib.hid (I_7.out.step hb)
          clear I_7
          have J_8 := Lib.hid (J_7.out.step hb)
          clear J_7
          have B_8 := Lib.hid (B_7.out.trans (hb.mono B_7.out.size))
          clear B_7
          have F_8 := Lib.hid (F_7.out.step hb)
          clear F_7
          have R_8 := Lib.hid (R_7.out.step hb)
          clear R_7
          clear hb
          clear q0
          obtain ⟨A5, c5, rfl, hI9⟩ := OwnI.form ho
          obtain ⟨dl, hl2⟩ : ∃ l, l = D.length := ⟨_, rfl⟩
          have HDL := Lib.hid hl2
          rw [← hl2]
          have D_8 := Lib.hid (hI9)
          clear ho hI9 hl2
          rw [← HDL.out] at hcl
          clear HCH
          have HI1 := Lib.hid fun (w' : World) (h : IS w' w'.heap.size A5 D) => isIn_g A5 dl c5 D x w' HDL.out h (by omega)
          cases hin : decide (x ∈ D)
          · skip
            have hr0 := HWN.out hin
            have hrz : rl = 0 := by rw [HRL.out, hr0]; rfl
            have hz0 : ((rl : Int) == 0) = true := by rw [hrz]; rfl
            rw [hin] at HI1
            clear hr0 hrz hin HWN HWF
            have q0 := F_8.out.it
            go_wp2_with fail
            refine (HI1.out w8 D_8.out).mono ?_
            rintro e w9 ⟨rfl, hb⟩
            have P_9 := Lib.hid (P_8.out.step hb)
            clear P_8
            have I_9 := Lib.hid (I_8.out.step hb)
            clear I_8
            have J_9 := Lib.hid (J_8.out.step hb)
            clear J_8
            have B_9 := Lib.hid (B_8.out.trans (hb.mono B_8.out.size))
            clear B_8
            have F_9 := Lib.hid (F_8.out.step hb)
            clear F_8
            have R_9 := Lib.hid (R_8.out.step hb)
            clear R_8
            have D_9 := Lib.hid (D_8.out.step hb)
            clear D_8
            clear hb
            clear q0
            go_wp2
            go_ret
            exact ⟨rfl, B_9.out⟩
          · obtain ⟨t0, rfl, hwp⟩ := HWF.out hin
            have HWP := Lib.hid hwp
            have hr0 := hwp.pos
            rw [← HRL.out] at hr0
            have hz0 : ((rl : Int) == 0) = false := by simp; omega
            clear hin hwp HWN HWF HI1
            have htn : t0 < n1 := by omega
            obtain ⟨Q, hQ⟩ : ∃ Q, Q = depsF gs xs := ⟨_, rfl⟩
            have HQ := Lib.hid hQ
            rw [← hQ] at HDE HSB
            clear hQ
            have hql : n1 = Q.length := by rw [HQ.out, depsF_len2 gs xs HW1.out.symm]; exact HN1.out
            have HQL := Lib.hid hql
            clear hql
            have q0 := F_8.out.it
            go_wp2_with fail
            refine (HDE.out w8 P_8.out I_8.out J_8.out).mono ?_
            rintro e w9 ⟨v, rfl, ho, hb⟩
            obtain ⟨A7, c7, rfl⟩ := ho.form
            have hL6 : SS w9 w9.heap.size A7 Q := ho.lists
            have P_9 := Lib.hid (P_8.out.step hb)
            clear P_8
            have I_9 := Lib.hid (I_8.out.step hb)
            clear I_8
            have J_9 := Lib.hid (J_8.out.step hb)
            clear J_8
            have B_9 := Lib.hid (B_8.out.trans (hb.mono B_8.out.size))
            clear B_8
            have F_9 := Lib.hid (F_8.out.step hb)
            clear F_8
            have R_9 := Lib.hid (R_8.out.step hb)
            clear R_8
            have D_9 := Lib.hid (D_8.out.step hb)
            clear D_8
            clear hb
            clear q0
            rw [← HQL.out]
            have Q_9 := Lib.hid (hL6)
            clear ho hL6 HDE
            go_wp2
            go_loopw [10] (fun u wr => ∃ k : Nat, 1 ≤ k ∧ k ≤ rl ∧ u = .int .i64 k ∧ Hid (Below w9.heap.size w9 wr) ∧ w9.heap.size ≤ wr.heap.size) (fun u _ => rl - (intOf u).toNat)
            case atStart => exact ⟨1, Nat.le_refl _, by omega, rfl, Below.refl _ _, Nat.le_refl _⟩
            case round =>
              obtain ⟨k, hk1, hk, rfl, HB, hwr⟩ := hrel
              obtain ⟨w10, hwK⟩ : ∃ W, W = wr := ⟨_, rfl⟩
              rw [← hwK]
              rw [← hwK] at HB hwr
              clear hwK
              have P_10 := Lib.hid (P_9.out.step HB.out)
              have I_10 := Lib.hid (I_9.out.step HB.out)
              have J_10 := Lib.hid (J_9.out.step HB.out)
              have B_10 := Lib.hid (B_9.out.trans (HB.out.mono B_9.out.size))
              have F_10 := Lib.hid (F_9.out.step HB.out)
              have R_10 := Lib.hid (R_9.out.step HB.out)
              have D_10 := Lib.hid (D_9.out.step HB.out)
              have Q_10 := Lib.hid (Q_9.out.step HB.out)
              have BK_10 := HB
              clear HB
              by_cases hlt : k < rl
              · obtain ⟨j, hjk⟩ : ∃ j, k = j + 1 := ⟨k - 1, by omega⟩
                have hjl : (j : Int) < (rl : Int) := by omega
                have hw1 : IntKind.i64.wrap ((k : Int) - 1) = (j : Int) := by rw [IntKind.wrap_i64]; omega
                obtain ⟨u, hux, hun, _⟩ := HWP.out.mem k (by have := HRL.out; omega)
                obtain ⟨t, htx, htn2, _⟩ := HWP.out.mem j (by have := HRL.out; omega)
                have hmm := (HWP.out.asc j (by have := HRL.out; omega)).2
                rw [← hjk, hux, htx, Int.toNat_natCast, ← HQ.out] at hmm
                obtain ⟨b3, o3, rfl, hb3, e3⟩ := R_10.out (by have := HRL.out; omega)
                have x3 := e3 k (by have := HRL.out; omega)
                have x4 := e3 j (by have := HRL.out; omega)
                rw [hux] at x3
                rw [htx] at x4
                clear e3
                obtain ⟨b5, o5, rfl, hb5, A9, n9, c9, x5, hn9, hI9⟩ := Q_10.out.at_ u (by have := HQL.out; have := HN1.out; omega)
                have hrs := HSB.out.2 u
                generalize Q.getD u [] = r at *
                rw [← hn9] at hrs
                have HN9 := Lib.hid hn9
                have HPM := Lib.hid (decide_eq_true hmm)
                clear hmm hn9 hux htx
                have x3_10 : Hid (C1 b3 (o3 + k) (.int .i64 (u : Int)) w10) := ⟨hb3, x3⟩
                have x4_10 : Hid (C1 b3 (o3 + j) (.int .i64 (t : Int)) w10) := ⟨hb3, x4⟩
                have x5_10 : Hid (C1 b5 (o5 + u) (.slice A9 n9 c9) w10) := ⟨hb5, x5⟩
                have Rw_10 := Lib.hid (hI9)
                clear x3 x4 x5 hI9
                have hun2 : (u : Int) < (n1 : Int) := by have := HN1.out; omega
                have hlt2 : (k : Int) < (rl : Int) := by omega
                have hjl2 : j < rl := by omega
                clear hjk
                go_wp2
                refine wp_region_held_drew (S := fun w' => w'.cell? ⟨b3, o3 + k, none⟩ = some (.int .i64 (u : Int)) ∧ w'.cell? ⟨b3, o3 + j, none⟩ = some (.int .i64 (t : Int)) ∧ w'.cell? ⟨b5, o5 + u, none⟩ = some (.slice A9 n9 c9)) (by kernel_rfl) ⟨x3_10.out.2, x4_10.out.2, x5_10.out.2⟩ (fun hHeld => ?_)
                refine wpAnyH_take (i := 0) (oi := ⟨some 84, _, _, _, _, _⟩) (v := ?_) rfl (by kernel_rfl) (by kernel_rfl) (by kernel_rfl) (fun _ _ _ h => h) (Or.inl ⟨by rfl, ?_⟩) (by assumption) ?_; rotate_left; (focus (intro w hSw; (try dsimp only at hSw); go_simp; (try with_reducible rfl))); (try simp only [Act.put, List.setIfInBounds_toArray, List.set_cons_zero, List.set_cons_succ])
                refine wpAnyH_take (i := 1) (oi := ⟨some 85, _, _, _, _, _⟩) (v := ?_) rfl (by kernel_rfl) (by kernel_rfl) (by kernel_rfl) (fun _ _ _ h => h) (Or.inl ⟨by rfl, ?_⟩) (by assumption) ?_; rotate_left; (focus (intro w hSw; (try dsimp only at hSw); go_simp; (try with_reducible rfl))); (try simp only [Act.put, List.setIfInBounds_toArray, List.set_cons_zero, List.set_cons_succ])
                refine wpAnyH_take (i := 2) (oi := ⟨some 86, _, _, _, _, _⟩) (v := ?_) rfl (by kernel_rfl) (by kernel_rfl) (by kernel_rfl) (fun _ _ _ h => h) (Or.inl ⟨by rfl, ?_⟩) (by assumption) ?_; rotate_left; (focus (intro w hSw; (try dsimp only at hSw); go_simp; (try with_reducible rfl))); (try simp only [Act.put, List.setIfInBounds_toArray, List.set_cons_zero, List.set_cons_succ])
                refine wpAnyH_take (i := 3) (oi := ⟨some 87, _, _, _, _, _⟩) (v := ?_) rfl (by kernel_rfl) (by kernel_rfl) (by kernel_rfl) (fun _ _ _ h => h) (Or.inl ⟨by rfl, ?_⟩) (by assumption) ?_; rotate_left; (focus (intro w hSw; (try dsimp only at hSw); go_simp; (try with_reducible rfl))); (try simp only [Act.put, List.setIfInBounds_toArray, List.set_cons_zero, List.set_cons_succ])
                refine wpAnyH_take (i := 4) (oi := ⟨some 88, _, _, _, _, _⟩) (v := ?_) rfl (by kernel_rfl) (by kernel_rfl) (by kernel_rfl) (fun _ _ _ h => h) (Or.inl ⟨by rfl, ?_⟩) (by assumption) ?_; rotate_left; (focus (intro w hSw; (try dsimp only at hSw); go_simp; (try with_reducible rfl))); (try simp only [Act.put, List.setIfInBounds_toArray, List.set_cons_zero, List.set_cons_succ])
                refine wpAnyH_take (i := 5) (oi := ⟨some 89, _, _, _, _, _⟩) (v := ?_) rfl (by kernel_rfl) (by kernel_rfl) (by kernel_rfl) (fun _ _ _ h => h) (Or.inl ⟨by rfl, ?_⟩) (by assumption) ?_; rotate_left; (focus (intro w hSw; (try dsimp only at hSw); go_simp; (try with_reducible rfl))); (try simp only [Act.put, List.setIfInBounds_toArray, List.set_cons_zero, List.set_cons_succ])
                refine wpAnyH_take (i := 6) (oi := ⟨some 90, _, _, _, _, _⟩) (v := ?_) rfl (by kernel_rfl) (by kernel_rfl) (by kernel_rfl) (fun _ _ _ h => h) (Or.inl ⟨by rfl, ?_⟩) (by assumption) ?_; rotate_left; (focus (intro w hSw; (try dsimp only at hSw); go_simp; (try with_reducible rfl))); (try simp only [Act.put, List.setIfInBounds_toArray, List.set_cons_zero, List.set_cons_succ])
                refine wpAnyH_take (i := 7) (oi := ⟨some 91, _, _, _, _, _⟩) (v := ?_) rfl (by kernel_rfl) (by kernel_rfl) (by kernel_rfl) (fun _ _ _ h => h) (Or.inl ⟨by rfl, ?_⟩) (by assumption) ?_; rotate_left; (focus (intro w hSw; (try dsimp only at hSw); go_simp; (try with_reducible rfl))); (try simp only [Act.put, List.setIfInBounds_toArray, List.set_cons_zero, List.set_cons_succ])
                refine wpAnyH_take (i := 8) (oi := ⟨some 92, _, _, _, _, _⟩) (v := ?_) rfl (by kernel_rfl) (by kernel_rfl) (by kernel_rfl) (fun _ _ _ h => h) (Or.inl ⟨by rfl, ?_⟩) (by assumption) ?_; rotate_left; (focus (intro w hSw; (try dsimp only at hSw); go_simp; (try with_reducible rfl))); (try simp only [Act.put, List.setIfInBounds_toArray, List.set_cons_zero, List.set_cons_succ])
                refine wpAnyH_take (i := 9) (oi := ⟨some 93, _, _, _, _, _⟩) (v := ?_) rfl (by kernel_rfl) (by kernel_rfl) (by kernel_rfl) (fun _ _ _ h => h) (Or.inl ⟨by rfl, ?_⟩) (by assumption) ?_; rotate_left; (focus (intro w hSw; (try dsimp only at hSw); go_simp; (try with_reducible rfl))); (try simp only [Act.put, List.setIfInBounds_toArray, List.set_cons_zero, List.set_cons_succ])
                refine wpAnyH_take (i := 10) (oi := ⟨some 94, _, _, _, _, _⟩) (v := ?_) rfl (by kernel_rfl) (by kernel_rfl) (by kernel_rfl) (fun _ _ _ h => h) (Or.inl ⟨by rfl, ?_⟩) (by assumption) ?_; rotate_left; (focus (intro w hSw; (try dsimp only at hSw); go_simp; (try with_reducible rfl))); (try simp only [Act.put, List.setIfInBounds_toArray, List.set_cons_zero, List.set_cons_succ])
                refine wpAnyH_take (i := 11) (oi := ⟨some 95, _, _, _, _, _⟩) (v := ?_) rfl (by kernel_rfl) (by kernel_rfl) (by kernel_rfl) (fun _ _ _ h => h) (Or.inl ⟨by rfl, ?_⟩) (by assumption) ?_; rotate_left; (focus (intro w hSw; (try dsimp only at hSw); go_simp; (try with_reducible rfl))); (try simp only [Act.put, List.setIfInBounds_toArray, List.set_cons_zero, List.set_cons_succ])
                refine wpAnyH_ready (rs := [12]) (by kernel_rfl) (by simp) ?_; refine AllReadyH.cons (o := ⟨some 96, _, _, _, _, _⟩) rfl (fun K hK => ?_) AllReadyH.nil; go_simp
                go_at_call 18
                refine (isIn_g A9 n9 c9 r (t : Int) w10.drew HN9.out Rw_10.out (by omega)).mono ?_
                rintro e w11 ⟨rfl, hb'⟩
                have hb : Below w10.heap.size w10 w11 := below_of_drew hb'
                rw [HPM.out]
                have P_11 := Lib.hid (P_10.out.step hb)
                clear P_10
                have I_11 := Lib.hid (I_10.out.step hb)
                clear I_10
                have J_11 := Lib.hid (J_10.out.step hb)
                clear J_10
                have B_11 := Lib.hid (B_10.out.trans (hb.mono B_10.out.size))
                clear B_10
                have F_11 := Lib.hid (F_10.out.step hb)
                clear F_10
                have R_11 := Lib.hid (R_10.out.step hb)
                clear R_10
                have D_11 := Lib.hid (D_10.out.step hb)
                clear D_10
                have Q_11 := Lib.hid (Q_10.out.step hb)
                clear Q_10
                have BK_11 := Lib.hid (BK_10.out.trans (hb.mono BK_10.out.size))
                clear BK_10
                have x3_11 := Lib.hid (x3_10.out.step hb)
                clear x3_10
                have x4_11 := Lib.hid (x4_10.out.step hb)
                clear x4_10
                have x5_11 := Lib.hid (x5_10.out.step hb)
                clear x5_10
                have Rw_11 := Lib.hid (Rw_10.out.step hb)
                clear Rw_10
                clear hb hb'
                refine hK.out _ _ ⟨x3_11.out.2, x4_11.out.2, x5_11.out.2⟩ (fun hHeld => ?_); clear hK K; (try simp only [Act.put, List.setIfInBounds_toArray, List.set_cons_zero, List.set_cons_succ])
                refine wpAnyH_take (i := 13) (oi := ⟨some 97, _, _, _, _, _⟩) (v := ?_) rfl (by kernel_rfl) (by kernel_rfl) (by kernel_rfl) (fun _ _ _ h => h) (Or.inl ⟨by rfl, ?_⟩) (by assumption) ?_; rotate_left; (focus (intro w hSw; (try dsimp only at hSw); go_simp; (try with_reducible rfl))); (try simp only [Act.put, List.setIfInBounds_toArray, List.set_cons_zero, List.set_cons_succ])
                refine wpAnyH_done (by kernel_rfl) ?_ _
                go_wp2
                go_roundw
                case rel => exact ⟨k + 1, by omega, by omega, by go_num, BK_11.out, BK_11.out.size⟩
                case measure => simp [intOf]; omega
              · obtain rfl : rl = k := by omega
                obtain ⟨q, hqx, hqn, hqk, hqy⟩ := HWP.out.cell
                have hlast := HWP.out.last
                rw [← HRL.out] at hlast
                obtain ⟨b3, o3, rfl, hb3, e3⟩ := R_10.out (by have := HRL.out; omega)
                have x3 := e3 0 (by have := HRL.out; omega)
                have x4 := e3 (rl - 1) (by have := HRL.out; omega)
                rw [hqx] at x3
                rw [hlast] at x4
                clear e3 hqx hlast
                obtain ⟨b6, o6, rfl, hb6, e6⟩ := I_10.out (by have := HM1.out; omega)
                have x6 := e6 q (by have := HM1.out; have := HN1.out; omega)
                clear e6
                obtain ⟨b7, o7, rfl, hb7, e7⟩ := J_10.out (by have := HM2.out; omega)
                have x7 := e7 q (by have := HM2.out; have := HN1.out; omega)
                clear e7
                obtain ⟨b, off, rfl, hbB, d0, A6, n6, c6, d1, hn6, hps⟩ := P_10.out.at_ q (by have := HN1.out; omega)
                clear d1 hn6 hps
                generalize (gs.getD q default).k = kd at *
                generalize xs.getD q 0 = y1 at *
                generalize ys.getD q 0 = y2 at *
                obtain rfl : kd = 0 := by simpa using hqk
                have hyn : (y1 != y2) = true := by rw [bne, hqy]; rfl
                have x3_10 : Hid (C1 b3 (o3) (.int .i64 (q : Int)) w10) := ⟨hb3, by simpa using x3⟩
                have x4_10 : Hid (C1 b3 (o3 + (rl - 1)) (.int .i64 (t0 : Int)) w10) := ⟨hb3, x4⟩
                have d0_10 : Hid (C1 b (off + q * 2) (.int .i64 0) w10) := ⟨hbB, d0⟩
                have x6_10 : Hid (C1 b6 (o6 + q) (.int .i64 y1) w10) := ⟨hb6, x6⟩
                have x7_10 : Hid (C1 b7 (o7 + q) (.int .i64 y2) w10) := ⟨hb7, x7⟩
                clear x3 x4 d0 x6 x7 hqk hqy
                have hw1 : IntKind.i64.wrap ((rl : Int) - 1) = ((rl - 1 : Nat) : Int) := by rw [IntKind.wrap_i64]; omega
                have hqn2 : (q : Int) < (n1 : Int) := by have := HN1.out; omega
                have hrl2 : ((rl - 1 : Nat) : Int) < (rl : Int) := by omega
                have HSU := Lib.hid (why_sub HWP.out)
                rw [← HD.out] at HSU
                have HWI := Lib.hid fun (w' : World) (h : IS w' w'.heap.size (some ⟨b3, o3, none⟩) R) (h' : IS w' w'.heap.size A5 D) => within_g (some ⟨b3, o3, none⟩) A5 rl c3 dl c5 R D w' HRL.out h (by omega) HDL.out h' (by omega) HSU.out
                have HAW := Lib.hid fun (w' : World) (h : IS w' w'.heap.size (some ⟨b3, o3, none⟩) R) => laws_ascends (some ⟨b3, o3, none⟩) rl c3 R w' _ (Nat.le_refl _) HRL.out h (by omega) (fun j hj => (HWP.out.asc j hj).1)
                go_wp2
                refine wp_region_held_drew (S := fun w' => w'.cell? ⟨w1.heap.size, 0, none⟩ = some (.slice (some ⟨b, off, none⟩) n1 c1) ∧ w'.cell? ⟨b3, o3, none⟩ = some (.int .i64 (q : Int)) ∧ w'.cell? ⟨b3, o3 + (rl - 1), none⟩ = some (.int .i64 (t0 : Int)) ∧ w'.cell? ⟨b, off + q * 2, none⟩ = some (.int .i64 0) ∧ w'.cell? ⟨b6, o6 + q, none⟩ = some (.int .i64 y1) ∧ w'.cell? ⟨b7, o7 + q, none⟩ = some (.int .i64 y2)) (by kernel_rfl) ⟨F_10.out.it, x3_10.out.2, x4_10.out.2, d0_10.out.2, x6_10.out.2, x7_10.out.2⟩ (fun hHeld => ?_)
                refine wpAnyH_take (i := 0) (oi := ⟨some 98, _, _, _, _, _⟩) (v := ?_) rfl (by kernel_rfl) (by kernel_rfl) (by kernel_rfl) (fun _ _ _ h => h) (Or.inl ⟨by rfl, ?_⟩) (by assumption) ?_; rotate_left; (focus (intro w hSw; (try dsimp only at hSw); go_simp; (try with_reducible rfl))); (try simp only [Act.put, List.setIfInBounds_toArray, List.set_cons_zero, List.set_cons_succ])
                refine wpAnyH_take (i := 1) (oi := ⟨some 99, _, _, _, _, _⟩) (v := ?_) rfl (by kernel_rfl) (by kernel_rfl) (by kernel_rfl) (fun _ _ _ h => h) (Or.inl ⟨by rfl, ?_⟩) (by assumption) ?_; rotate_left; (focus (intro w hSw; (try dsimp only at hSw); go_simp; (try with_reducible rfl))); (try simp only [Act.put, List.setIfInBounds_toArray, List.set_cons_zero, List.set_cons_succ])
                refine wpAnyH_take (i := 2) (oi := ⟨some 100, _, _, _, _, _⟩) (v := ?_) rfl (by kernel_rfl) (by kernel_rfl) (by kernel_rfl) (fun _ _ _ h => h) (Or.inl ⟨by rfl, ?_⟩) (by assumption) ?_; rotate_left; (focus (intro w hSw; (try dsimp only at hSw); go_simp; (try with_reducible rfl))); (try simp only [Act.put, List.setIfInBounds_toArray, List.set_cons_zero, List.set_cons_succ])
                refine wpAnyH_take (i := 3) (oi := ⟨some 101, _, _, _, _, _⟩) (v := ?_) rfl (by kernel_rfl) (by kernel_rfl) (by kernel_rfl) (fun _ _ _ h => h) (Or.inl ⟨by rfl, ?_⟩) (by assumption) ?_; rotate_left; (focus (intro w hSw; (try dsimp only at hSw); go_simp; (try with_reducible rfl))); (try simp only [Act.put, List.setIfInBounds_toArray, List.set_cons_zero, List.set_cons_succ])
                refine wpAnyH_take (i := 4) (oi := ⟨some 102, _, _, _, _, _⟩) (v := ?_) rfl (by kernel_rfl) (by kernel_rfl) (by kernel_rfl) (fun _ _ _ h => h) (Or.inl ⟨by rfl, ?_⟩) (by assumption) ?_; rotate_left; (focus (intro w hSw; (try dsimp only at hSw); go_simp; (try with_reducible rfl))); (try simp only [Act.put, List.setIfInBounds_toArray, List.set_cons_zero, List.set_cons_succ])
                refine wpAnyH_take (i := 5) (oi := ⟨some 103, _, _, _, _, _⟩) (v := ?_) rfl (by kernel_rfl) (by kernel_rfl) (by kernel_rfl) (fun _ _ _ h => h) (Or.inl ⟨by rfl, ?_⟩) (by assumption) ?_; rotate_left; (focus (intro w hSw; (try dsimp only at hSw); go_simp; (try with_reducible rfl))); (try simp only [Act.put, List.setIfInBounds_toArray, List.set_cons_zero, List.set_cons_succ])
                refine wpAnyH_take (i := 6) (oi := ⟨some 104, _, _, _, _, _⟩) (v := ?_) rfl (by kernel_rfl) (by kernel_rfl) (by kernel_rfl) (fun _ _ _ h => h) (Or.inl ⟨by rfl, ?_⟩) (by assumption) ?_; rotate_left; (focus (intro w hSw; (try dsimp only at hSw); go_simp; (try with_reducible rfl))); (try simp only [Act.put, List.setIfInBounds_toArray, List.set_cons_zero, List.set_cons_succ])
                refine wpAnyH_take (i := 7) (oi := ⟨some 105, _, _, _, _, _⟩) (v := ?_) rfl (by kernel_rfl) (by kernel_rfl) (by kernel_rfl) (fun _ _ _ h => h) (Or.inl ⟨by rfl, ?_⟩) (by assumption) ?_; rotate_left; (focus (intro w hSw; (try dsimp only at hSw); go_simp; (try with_reducible rfl))); (try simp only [Act.put, List.setIfInBounds_toArray, List.set_cons_zero, List.set_cons_succ])
                refine wpAnyH_take (i := 8) (oi := ⟨some 106, _, _, _, _, _⟩) (v := ?_) rfl (by kernel_rfl) (by kernel_rfl) (by kernel_rfl) (fun _ _ _ h => h) (Or.inl ⟨by rfl, ?_⟩) (by assumption) ?_; rotate_left; (focus (intro w hSw; (try dsimp only at hSw); go_simp; (try with_reducible rfl))); (try simp only [Act.put, List.setIfInBounds_toArray, List.set_cons_zero, List.set_cons_succ])
                refine wpAnyH_take (i := 9) (oi := ⟨some 107, _, _, _, _, _⟩) (v := ?_) rfl (by kernel_rfl) (by kernel_rfl) (by kernel_rfl) (fun _ _ _ h => h) (Or.inl ⟨by rfl, ?_⟩) (by assumption) ?_; rotate_left; (focus (intro w hSw; (try dsimp only at hSw); go_simp; (try with_reducible rfl))); (try simp only [Act.put, List.setIfInBounds_toArray, List.set_cons_zero, List.set_cons_succ])
                refine wpAnyH_take (i := 10) (oi := ⟨some 108, _, _, _, _, _⟩) (v := ?_) rfl (by kernel_rfl) (by kernel_rfl) (by kernel_rfl) (fun _ _ _ h => h) (Or.inl ⟨by rfl, ?_⟩) (by assumption) ?_; rotate_left; (focus (intro w hSw; (try dsimp only at hSw); go_simp; (try with_reducible rfl))); (try simp only [Act.put, List.setIfInBounds_toArray, List.set_cons_zero, List.set_cons_succ])
                refine wpAnyH_take (i := 11) (oi := ⟨some 109, _, _, _, _, _⟩) (v := ?_) rfl (by kernel_rfl) (by kernel_rfl) (by kernel_rfl) (fun _ _ _ h => h) (Or.inl ⟨by rfl, ?_⟩) (by assumption) ?_; rotate_left; (focus (intro w hSw; (try dsimp only at hSw); go_simp; (try with_reducible rfl))); (try simp only [Act.put, List.setIfInBounds_toArray, List.set_cons_zero, List.set_cons_succ])
                refine wpAnyH_take (i := 12) (oi := ⟨some 110, _, _, _, _, _⟩) (v := ?_) rfl (by kernel_rfl) (by kernel_rfl) (by kernel_rfl) (fun _ _ _ h => h) (Or.inl ⟨by rfl, ?_⟩) (by assumption) ?_; rotate_left; (focus (intro w hSw; (try dsimp only at hSw); go_simp; (try with_reducible rfl))); (try simp only [Act.put, List.setIfInBounds_toArray, List.set_cons_zero, List.set_cons_succ])
                refine wpAnyH_take (i := 13) (oi := ⟨some 111, _, _, _, _, _⟩) (v := ?_) rfl (by kernel_rfl) (by kernel_rfl) (by kernel_rfl) (fun _ _ _ h => h) (Or.inl ⟨by rfl, ?_⟩) (by assumption) ?_; rotate_left; (focus (intro w hSw; (try dsimp only at hSw); go_simp; (try with_reducible rfl))); (try simp only [Act.put, List.setIfInBounds_toArray, List.set_cons_zero, List.set_cons_succ])
                refine wpAnyH_take (i := 14) (oi := ⟨some 112, _, _, _, _, _⟩) (v := ?_) rfl (by kernel_rfl) (by kernel_rfl) (by kernel_rfl) (fun _ _ _ h => h) (Or.inl ⟨by rfl, ?_⟩) (by assumption) ?_; rotate_left; (focus (intro w hSw; (try dsimp only at hSw); go_simp; (try with_reducible rfl))); (try simp only [Act.put, List.setIfInBounds_toArray, List.set_cons_zero, List.set_cons_succ])
                refine wpAnyH_take (i := 15) (oi := ⟨some 113, _, _, _, _, _⟩) (v := ?_) rfl (by kernel_rfl) (by kernel_rfl) (by kernel_rfl) (fun _ _ _ h => h) (Or.inl ⟨by rfl, ?_⟩) (by assumption) ?_; rotate_left; (focus (intro w hSw; (try dsimp only at hSw); go_simp; (try with_reducible rfl))); (try simp only [Act.put, List.setIfInBounds_toArray, List.set_cons_zero, List.set_cons_succ])
                refine wpAnyH_take (i := 16) (oi := ⟨some 114, _, _, _, _, _⟩) (v := ?_) rfl (by kernel_rfl) (by kernel_rfl) (by kernel_rfl) (fun _ _ _ h => h) (Or.inl ⟨by rfl, ?_⟩) (by assumption) ?_; rotate_left; (focus (intro w hSw; (try dsimp only at hSw); go_simp; (try with_reducible rfl))); (try simp only [Act.put, List.setIfInBounds_toArray, List.set_cons_zero, List.set_cons_succ])
                refine wpAnyH_take (i := 17) (oi := ⟨some 115, _, _, _, _, _⟩) (v := ?_) rfl (by kernel_rfl) (by kernel_rfl) (by kernel_rfl) (fun _ _ _ h => h) (Or.inl ⟨by rfl, ?_⟩) (by assumption) ?_; rotate_left; (focus (intro w hSw; (try dsimp only at hSw); go_simp; (try with_reducible rfl))); (try simp only [Act.put, List.setIfInBounds_toArray, List.set_cons_zero, List.set_cons_succ])
                refine wpAnyH_take (i := 18) (oi := ⟨some 116, _, _, _, _, _⟩) (v := ?_) rfl (by kernel_rfl) (by kernel_rfl) (by kernel_rfl) (fun _ _ _ h => h) (Or.inl ⟨by rfl, ?_⟩) (by assumption) ?_; rotate_left; (focus (intro w hSw; (try dsimp only at hSw); go_simp; (try with_reducible rfl))); (try simp only [Act.put, List.setIfInBounds_toArray, List.set_cons_zero, List.set_cons_succ])
                refine wpAnyH_take (i := 19) (oi := ⟨some 117, _, _, _, _, _⟩) (v := ?_) rfl (by kernel_rfl) (by kernel_rfl) (by kernel_rfl) (fun _ _ _ h => h) (Or.inl ⟨by rfl, ?_⟩) (by assumption) ?_; rotate_left; (focus (intro w hSw; (try dsimp only at hSw); go_simp; (try with_reducible rfl))); (try simp only [Act.put, List.setIfInBounds_toArray, List.set_cons_zero, List.set_cons_succ])
                refine wpAnyH_take (i := 20) (oi := ⟨some 118, _, _, _, _, _⟩) (v := ?_) rfl (by kernel_rfl) (by kernel_rfl) (by kernel_rfl) (fun _ _ _ h => h) (Or.inl ⟨by rfl, ?_⟩) (by assumption) ?_; rotate_left; (focus (intro w hSw; (try dsimp only at hSw); go_simp; (try with_reducible rfl))); (try simp only [Act.put, List.setIfInBounds_toArray, List.set_cons_zero, List.set_cons_succ])
                refine wpAnyH_take (i := 21) (oi := ⟨some 119, _, _, _, _, _⟩) (v := ?_) rfl (by kernel_rfl) (by kernel_rfl) (by kernel_rfl) (fun _ _ _ h => h) (Or.inl ⟨by rfl, ?_⟩) (by assumption) ?_; rotate_left; (focus (intro w hSw; (try dsimp only at hSw); go_simp; (try with_reducible rfl))); (try simp only [Act.put, List.setIfInBounds_toArray, List.set_cons_zero, List.set_cons_succ])
                refine wpAnyH_take (i := 22) (oi := ⟨some 120, _, _, _, _, _⟩) (v := ?_) rfl (by kernel_rfl) (by kernel_rfl) (by kernel_rfl) (fun _ _ _ h => h) (Or.inl ⟨by rfl, ?_⟩) (by assumption) ?_; rotate_left; (focus (intro w hSw; (try dsimp only at hSw); go_simp; (try with_reducible rfl))); (try simp only [Act.put, List.setIfInBounds_toArray, List.set_cons_zero, List.set_cons_succ])
                refine wpAnyH_take (i := 23) (oi := ⟨some 121, _, _, _, _, _⟩) (v := ?_) rfl (by kernel_rfl) (by kernel_rfl) (by kernel_rfl) (fun _ _ _ h => h) (Or.inl ⟨by rfl, ?_⟩) (by assumption) ?_; rotate_left; (focus (intro w hSw; (try dsimp only at hSw); go_simp; (try with_reducible rfl))); (try simp only [Act.put, List.setIfInBounds_toArray, List.set_cons_zero, List.set_cons_succ])
                refine wpAnyH_take (i := 24) (oi := ⟨some 122, _, _, _, _, _⟩) (v := ?_) rfl (by kernel_rfl) (by kernel_rfl) (by kernel_rfl) (fun _ _ _ h => h) (Or.inl ⟨by rfl, ?_⟩) (by assumption) ?_; rotate_left; (focus (intro w hSw; (try dsimp only at hSw); go_simp; (try with_reducible rfl))); (try simp only [Act.put, List.setIfInBounds_toArray, List.set_cons_zero, List.set_cons_succ])
                refine wpAnyH_take (i := 25) (oi := ⟨some 123, _, _, _, _, _⟩) (v := ?_) rfl (by kernel_rfl) (by kernel_rfl) (by kernel_rfl) (fun _ _ _ h => h) (Or.inl ⟨by rfl, ?_⟩) (by assumption) ?_; rotate_left; (focus (intro w hSw; (try dsimp only at hSw); go_simp; (try with_reducible rfl))); (try simp only [Act.put, List.setIfInBounds_toArray, List.set_cons_zero, List.set_cons_succ])
                refine wpAnyH_take (i := 26) (oi := ⟨some 124, _, _, _, _, _⟩) (v := ?_) rfl (by kernel_rfl) (by kernel_rfl) (by kernel_rfl) (fun _ _ _ h => h) (Or.inl ⟨by rfl, ?_⟩) (by assumption) ?_; rotate_left; (focus (intro w hSw; (try dsimp only at hSw); go_simp; (try with_reducible rfl))); (try simp only [Act.put, List.setIfInBounds_toArray, List.set_cons_zero, List.set_cons_succ])
                refine wpAnyH_take (i := 27) (oi := ⟨some 125, _, _, _, _, _⟩) (v := ?_) rfl (by kernel_rfl) (by kernel_rfl) (by kernel_rfl) (fun _ _ _ h => h) (Or.inl ⟨by rfl, ?_⟩) (by assumption) ?_; rotate_left; (focus (intro w hSw; (try dsimp only at hSw); go_simp; (try with_reducible rfl))); (try simp only [Act.put, List.setIfInBounds_toArray, List.set_cons_zero, List.set_cons_succ])
                refine wpAnyH_take (i := 28) (oi := ⟨some 126, _, _, _, _, _⟩) (v := ?_) rfl (by kernel_rfl) (by kernel_rfl) (by kernel_rfl) (fun _ _ _ h => h) (Or.inl ⟨by rfl, ?_⟩) (by assumption) ?_; rotate_left; (focus (intro w hSw; (try dsimp only at hSw); go_simp; (try with_reducible rfl))); (try simp only [Act.put, List.setIfInBounds_toArray, List.set_cons_zero, List.set_cons_succ])
                refine wpAnyH_take (i := 29) (oi := ⟨some 127, _, _, _, _, _⟩) (v := ?_) rfl (by kernel_rfl) (by kernel_rfl) (by kernel_rfl) (fun _ _ _ h => h) (Or.inl ⟨by rfl, ?_⟩) (by assumption) ?_; rotate_left; (focus (intro w hSw; (try dsimp only at hSw); go_simp; (try with_reducible rfl))); (try simp only [Act.put, List.setIfInBounds_toArray, List.set_cons_zero, List.set_cons_succ])
                refine wpAnyH_take (i := 30) (oi := ⟨some 128, _, _, _, _, _⟩) (v := ?_) rfl (by kernel_rfl) (by kernel_rfl) (by kernel_rfl) (fun _ _ _ h => h) (Or.inl ⟨by rfl, ?_⟩) (by assumption) ?_; rotate_left; (focus (intro w hSw; (try dsimp only at hSw); go_simp; (try with_reducible rfl))); (try simp only [Act.put, List.setIfInBounds_toArray, List.set_cons_zero, List.set_cons_succ])
                refine wpAnyH_take (i := 31) (oi := ⟨some 129, _, _, _, _, _⟩) (v := ?_) rfl (by kernel_rfl) (by kernel_rfl) (by kernel_rfl) (fun _ _ _ h => h) (Or.inl ⟨by rfl, ?_⟩) (by assumption) ?_; rotate_left; (focus (intro w hSw; (try dsimp only at hSw); go_simp; (try with_reducible rfl))); (try simp only [Act.put, List.setIfInBounds_toArray, List.set_cons_zero, List.set_cons_succ])
                refine wpAnyH_take (i := 32) (oi := ⟨some 130, _, _, _, _, _⟩) (v := ?_) rfl (by kernel_rfl) (by kernel_rfl) (by kernel_rfl) (fun _ _ _ h => h) (Or.inl ⟨by rfl, ?_⟩) (by assumption) ?_; rotate_left; (focus (intro w hSw; (try dsimp only at hSw); go_simp; (try with_reducible rfl))); (try simp only [Act.put, List.setIfInBounds_toArray, List.set_cons_zero, List.set_cons_succ])
                refine wpAnyH_take (i := 33) (oi := ⟨some 131, _, _, _, _, _⟩) (v := ?_) rfl (by kernel_rfl) (by kernel_rfl) (by kernel_rfl) (fun _ _ _ h => h) (Or.inl ⟨by rfl, ?_⟩) (by assumption) ?_; rotate_left; (focus (intro w hSw; (try dsimp only at hSw); go_simp; (try with_reducible rfl))); (try simp only [Act.put, List.setIfInBounds_toArray, List.set_cons_zero, List.set_cons_succ])
                refine wpAnyH_take (i := 34) (oi := ⟨some 132, _, _, _, _, _⟩) (v := ?_) rfl (by kernel_rfl) (by kernel_rfl) (by kernel_rfl) (fun _ _ _ h => h) (Or.inl ⟨by rfl, ?_⟩) (by assumption) ?_; rotate_left; (focus (intro w hSw; (try dsimp only at hSw); go_simp; (try with_reducible rfl))); (try simp only [Act.put, List.setIfInBounds_toArray, List.set_cons_zero, List.set_cons_succ])
                refine wpAnyH_take (i := 35) (oi := ⟨some 133, _, _, _, _, _⟩) (v := ?_) rfl (by kernel_rfl) (by kernel_rfl) (by kernel_rfl) (fun _ _ _ h => h) (Or.inl ⟨by rfl, ?_⟩) (by assumption) ?_; rotate_left; (focus (intro w hSw; (try dsimp only at hSw); go_simp; (try with_reducible rfl))); (try simp only [Act.put, List.setIfInBounds_toArray, List.set_cons_zero, List.set_cons_succ])
                refine wpAnyH_take (i := 36) (oi := ⟨some 134, _, _, _, _, _⟩) (v := ?_) rfl (by kernel_rfl) (by kernel_rfl) (by kernel_rfl) (fun _ _ _ h => h) (Or.inl ⟨by rfl, ?_⟩) (by assumption) ?_; rotate_left; (focus (intro w hSw; (try dsimp only at hSw); go_simp; (try with_reducible rfl))); (try simp only [Act.put, List.setIfInBounds_toArray, List.set_cons_zero, List.set_cons_succ])
                refine wpAnyH_ready (rs := [37]) (by kernel_rfl) (by simp) ?_; refine AllReadyH.cons (o := ⟨some 135, _, _, _, _, _⟩) rfl (fun K hK => ?_) AllReadyH.nil; go_simp
                go_at_call 24
                refine (HWI.out w10.drew R_10.out D_10.out).mono ?_
                rintro e w11 ⟨rfl, hb'⟩
                have hb : Below w10.heap.size w10 w11 := below_of_drew hb'
                have P_11 := Lib.hid (P_10.out.step hb)
                clear P_10
                have I_11 := Lib.hid (I_10.out.step hb)
                clear I_10
                have J_11 := Lib.hid (J_10.out.step hb)
                clear J_10
                have B_11 := Lib.hid (B_10.out.trans (hb.mono B_10.out.size))
                clear B_10
                have F_11 := Lib.hid (F_10.out.step hb)
                clear F_10
                have R_11 := Lib.hid (R_10.out.step hb)
                clear R_10
                have D_11 := Lib.hid (D_10.out.step hb)
                clear D_10
                have Q_11 := Lib.hid (Q_10.out.step hb)
                clear Q_10
                have BK_11 := Lib.hid (BK_10.out.trans (hb.mono BK_10.out.size))
                clear BK_10
                have x3_11 := Lib.hid (x3_10.out.step hb)
                clear x3_10
                have x4_11 := Lib.hid (x4_10.out.step hb)
                clear x4_10
                have d0_11 := Lib.hid (d0_10.out.step hb)
                clear d0_10
                have x6_11 := Lib.hid (x6_10.out.step hb)
                clear x6_10
                have x7_11 := Lib.hid (x7_10.out.step hb)
                clear x7_10
                clear hb hb'
                refine hK.out _ _ ⟨F_11.out.it, x3_11.out.2, x4_11.out.2, d0_11.out.2, x6_11.out.2, x7_11.out.2⟩ (fun hHeld => ?_); clear hK K; (try simp only [Act.put, List.setIfInBounds_toArray, List.set_cons_zero, List.set_cons_succ])
                refine wpAnyH_take (i := 38) (oi := ⟨some 136, _, _, _, _, _⟩) (v := ?_) rfl (by kernel_rfl) (by kernel_rfl) (by kernel_rfl) (fun _ _ _ h => h) (Or.inl ⟨by rfl, ?_⟩) (by assumption) ?_; rotate_left; (focus (intro w hSw; (try dsimp only at hSw); go_simp; (try with_reducible rfl))); (try simp only [Act.put, List.setIfInBounds_toArray, List.set_cons_zero, List.set_cons_succ])
                refine wpAnyH_take (i := 39) (oi := ⟨some 137, _, _, _, _, _⟩) (v := ?_) rfl (by kernel_rfl) (by kernel_rfl) (by kernel_rfl) (fun _ _ _ h => h) (Or.inl ⟨by rfl, ?_⟩) (by assumption) ?_; rotate_left; (focus (intro w hSw; (try dsimp only at hSw); go_simp; (try with_reducible rfl))); (try simp only [Act.put, List.setIfInBounds_toArray, List.set_cons_zero, List.set_cons_succ])
                refine wpAnyH_take (i := 40) (oi := ⟨some 138, _, _, _, _, _⟩) (v := ?_) rfl (by kernel_rfl) (by kernel_rfl) (by kernel_rfl) (fun _ _ _ h => h) (Or.inl ⟨by rfl, ?_⟩) (by assumption) ?_; rotate_left; (focus (intro w hSw; (try dsimp only at hSw); go_simp; (try with_reducible rfl))); (try simp only [Act.put, List.setIfInBounds_toArray, List.set_cons_zero, List.set_cons_succ])
                refine wpAnyH_ready (rs := [41]) (by kernel_rfl) (by simp) ?_; refine AllReadyH.cons (o := ⟨some 139, _, _, _, _, _⟩) rfl (fun K hK => ?_) AllReadyH.nil; go_simp
                go_at_call 20
                refine (HAW.out w11 R_11.out).mono ?_
                rintro e w12 ⟨rfl, hb⟩
                have P_12 := Lib.hid (P_11.out.step hb)
                clear P_11
                have I_12 := Lib.hid (I_11.out.step hb)
                clear I_11
                have J_12 := Lib.hid (J_11.out.step hb)
                clear J_11
                have B_12 := Lib.hid (B_11.out.trans (hb.mono B_11.out.size))
                clear B_11
                have F_12 := Lib.hid (F_11.out.step hb)
                clear F_11
                have R_12 := Lib.hid (R_11.out.step hb)
                clear R_11
                have D_12 := Lib.hid (D_11.out.step hb)
                clear D_11
                have Q_12 := Lib.hid (Q_11.out.step hb)
                clear Q_11
                have BK_12 := Lib.hid (BK_11.out.trans (hb.mono BK_11.out.size))
                clear BK_11
                have x3_12 := Lib.hid (x3_11.out.step hb)
                clear x3_11
                have x4_12 := Lib.hid (x4_11.out.step hb)
                clear x4_11
                have d0_12 := Lib.hid (d0_11.out.step hb)
                clear d0_11
                have x6_12 := Lib.hid (x6_11.out.step hb)
                clear x6_11
                have x7_12 := Lib.hid (x7_11.out.step hb)
                clear x7_11
                clear hb
                refine hK.out _ _ ⟨F_12.out.it, x3_12.out.2, x4_12.out.2, d0_12.out.2, x6_12.out.2, x7_12.out.2⟩ (fun hHeld => ?_); clear hK K; (try simp only [Act.put, List.setIfInBounds_toArray, List.set_cons_zero, List.set_cons_succ])
                refine wpAnyH_take (i := 42) (oi := ⟨some 140, _, _, _, _, _⟩) (v := ?_) rfl (by kernel_rfl) (by kernel_rfl) (by kernel_rfl) (fun _ _ _ h => h) (Or.inl ⟨by rfl, ?_⟩) (by assumption) ?_; rotate_left; (focus (intro w hSw; (try dsimp only at hSw); go_simp; (try with_reducible rfl))); (try simp only [Act.put, List.setIfInBounds_toArray, List.set_cons_zero, List.set_cons_succ])
                refine wpAnyH_take (i := 43) (oi := ⟨some 2, _, _, _, _, _⟩) (v := ?_) rfl (by kernel_rfl) (by kernel_rfl) (by kernel_rfl) (fun _ _ _ h => h) (Or.inl ⟨by rfl, ?_⟩) (by assumption) ?_; rotate_left; (focus (intro w hSw; (try dsimp only at hSw); go_simp; (try with_reducible rfl))); (try simp only [Act.put, List.setIfInBounds_toArray, List.set_cons_zero, List.set_cons_succ])
                refine wpAnyH_done (by kernel_rfl) ?_ _
                go_wp2
                go_ret
                exact ⟨ret_b (by simp), B_12.out⟩
end Go.Proofs.Ytdhjflhpenkchaa
