/- laws.FnSetContext returns true for all bytes, and writes nothing that was there. (Made by genpl.py.) -/
import Derived.Test.YtjhpknnhgbdkiaaR24
import Derived.Test.YtjhpknnhgbdkiaaP12b
import Derived.Test.YtjhpknnhgbdkiaaM38
import Derived.Deep.RegionHeld3
import Derived.BigQuiet
import Derived.Deep.QuietTactic
import Derived.Test.YtjhpknnhgbdkiaaM39

namespace Go.Proofs.Ytjhpknnhgbdkiaa
set_option linter.unusedSimpArgs false
set_option linter.unusedVariables false
open Go.RowKit

set_option maxRecDepth 100000 in
set_option maxHeartbeats 6400000 in
theorem plaw_SetContext (A : Option Addr) (n c : Nat) (bs : List Int) (w : World) (hn : n = bs.length) (hnc : n ≤ c) (h : BS w w.heap.size A bs) (hy : BY bs) (hm : n ≤ 9223372036854775807) :
    Calls Try.prog 8 #[.slice A n c] w fun e w' => e = .returned (.bool true) ∧ Below w.heap.size w w' := by
  by_cases hs : 1048576 < n
  · clear hn hnc h hy
    go_enter Try.func8, Try.ntmps8
    go_wp2
    go_ret
    exact ⟨rfl, Below.refl _ _⟩
  have HC := Lib.hid (spec_DrawSetContext A n c bs w hn hnc h hy (by omega))
  clear hn hnc h hy
  go_enter Try.func8, Try.ntmps8
  go_wp2_with fail
  refine HC.out.mono ?_
  rintro e w1 ⟨A1, n1, c1, ds, o, ky, x, rfl, ho1, ho2, hky1, hky2, hx1, hx2, hp1, hn1, hn12, hnc1, hOB, hlens, hP, hb⟩
  have HN1 := Lib.hid hp1
  have HOB := Lib.hid hOB
  have HLE := Lib.hid hlens
  have P_1 := Lib.hid (hP)
  have B_1 := Lib.hid (hb)
  clear hP hp1 hb HC hOB hlens
  have HIM := Lib.hid fun (w' : World) (h : OS w' w'.heap.size A1 ds) =>  top_impl_SetContext ds o ky x HOB.out A1 n1 c1 w' HN1.out hnc1 h
  have HSP := Lib.hid fun (w' : World) (h : OS w' w'.heap.size A1 ds) =>  top_spec_SetContext ds o ky x HOB.out A1 n1 c1 w' HN1.out hnc1 h
  have HF := Lib.hid (ctx_facts (ds := ds) (o := o) (key := ky) (x := x))
  have hor : OB (ctxF ds o ky x) := by
    cases h : ctxB ds o ky x
    · unfold ctxF; rw [h]; exact OB.small (by simp) fun j => by simp [List.getD]; exact ⟨Nat.zero_le _, Nat.zero_le _⟩
    · obtain ⟨k, q, _, _, _, _, e, hv, _⟩ := HF.out h
      rw [e]
      exact OB.small ((validO_iff _).1 hv).2.1 (fun j => by have := (valid_bounds hv).2 j; omega)
  have HOR := Lib.hid hor
  clear hor
  obtain ⟨R, hR⟩ : ∃ R, R = ctxF ds o ky x := ⟨_, rfl⟩
  have HR := Lib.hid hR
  rw [← hR] at HIM HSP HOR
  clear hR
  obtain ⟨ov, hov⟩ : ∃ v, v = ctxB ds o ky x := ⟨_, rfl⟩
  rw [← hov] at HIM HSP HF
  clear hov
  have hoo : (ov != ov) = false := by simp
  go_wp2_with fail
  refine (HIM.out w1 P_1.out).mono ?_
  rintro e w2 ⟨v, rfl, ho, hb⟩
  obtain ⟨A3, c3, rfl⟩ := OwO.form ho
  have hnc9 := own_ncapP ho
  have hI9 := ho.owners
  have P_2 := Lib.hid (P_1.out.step hb)
  clear P_1
  have B_2 := Lib.hid (B_1.out.trans (hb.mono B_1.out.size))
  clear B_1
  clear hb
  have hnc3 := hnc9
  obtain ⟨rl, hl2⟩ : ∃ l, l = R.length := ⟨_, rfl⟩
  have HRL := Lib.hid hl2
  rw [← hl2]
  rw [← hl2] at hnc3
  have R_2 := Lib.hid (hI9)
  clear ho hI9 hl2 hnc9
  go_wp2_with fail
  refine (HSP.out w2 P_2.out).mono ?_
  rintro e w3 ⟨v, rfl, ho, hb⟩
  obtain ⟨A4, c4, rfl⟩ := OwO.form ho
  have hnc9 := own_ncapP ho
  have hI9 := ho.owners
  have P_3 := Lib.hid (P_2.out.step hb)
  clear P_2
  have B_3 := Lib.hid (B_2.out.trans (hb.mono B_2.out.size))
  clear B_2
  have R_3 := Lib.hid (R_2.out.step hb)
  clear R_2
  clear hb
  rw [← HRL.out]
  have S_3 := Lib.hid (hI9)
  clear ho hI9 hnc9 HIM HSP
  have HEQ := Lib.hid (laws_equalOwners A3 A4 rl c3 c4 R w3 w3.heap.size (Nat.le_refl _) HRL.out R_3.out S_3.out HOR.out)
  go_wp2_with fail
  refine (HEQ.out).mono ?_
  rintro e w4 ⟨rfl, hb⟩
  have P_4 := Lib.hid (P_3.out.step hb)
  clear P_3
  have B_4 := Lib.hid (B_3.out.trans (hb.mono B_3.out.size))
  clear B_3
  have R_4 := Lib.hid (R_3.out.step hb)
  clear R_3
  have S_4 := Lib.hid (S_3.out.step hb)
  clear S_3
  clear hb
  clear HEQ
  cases ov
  · skip
    have HEQ := Lib.hid (laws_equalOwners A3 A4 rl c3 c4 R w4 w4.heap.size (Nat.le_refl _) HRL.out R_4.out S_4.out HOR.out)
    go_wp2_with fail
    refine (HEQ.out).mono ?_
    rintro e w5 ⟨rfl, hb⟩
    have P_5 := Lib.hid (P_4.out.step hb)
    clear P_4
    have B_5 := Lib.hid (B_4.out.trans (hb.mono B_4.out.size))
    clear B_4
    have R_5 := Lib.hid (R_4.out.step hb)
    clear R_4
    have S_5 := Lib.hid (S_4.out.step hb)
    clear S_4
    clear hb
    clear HEQ
    go_wp2
    go_ret
    exact ⟨ret_b (by simp), B_5.out⟩
  · obtain ⟨t, q, rfl, f2, rfl, f4, f5, f6, f7, f8, f9⟩ := HF.out rfl
    rw [← f5, ← HR.out] at f6 f8 f9
    have HF8 := Lib.hid f8
    have HF9 := Lib.hid f9
    have HVR := Lib.hid f6
    have hkl := kidsF_len R (t : Int)
    have HKI := Lib.hid fun (w' : World) (h : OS w' w'.heap.size A3 R) => top_impl_KidsOf R (t : Int) HOR.out A3 rl c3 w' HRL.out hnc3 h
    clear f2 f5 f6 f7 f8 f9 HF HR
    generalize kidsF R (t : Int) = KD at *
    go_wp2_with fail
    refine (HKI.out w4 R_4.out).mono ?_
    rintro e w5 ⟨v, rfl, ho, hb⟩
    have P_5 := Lib.hid (P_4.out.step hb)
    clear P_4
    have B_5 := Lib.hid (B_4.out.trans (hb.mono B_4.out.size))
    clear B_4
    have R_5 := Lib.hid (R_4.out.step hb)
    clear R_4
    have S_5 := Lib.hid (S_4.out.step hb)
    clear S_4
    clear hb
    obtain ⟨A5, c5, rfl, hI9⟩ := OwnI.form ho
    obtain ⟨kl, hl2⟩ : ∃ l, l = KD.length := ⟨_, rfl⟩
    have HKL := Lib.hid hl2
    rw [← hl2]
    have K_5 := Lib.hid (hI9)
    clear ho hI9 hl2
    rw [← HKL.out] at hkl
    clear HKI
    go_wp2
    go_loopw [12] (fun u wr => ∃ k : Nat, k ≤ kl ∧ u = .int .i64 k ∧ Hid (Below w5.heap.size w5 wr) ∧ w5.heap.size ≤ wr.heap.size) (fun u _ => kl - (intOf u).toNat)
    case atStart => exact ⟨0, Nat.zero_le _, rfl, Below.refl _ _, Nat.le_refl _⟩
    case round =>
      obtain ⟨k, hk, rfl, HB, hwr⟩ := hrel
      obtain ⟨w6, hwK⟩ : ∃ W, W = wr := ⟨_, rfl⟩
      rw [← hwK]
      rw [← hwK] at HB hwr
      clear hwK
      have P_6 := Lib.hid (P_5.out.step HB.out)
      have B_6 := Lib.hid (B_5.out.trans (HB.out.mono B_5.out.size))
      have R_6 := Lib.hid (R_5.out.step HB.out)
      have S_6 := Lib.hid (S_5.out.step HB.out)
      have K_6 := Lib.hid (K_5.out.step HB.out)
      have BK_6 := HB
      clear HB
      by_cases hlt : k < kl
      · obtain ⟨b9, e1, e2, e3, e4⟩ := HF9.out k (by have := HKL.out; omega)
        obtain ⟨b3, o3, hA3, hb3, x3⟩ := K_6.out (by have := HKL.out; omega)
        subst hA3
        have x4 := x3 k (by have := HKL.out; omega)
        rw [e1] at x4
        clear x3 e1
        have HL1 := Lib.hid fun (w' : World) (h : OS w' w'.heap.size A3 R) => top_impl_LookUp R (b9 : Int) (q : Int) HOR.out A3 rl c3 w' HRL.out hnc3 h
        rw [e4] at HL1
        simp only [Option.getD_some, Option.isSome_some] at HL1
        obtain ⟨b, off, rfl, hbB, d0, d1, ⟨A6, n6, c6, d2, hn6, i6⟩, A7, n7, c7, d3, hn7, i7⟩ := P_6.out.at_ b9 (by have := HN1.out; omega)
        clear d0 d1 d2 hn6 i6
        rw [e3] at hn7
        subst hn7
        obtain ⟨b7, o7, rfl, hb7, x7⟩ := i7 (by omega)
        have x8 := x7 q (by omega)
        clear x7 e3 e4
        generalize (ds.getD b9 default).cx.getD q 0 = cv at *
        have hbn : b9 < n1 := by have := HN1.out; omega
        have hbn2 : (b9 : Int) < (n1 : Int) := by omega
        have hkr : (k : Int) < (kl : Int) := by omega
        have hq4 : (q : Int) < 3 := by omega
        have x4_6 : Hid (C1 b3 (o3 + k) (.int .i64 (b9 : Int)) w6) := ⟨hb3, x4⟩
        have d3_6 : Hid (C1 b (off + b9 * 4 + 3) (.slice (some ⟨b7, o7, none⟩) 3 c7) w6) := ⟨hbB, d3⟩
        have x8_6 : Hid (C1 b7 (o7 + q) (.int .i64 cv) w6) := ⟨hb7, x8⟩
        clear x4 d3 x8 hb3 hbB hb7
        have y4 := x4_6.out.2
        go_wp2_with fail
        refine (HL1.out w6 R_6.out).mono ?_
        rintro e w7 ⟨rfl, hb⟩
        have P_7 := Lib.hid (P_6.out.step hb)
        clear P_6
        have B_7 := Lib.hid (B_6.out.trans (hb.mono B_6.out.size))
        clear B_6
        have R_7 := Lib.hid (R_6.out.step hb)
        clear R_6
        have S_7 := Lib.hid (S_6.out.step hb)
        clear S_6
        have K_7 := Lib.hid (K_6.out.step hb)
        clear K_6
        have BK_7 := Lib.hid (BK_6.out.trans (hb.mono BK_6.out.size))
        clear BK_6
        have x4_7 := Lib.hid (x4_6.out.step hb)
        clear x4_6
        have d3_7 := Lib.hid (d3_6.out.step hb)
        clear d3_6
        have x8_7 := Lib.hid (x8_6.out.step hb)
        clear x8_6
        clear hb
        clear y4 HL1
        have y0 := x4_7.out.2
        have y1 := d3_7.out.2
        have y2 := x8_7.out.2
        by_cases h0 : 0 ≤ cv
        · skip
          go_wp2
          go_roundw
          case rel => exact ⟨k + 1, by omega, by go_num, BK_7.out, BK_7.out.size⟩
          case measure => simp [intOf]; omega
        · have h00 : cv < 0 := by omega
          have hxx : (x != x) = false := by simp
          go_wp2
          go_roundw
          case rel => exact ⟨k + 1, by omega, by go_num, BK_7.out, BK_7.out.size⟩
          case measure => simp [intOf]; omega
      · obtain rfl : k = kl := by omega
        have HL1 := Lib.hid fun (w' : World) (h : OS w' w'.heap.size A3 R) => top_impl_LookUp R (t : Int) (q : Int) HOR.out A3 rl c3 w' HRL.out hnc3 h
        rw [HF8.out] at HL1
        simp only [Option.getD_some, Option.isSome_some] at HL1
        have HVO := Lib.hid fun (w' : World) (h : OS w' w'.heap.size A3 R) => top_impl_ValidOwners R HOR.out A3 rl c3 w' HRL.out hnc3 h
        rw [HVR.out] at HVO
        have hxx : (x == x) = true := by simp
        go_wp2_with fail
        refine (HL1.out w6 R_6.out).mono ?_
        rintro e w7 ⟨rfl, hb⟩
        have P_7 := Lib.hid (P_6.out.step hb)
        clear P_6
        have B_7 := Lib.hid (B_6.out.trans (hb.mono B_6.out.size))
        clear B_6
        have R_7 := Lib.hid (R_6.out.step hb)
        clear R_6
        have S_7 := Lib.hid (S_6.out.step hb)
        clear S_6
        have K_7 := Lib.hid (K_6.out.step hb)
        clear K_6
        have BK_7 := Lib.hid (BK_6.out.trans (hb.mono BK_6.out.size))
        clear BK_6
        clear hb
        go_wp2_with fail
        refine (HVO.out w7 R_7.out).mono ?_
        rintro e w8 ⟨rfl, hb⟩
        have P_8 := Lib.hid (P_7.out.step hb)
        clear P_7
        have B_8 := Lib.hid (B_7.out.trans (hb.mono B_7.out.size))
        clear B_7
        have R_8 := Lib.hid (R_7.out.step hb)
        clear R_7
        have S_8 := Lib.hid (S_7.out.step hb)
        clear S_7
        have K_8 := Lib.hid (K_7.out.step hb)
        clear K_7
        have BK_8 := Lib.hid (BK_7.out.trans (hb.mono BK_7.out.size))
        clear BK_7
        clear hb
        go_wp2
        go_ret
        exact ⟨ret_b (by first | rfl | simp), B_8.out⟩
end Go.Proofs.Ytjhpknnhgbdkiaa
