/- laws.FnAboveOf returns true for all bytes, and writes nothing that was there. (Made by genpl.py.) -/
import Derived.Test.YtjhpknnhgbdkiaaR24
import Derived.Test.YtjhpknnhgbdkiaaP9a
import Derived.Test.YtjhpknnhgbdkiaaM38
import Derived.Deep.RegionHeld3
import Derived.BigQuiet
import Derived.Deep.QuietTactic

namespace Go.Proofs.Ytjhpknnhgbdkiaa
set_option linter.unusedSimpArgs false
set_option linter.unusedVariables false
open Go.RowKit

set_option maxRecDepth 100000 in
set_option maxHeartbeats 6400000 in
theorem plaw_AboveOf (A : Option Addr) (n c : Nat) (bs : List Int) (w : World) (hn : n = bs.length) (hnc : n ≤ c) (h : BS w w.heap.size A bs) (hy : BY bs) (hm : n ≤ 9223372036854775807) :
    Calls Try.prog 4 #[.slice A n c] w fun e w' => e = .returned (.bool true) ∧ Below w.heap.size w w' := by
  by_cases hs : 1048576 < n
  · clear hn hnc h hy
    go_enter Try.func4, Try.ntmps4
    go_wp2
    go_ret
    exact ⟨rfl, Below.refl _ _⟩
  have HC := Lib.hid (spec_DrawAboveOf A n c bs w hn hnc h hy (by omega))
  clear hn hnc h hy
  go_enter Try.func4, Try.ntmps4
  go_wp2_with fail
  refine HC.out.mono ?_
  rintro e w1 ⟨A1, n1, c1, ds, o, rfl, ho1, ho2, hp1, hn1, hn12, hnc1, hOB, hlens, hP, hb⟩
  have HN1 := Lib.hid hp1
  have HOB := Lib.hid hOB
  have HLE := Lib.hid hlens
  have P_1 := Lib.hid (hP)
  have B_1 := Lib.hid (hb)
  clear hP hp1 hb HC hOB hlens
  have HIM := Lib.hid fun (w' : World) (h : OS w' w'.heap.size A1 ds) =>  top_impl_AboveOf ds o HOB.out A1 n1 c1 w' HN1.out hnc1 h
  have HSP := Lib.hid fun (w' : World) (h : OS w' w'.heap.size A1 ds) =>  top_spec_AboveOf ds o HOB.out A1 n1 c1 w' HN1.out hnc1 h
  have HVO := Lib.hid fun (w' : World) (h : OS w' w'.heap.size A1 ds) =>  top_impl_ValidOwners ds HOB.out A1 n1 c1 w' HN1.out hnc1 h
  clear HVO
  have hml := aboveF_len ds o
  obtain ⟨R, hR⟩ : ∃ R, R = aboveF ds o := ⟨_, rfl⟩
  have HR := Lib.hid hR
  rw [← hR] at HIM HSP hml
  clear hR
  go_wp2_with fail
  refine (HIM.out w1 P_1.out).mono ?_
  rintro e w2 ⟨v, rfl, ho, hb⟩
  have P_2 := Lib.hid (P_1.out.step hb)
  clear P_1
  have B_2 := Lib.hid (B_1.out.trans (hb.mono B_1.out.size))
  clear B_1
  clear hb
  obtain ⟨A3, c3, rfl, hI9⟩ := OwnI.form ho
  obtain ⟨rl, hl2⟩ : ∃ l, l = R.length := ⟨_, rfl⟩
  have HRL := Lib.hid hl2
  rw [← hl2]
  have R_2 := Lib.hid (hI9)
  clear ho hI9 hl2
  rw [← HRL.out] at hml
  go_wp2_with fail
  refine (HSP.out w2 P_2.out).mono ?_
  rintro e w3 ⟨v, rfl, ho, hb⟩
  obtain ⟨A4, c4, rfl, hI9⟩ := OwnI.form ho
  have P_3 := Lib.hid (P_2.out.step hb)
  clear P_2
  have B_3 := Lib.hid (B_2.out.trans (hb.mono B_2.out.size))
  clear B_2
  have R_3 := Lib.hid (R_2.out.step hb)
  clear R_2
  clear hb
  rw [← HRL.out]
  have HEQ := Lib.hid (laws_equalInts A3 A4 rl rl c3 c4 R R w3 w3.heap.size (Nat.le_refl _) HRL.out HRL.out R_3.out hI9 (by omega) (by omega))
  rw [show decide (R = R) = true from decide_eq_true rfl] at HEQ
  clear ho hI9
  go_wp2_with fail
  refine (HEQ.out).mono ?_
  rintro e w4 ⟨rfl, hb⟩
  have P_4 := Lib.hid (P_3.out.step hb)
  clear P_3
  have B_4 := Lib.hid (B_3.out.trans (hb.mono B_3.out.size))
  clear B_3
  have R_4 := Lib.hid (R_3.out.step hb)
  clear R_3
  clear hb
  clear HEQ
  cases hh : hasO ds o
  · skip
    have hrl0 : rl = 0 := by rw [HRL.out, HR.out, above_none hh]; rfl
    have hz0 : ((rl : Int) == 0) = true := by rw [hrl0]; rfl
    clear hh hrl0
    go_wp2_with fail
    refine (HSP.out w4 P_4.out).mono ?_
    rintro e w5 ⟨v, rfl, ho, hb⟩
    obtain ⟨A4, c4, rfl, hI9⟩ := OwnI.form ho
    have P_5 := Lib.hid (P_4.out.step hb)
    clear P_4
    have B_5 := Lib.hid (B_4.out.trans (hb.mono B_4.out.size))
    clear B_4
    have R_5 := Lib.hid (R_4.out.step hb)
    clear R_4
    clear hb
    rw [← HRL.out]
    have HEQ := Lib.hid (laws_equalInts A3 A4 rl rl c3 c4 R R w5 w5.heap.size (Nat.le_refl _) HRL.out HRL.out R_5.out hI9 (by omega) (by omega))
    rw [show decide (R = R) = true from decide_eq_true rfl] at HEQ
    clear ho hI9
    go_wp2_with fail
    refine (HEQ.out).mono ?_
    rintro e w6 ⟨rfl, hb⟩
    have P_6 := Lib.hid (P_5.out.step hb)
    clear P_5
    have B_6 := Lib.hid (B_5.out.trans (hb.mono B_5.out.size))
    clear B_5
    have R_6 := Lib.hid (R_5.out.step hb)
    clear R_5
    clear hb
    clear HEQ
    go_wp2
    go_ret
    exact ⟨rfl, B_6.out⟩
  · obtain ⟨t, rfl, htg, hv⟩ := hasO_at hh
    obtain ⟨f1, f2, f3, f4⟩ := above_facts hv t htg
    rw [← HR.out] at f1 f2 f3 f4
    rw [← HRL.out] at f1 f3
    have HF2 := Lib.hid f2
    have HF3 := Lib.hid f3
    have HF4 := Lib.hid f4
    have hrn : ((rl : Int) == 0) = false := by simp; omega
    have hrl1 : 1 ≤ rl := f1
    clear f1 f2 f3 f4 hh hv htg HIM HSP
    go_wp2
    go_loopw [6] (fun u wr => ∃ k : Nat, 1 ≤ k ∧ k ≤ rl ∧ u = .int .i64 k ∧ Hid (Below w4.heap.size w4 wr) ∧ w4.heap.size ≤ wr.heap.size) (fun u _ => rl - (intOf u).toNat)
    case atStart => exact ⟨1, Nat.le_refl _, hrl1, rfl, Below.refl _ _, Nat.le_refl _⟩
    case round =>
      obtain ⟨k, hk1, hk, rfl, HB, hwr⟩ := hrel
      obtain ⟨w5, hwK⟩ : ∃ W, W = wr := ⟨_, rfl⟩
      rw [← hwK]
      rw [← hwK] at HB hwr
      clear hwK
      have P_5 := Lib.hid (P_4.out.step HB.out)
      have B_5 := Lib.hid (B_4.out.trans (HB.out.mono B_4.out.size))
      have R_5 := Lib.hid (R_4.out.step HB.out)
      have BK_5 := HB
      clear HB
      by_cases hlt : k < rl
      · obtain ⟨q, e1, e2, e3⟩ := HF4.out (k - 1) (by have := HRL.out; omega)
        rw [show k - 1 + 1 = k by omega] at e3
        obtain ⟨b3, o3, rfl, hb3, x3⟩ := R_5.out (by have := HRL.out; omega)
        have x4 := x3 (k - 1) (by have := HRL.out; omega)
        have x5 := x3 k (by have := HRL.out; omega)
        rw [e1] at x4
        rw [e3] at x5
        clear x3 e1 e3
        obtain ⟨b, off, rfl, hbB, d0, d1, ⟨A6, n6, c6, d2, hn6, i6⟩, A7, n7, c7, d3, hn7, i7⟩ := P_5.out.at_ q (by have := HN1.out; omega)
        clear d1 d2 hn6 i6 d3 hn7 i7
        have hwk : IntKind.i64.wrap ((k : Int) - 1) = ((k - 1 : Nat) : Int) := by rw [IntKind.wrap_i64]; omega
        have hqn : q < n1 := by have := HN1.out; omega
        have hkl1 : k - 1 < rl := by omega
        have hkk : ((k - 1 : Nat) : Int) < (rl : Int) := by omega
        have hqq2 : (q : Int) < (n1 : Int) := by omega
        generalize (ds.getD q default).p = pp at *
        have hpp : (pp != pp) = false := by simp
        generalize k - 1 = k0 at *
        go_wp2
        go_region
        go_wp2
        go_roundw
        case rel => exact ⟨k + 1, by omega, by omega, by go_num, BK_5.out.drew, BK_5.out.size⟩
        case measure => simp [intOf]; omega
      · obtain rfl : k = rl := by omega
        obtain ⟨b3, o3, rfl, hb3, x3⟩ := R_5.out (by have := HRL.out; omega)
        have x4 := x3 0 (by have := HRL.out; omega)
        have x5 := x3 (k - 1) (by have := HRL.out; omega)
        rw [HF2.out, Nat.add_zero] at x4
        rw [HF3.out] at x5
        clear x3
        have hwk : IntKind.i64.wrap ((k : Int) - 1) = ((k - 1 : Nat) : Int) := by rw [IntKind.wrap_i64]; omega
        have hkl1 : k - 1 < k := by omega
        have hkk : ((k - 1 : Nat) : Int) < (k : Int) := by omega
        have hk0 : (0 : Int) < (k : Int) := by omega
        generalize k - 1 = k0 at *
        go_wp2
        go_ret
        exact ⟨ret_b (by simp), B_5.out⟩
end Go.Proofs.Ytjhpknnhgbdkiaa
