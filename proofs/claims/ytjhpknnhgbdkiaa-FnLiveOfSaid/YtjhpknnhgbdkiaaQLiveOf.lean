/- laws.FnLiveOf returns true for all bytes, and writes nothing that was there. (Made by genpl.py.) -/
import Derived.Test.YtjhpknnhgbdkiaaR24
import Derived.Test.YtjhpknnhgbdkiaaP9a
import Derived.Test.YtjhpknnhgbdkiaaM38
import Derived.Deep.RegionHeld3
import Derived.BigQuiet
import Derived.Deep.QuietTactic

namespace Go.Proofs.Ytjhpknnhgbdkiaa
set_option linter.unusedSimpArgs false
set_option linter.unusedVariables false
open Go.RowKit

set_option maxRecDepth 100000 in
set_option maxHeartbeats 6400000 in
theorem plaw_LiveOf (A : Option Addr) (n c : Nat) (bs : List Int) (w : World) (hn : n = bs.length) (hnc : n ≤ c) (h : BS w w.heap.size A bs) (hy : BY bs) (hm : n ≤ 9223372036854775807) :
    Calls Try.prog 6 #[.slice A n c] w fun e w' => e = .returned (.bool true) ∧ Below w.heap.size w w' := by
  by_cases hs : 1048576 < n
  · clear hn hnc h hy
    go_enter Try.func6, Try.ntmps6
    go_wp2
    go_ret
    exact ⟨rfl, Below.refl _ _⟩
  have HC := Lib.hid (spec_DrawLiveOf A n c bs w hn hnc h hy (by omega))
  clear hn hnc h hy
  go_enter Try.func6, Try.ntmps6
  go_wp2_with fail
  refine HC.out.mono ?_
  rintro e w1 ⟨A1, n1, c1, ds, rfl, hp1, hn1, hn12, hnc1, hOB, hlens, hP, hb⟩
  have HN1 := Lib.hid hp1
  have HOB := Lib.hid hOB
  have HLE := Lib.hid hlens
  have P_1 := Lib.hid (hP)
  have B_1 := Lib.hid (hb)
  clear hP hp1 hb HC hOB hlens
  have HIM := Lib.hid fun (w' : World) (h : OS w' w'.heap.size A1 ds) =>  top_impl_LiveOf ds HOB.out A1 n1 c1 w' HN1.out hnc1 h
  have HSP := Lib.hid fun (w' : World) (h : OS w' w'.heap.size A1 ds) =>  top_spec_LiveOf ds HOB.out A1 n1 c1 w' HN1.out hnc1 h
  have HVO := Lib.hid fun (w' : World) (h : OS w' w'.heap.size A1 ds) =>  top_impl_ValidOwners ds HOB.out A1 n1 c1 w' HN1.out hnc1 h
  have hml := liveF_len ds
  have HF := Lib.hid (live_facts (ds := ds))
  generalize validO ds = v at *
  generalize liveF ds = R at *
  go_wp2_with fail
  refine (HIM.out w1 P_1.out).mono ?_
  rintro e w2 ⟨v, rfl, ho, hb⟩
  have P_2 := Lib.hid (P_1.out.step hb)
  clear P_1
  have B_2 := Lib.hid (B_1.out.trans (hb.mono B_1.out.size))
  clear B_1
  clear hb
  obtain ⟨A3, c3, rfl, hI9⟩ := OwnI.form ho
  obtain ⟨rl, hl2⟩ : ∃ l, l = R.length := ⟨_, rfl⟩
  have HRL := Lib.hid hl2
  rw [← hl2]
  have R_2 := Lib.hid (hI9)
  clear ho hI9 hl2
  rw [← HRL.out] at hml
  go_wp2_with fail
  refine (HSP.out w2 P_2.out).mono ?_
  rintro e w3 ⟨v, rfl, ho, hb⟩
  obtain ⟨A4, c4, rfl, hI9⟩ := OwnI.form ho
  have P_3 := Lib.hid (P_2.out.step hb)
  clear P_2
  have B_3 := Lib.hid (B_2.out.trans (hb.mono B_2.out.size))
  clear B_2
  have R_3 := Lib.hid (R_2.out.step hb)
  clear R_2
  clear hb
  rw [← HRL.out]
  have HEQ := Lib.hid (laws_equalInts A3 A4 rl rl c3 c4 R R w3 w3.heap.size (Nat.le_refl _) HRL.out HRL.out R_3.out hI9 (by omega) (by omega))
  rw [show decide (R = R) = true from decide_eq_true rfl] at HEQ
  clear ho hI9
  go_wp2_with fail
  refine (HEQ.out).mono ?_
  rintro e w4 ⟨rfl, hb⟩
  have P_4 := Lib.hid (P_3.out.step hb)
  clear P_3
  have B_4 := Lib.hid (B_3.out.trans (hb.mono B_3.out.size))
  clear B_3
  have R_4 := Lib.hid (R_3.out.step hb)
  clear R_3
  clear hb
  clear HEQ
  go_wp2_with fail
  refine (HVO.out w4 P_4.out).mono ?_
  rintro e w5 ⟨rfl, hb⟩
  have P_5 := Lib.hid (P_4.out.step hb)
  clear P_4
  have B_5 := Lib.hid (B_4.out.trans (hb.mono B_4.out.size))
  clear B_4
  have R_5 := Lib.hid (R_4.out.step hb)
  clear R_4
  clear hb
  cases v
  · skip
    go_wp2_with fail
    refine (HSP.out w5 P_5.out).mono ?_
    rintro e w6 ⟨v, rfl, ho, hb⟩
    obtain ⟨A4, c4, rfl, hI9⟩ := OwnI.form ho
    have P_6 := Lib.hid (P_5.out.step hb)
    clear P_5
    have B_6 := Lib.hid (B_5.out.trans (hb.mono B_5.out.size))
    clear B_5
    have R_6 := Lib.hid (R_5.out.step hb)
    clear R_5
    clear hb
    rw [← HRL.out]
    have HEQ := Lib.hid (laws_equalInts A3 A4 rl rl c3 c4 R R w6 w6.heap.size (Nat.le_refl _) HRL.out HRL.out R_6.out hI9 (by omega) (by omega))
    rw [show decide (R = R) = true from decide_eq_true rfl] at HEQ
    clear ho hI9
    go_wp2_with fail
    refine (HEQ.out).mono ?_
    rintro e w7 ⟨rfl, hb⟩
    have P_7 := Lib.hid (P_6.out.step hb)
    clear P_6
    have B_7 := Lib.hid (B_6.out.trans (hb.mono B_6.out.size))
    clear B_6
    have R_7 := Lib.hid (R_6.out.step hb)
    clear R_6
    clear hb
    clear HEQ
    go_wp2
    go_ret
    exact ⟨rfl, B_7.out⟩
  · obtain ⟨f1, f2⟩ := HF.out (by first | rfl | trivial)
    have HF1 := Lib.hid f1
    have HF2 := Lib.hid f2
    clear HF f1 f2 HIM HSP HVO
    go_wp2
    go_loopw [5] (fun u wr => ∃ k : Nat, k ≤ rl ∧ u = .int .i64 k ∧ Hid (Below w5.heap.size w5 wr) ∧ w5.heap.size ≤ wr.heap.size) (fun u _ => rl - (intOf u).toNat)
    case atStart => exact ⟨0, Nat.zero_le _, rfl, Below.refl _ _, Nat.le_refl _⟩
    case round =>
      obtain ⟨k, hk, rfl, HB, hwr⟩ := hrel
      obtain ⟨w6, hwK⟩ : ∃ W, W = wr := ⟨_, rfl⟩
      rw [← hwK]
      rw [← hwK] at HB hwr
      clear hwK
      have P_6 := Lib.hid (P_5.out.step HB.out)
      have B_6 := Lib.hid (B_5.out.trans (HB.out.mono B_5.out.size))
      have R_6 := Lib.hid (R_5.out.step HB.out)
      have BK_6 := HB
      clear HB
      by_cases hlt : k < rl
      · obtain ⟨q, e1, e2, e3, e4⟩ := HF2.out k (by have := HRL.out; omega)
        have E4 := Lib.hid e4
        clear e4
        obtain ⟨b3, o3, hA3, hb3, x3⟩ := R_6.out (by have := HRL.out; omega)
        subst hA3
        have x4 := x3 k (by have := HRL.out; omega)
        rw [e1] at x4
        clear x3 e1
        obtain ⟨b, off, rfl, hbB, d0, d1, ⟨A6, n6, c6, d2, hn6, i6⟩, A7, n7, c7, d3, hn7, i7⟩ := P_6.out.at_ q (by have := HN1.out; omega)
        clear d0 d2 hn6 i6 d3 hn7 i7
        rw [e3] at d1
        have hqn : q < n1 := by have := HN1.out; omega
        have hqq2 : (q : Int) < (n1 : Int) := by omega
        have hkr : (k : Int) < (rl : Int) := by omega
        have HAB := Lib.hid fun (w' : World) (h : OS w' w'.heap.size (some ⟨b, off, none⟩) ds) => top_impl_AboveOf ds (q : Int) HOB.out (some ⟨b, off, none⟩) n1 c1 w' HN1.out hnc1 h
        have hal := aboveF_len ds (q : Int)
        generalize aboveF ds (q : Int) = U at *
        clear e3
        have x4_6 : Hid (C1 b3 (o3 + k) (.int .i64 (q : Int)) w6) := ⟨hb3, x4⟩
        have d1_6 : Hid (C1 b (off + q * 4 + 1) (.bool true) w6) := ⟨hbB, d1⟩
        clear x4 d1
        have y4 := x4_6.out.2
        go_wp2_with fail
        refine (HAB.out w6 P_6.out).mono ?_
        rintro e w7 ⟨v7, rfl, ho, hb⟩
        have P_7 := Lib.hid (P_6.out.step hb)
        clear P_6
        have B_7 := Lib.hid (B_6.out.trans (hb.mono B_6.out.size))
        clear B_6
        have R_7 := Lib.hid (R_6.out.step hb)
        clear R_6
        have BK_7 := Lib.hid (BK_6.out.trans (hb.mono BK_6.out.size))
        clear BK_6
        have x4_7 := Lib.hid (x4_6.out.step hb)
        clear x4_6
        have d1_7 := Lib.hid (d1_6.out.step hb)
        clear d1_6
        clear hb
        clear y4
        obtain ⟨A9, c9, rfl, hI9⟩ := OwnI.form ho
        obtain ⟨ul, hl2⟩ : ∃ l, l = U.length := ⟨_, rfl⟩
        have HUL := Lib.hid hl2
        rw [← hl2]
        have U_7 := Lib.hid (hI9)
        clear ho hI9 hl2
        rw [← HUL.out] at hal
        go_wp2_with fail
        refine (within_g A9 (some ⟨b3, o3, none⟩) ul c9 rl c3 U R w7 HUL.out U_7.out (by omega) HRL.out R_7.out (by omega) E4.out).mono ?_
        rintro e w8 ⟨rfl, hb⟩
        have P_8 := Lib.hid (P_7.out.step hb)
        clear P_7
        have B_8 := Lib.hid (B_7.out.trans (hb.mono B_7.out.size))
        clear B_7
        have R_8 := Lib.hid (R_7.out.step hb)
        clear R_7
        have BK_8 := Lib.hid (BK_7.out.trans (hb.mono BK_7.out.size))
        clear BK_7
        have x4_8 := Lib.hid (x4_7.out.step hb)
        clear x4_7
        have d1_8 := Lib.hid (d1_7.out.step hb)
        clear d1_7
        have U_8 := Lib.hid (U_7.out.step hb)
        clear U_7
        clear hb
        have y4 := x4_8.out.2
        have y1 := d1_8.out.2
        go_wp2
        go_roundw
        case rel => exact ⟨k + 1, by omega, by go_num, BK_8.out, BK_8.out.size⟩
        case measure => simp [intOf]; omega
      · obtain rfl : k = rl := by omega
        have HAS := Lib.hid fun (w' : World) (h : IS w' w'.heap.size A3 R) => laws_ascends A3 k c3 R w' _ (Nat.le_refl _) HRL.out h (by omega) HF1.out
        go_wp2_with fail
        refine (HAS.out w6 R_6.out).mono ?_
        rintro e w7 ⟨rfl, hb⟩
        have P_7 := Lib.hid (P_6.out.step hb)
        clear P_6
        have B_7 := Lib.hid (B_6.out.trans (hb.mono B_6.out.size))
        clear B_6
        have R_7 := Lib.hid (R_6.out.step hb)
        clear R_6
        have BK_7 := Lib.hid (BK_6.out.trans (hb.mono BK_6.out.size))
        clear BK_6
        clear hb
        go_wp2
        go_ret
        exact ⟨rfl, B_7.out⟩
end Go.Proofs.Ytjhpknnhgbdkiaa
