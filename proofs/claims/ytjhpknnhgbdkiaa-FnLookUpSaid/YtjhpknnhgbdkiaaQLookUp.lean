/- laws.FnLookUp returns true for all bytes, and writes nothing that was there. (Made by genpl.py.) -/
import Derived.Test.YtjhpknnhgbdkiaaR24
import Derived.Test.YtjhpknnhgbdkiaaP12c
import Derived.Test.YtjhpknnhgbdkiaaM38
import Derived.Deep.RegionHeld3
import Derived.BigQuiet
import Derived.Deep.QuietTactic

namespace Go.Proofs.Ytjhpknnhgbdkiaa
set_option linter.unusedSimpArgs false
set_option linter.unusedVariables false
open Go.RowKit

set_option maxRecDepth 100000 in
set_option maxHeartbeats 6400000 in
theorem plaw_LookUp (A : Option Addr) (n c : Nat) (bs : List Int) (w : World) (hn : n = bs.length) (hnc : n ≤ c) (h : BS w w.heap.size A bs) (hy : BY bs) (hm : n ≤ 9223372036854775807) :
    Calls Try.prog 5 #[.slice A n c] w fun e w' => e = .returned (.bool true) ∧ Below w.heap.size w w' := by
  by_cases hs : 1048576 < n
  · clear hn hnc h hy
    go_enter Try.func5, Try.ntmps5
    go_wp2
    go_ret
    exact ⟨rfl, Below.refl _ _⟩
  have HC := Lib.hid (spec_DrawLookUp A n c bs w hn hnc h hy (by omega))
  clear hn hnc h hy
  go_enter Try.func5, Try.ntmps5
  go_wp2_with fail
  refine HC.out.mono ?_
  rintro e w1 ⟨A1, n1, c1, ds, o, ky, rfl, ho1, ho2, hky1, hky2, hp1, hn1, hn12, hnc1, hOB, hlens, hP, hb⟩
  have HN1 := Lib.hid hp1
  have HOB := Lib.hid hOB
  have HLE := Lib.hid hlens
  have P_1 := Lib.hid (hP)
  have B_1 := Lib.hid (hb)
  clear hP hp1 hb HC hOB hlens
  have HIM := Lib.hid fun (w' : World) (h : OS w' w'.heap.size A1 ds) =>  top_impl_LookUp ds o ky HOB.out A1 n1 c1 w' HN1.out hnc1 h
  have HSP := Lib.hid fun (w' : World) (h : OS w' w'.heap.size A1 ds) =>  top_spec_LookUp ds o ky HOB.out A1 n1 c1 w' HN1.out hnc1 h
  have HVO := Lib.hid fun (w' : World) (h : OS w' w'.heap.size A1 ds) =>  top_impl_ValidOwners ds HOB.out A1 n1 c1 w' HN1.out hnc1 h
  have HAB := Lib.hid fun (w' : World) (h : OS w' w'.heap.size A1 ds) =>  top_impl_AboveOf ds o HOB.out A1 n1 c1 w' HN1.out hnc1 h
  have hml := aboveF_len ds o
  obtain ⟨L, hL⟩ : ∃ L, L = lookO ds o ky := ⟨_, rfl⟩
  have HL := Lib.hid hL
  rw [← hL] at HIM HSP
  clear hL
  obtain ⟨gv, hgv⟩ : ∃ g, g = L.getD 0 := ⟨_, rfl⟩
  obtain ⟨ov, hov⟩ : ∃ g, g = L.isSome := ⟨_, rfl⟩
  rw [← hgv, ← hov] at HIM HSP
  have HGV := Lib.hid hgv
  have HOV := Lib.hid hov
  clear hgv hov
  have hgg : (gv != gv) = false := by simp
  have hoo : (ov != ov) = false := by simp
  go_wp2_with fail
  refine (HIM.out w1 P_1.out).mono ?_
  rintro e w2 ⟨rfl, hb⟩
  have P_2 := Lib.hid (P_1.out.step hb)
  clear P_1
  have B_2 := Lib.hid (B_1.out.trans (hb.mono B_1.out.size))
  clear B_1
  clear hb
  go_wp2_with fail
  refine (HSP.out w2 P_2.out).mono ?_
  rintro e w3 ⟨rfl, hb⟩
  have P_3 := Lib.hid (P_2.out.step hb)
  clear P_2
  have B_3 := Lib.hid (B_2.out.trans (hb.mono B_2.out.size))
  clear B_2
  clear hb
  go_wp2_with fail
  refine (HVO.out w3 P_3.out).mono ?_
  rintro e w4 ⟨rfl, hb⟩
  have P_4 := Lib.hid (P_3.out.step hb)
  clear P_3
  have B_4 := Lib.hid (B_3.out.trans (hb.mono B_3.out.size))
  clear B_3
  clear hb
  clear HIM HSP HVO
  cases hv : validO ds
  · skip
    go_wp2
    go_ret
    exact ⟨ret_b (by simp), B_4.out⟩
  · by_cases hx0 : o < 0
    · skip
      go_wp2
      go_ret
      exact ⟨ret_b (by simp), B_4.out⟩
    · by_cases hx1 : (n1 : Int) ≤ o
      · skip
        go_wp2
        go_ret
        exact ⟨ret_b (by simp), B_4.out⟩
      · by_cases hx2 : ky < 0
        · skip
          go_wp2
          go_ret
          exact ⟨ret_b (by simp), B_4.out⟩
        · by_cases hx3 : 3 ≤ ky
          · skip
            go_wp2
            go_ret
            exact ⟨ret_b (by simp), B_4.out⟩
          · obtain ⟨t, rfl⟩ : ∃ t : Nat, o = (t : Int) := ⟨o.toNat, by omega⟩
            obtain ⟨q, rfl⟩ : ∃ t : Nat, ky = (t : Int) := ⟨ky.toNat, by omega⟩
            have htg : t < ds.length := by have := HN1.out; omega
            have hq3 : q < 3 := by omega
            have hll := HL.out
            rw [look_facts hv t q htg hq3] at hll
            have HAC := Lib.hid (above_ctx hv t htg)
            clear hv htg HL
            generalize aboveF ds (t : Int) = R at *
            have HL := Lib.hid hll
            clear hll
            go_wp2_with fail
            refine (HAB.out w4 P_4.out).mono ?_
            rintro e w5 ⟨v, rfl, ho, hb⟩
            have P_5 := Lib.hid (P_4.out.step hb)
            clear P_4
            have B_5 := Lib.hid (B_4.out.trans (hb.mono B_4.out.size))
            clear B_4
            clear hb
            obtain ⟨A3, c3, rfl, hI9⟩ := OwnI.form ho
            obtain ⟨rl, hl2⟩ : ∃ l, l = R.length := ⟨_, rfl⟩
            have HRL := Lib.hid hl2
            rw [← hl2]
            have R_5 := Lib.hid (hI9)
            clear ho hI9 hl2
            rw [← HRL.out] at hml
            clear HAB
            go_wp2
            clear hx0 hx1 hx2 hx3
            try (rename (0 ≤ (t : Int) ∧ ¬ n1 ≤ t) => h7; clear h7)
            go_loopw [11] (fun u wr => ∃ k : Nat, k ≤ rl ∧ u = .int .i64 k ∧ Hid (L = lookG ds q (R.drop k)) ∧ Hid (Below w5.heap.size w5 wr) ∧ w5.heap.size ≤ wr.heap.size) (fun u _ => rl - (intOf u).toNat)
            case atStart => exact ⟨0, Nat.zero_le _, rfl, HL.out, Below.refl _ _, Nat.le_refl _⟩
            case round =>
              obtain ⟨k, hk, rfl, HLk, HB, hwr⟩ := hrel
              clear HL
              obtain ⟨w6, hwK⟩ : ∃ W, W = wr := ⟨_, rfl⟩
              rw [← hwK]
              rw [← hwK] at HB hwr
              clear hwK
              have P_6 := Lib.hid (P_5.out.step HB.out)
              have B_6 := Lib.hid (B_5.out.trans (HB.out.mono B_5.out.size))
              have R_6 := Lib.hid (R_5.out.step HB.out)
              have BK_6 := HB
              clear HB
              by_cases hlt : k < rl
              · obtain ⟨r, e1, e2, e3⟩ := HAC.out k (by have := HRL.out; omega)
                have hst := look_step ds q R k (by have := HRL.out; omega)
                have hfo := look_found ds q R k (by have := HRL.out; omega)
                obtain ⟨b3, o3, hA3, hb3, x3⟩ := R_6.out (by have := HRL.out; omega)
                subst hA3
                have x4 := x3 k (by have := HRL.out; omega)
                rw [e1] at x4 hst hfo
                clear x3 e1
                obtain ⟨b, off, rfl, hbB, d0, d1, ⟨A6, n6, c6, d2, hn6, i6⟩, A7, n7, c7, d3, hn7, i7⟩ := P_6.out.at_ r (by have := HN1.out; omega)
                clear d0 d1 d2 hn6 i6
                rw [e3] at hn7
                subst hn7
                obtain ⟨b7, o7, rfl, hb7, x7⟩ := i7 (by omega)
                have x8 := x7 q (by omega)
                clear x7
                have hcv : ctxV ds q (r : Int) = (ds.getD r default).cx.getD q 0 := by unfold ctxV; rw [show ((r : Int)).toNat = r by omega]
                rw [hcv] at hst hfo
                have hrn : r < n1 := by have := HN1.out; omega
                have hrn2 : (r : Int) < (n1 : Int) := by omega
                have hkr : (k : Int) < (rl : Int) := by omega
                have hq4 : (q : Int) < 3 := by omega
                clear e2 e3 hcv
                generalize (ds.getD r default).cx.getD q 0 = cv at *
                by_cases h0 : 0 ≤ cv
                · have hLv : L = some cv := HLk.out.trans (hfo h0)
                  have hg9 := HGV.out
                  have ho9 := HOV.out
                  rw [hLv] at hg9 ho9
                  simp at hg9 ho9
                  subst hg9
                  subst ho9
                  clear hst hfo HLk hLv HGV HOV
                  go_wp2
                  go_ret
                  exact ⟨ret_b (by simp), B_6.out⟩
                · have HLn := Lib.hid (HLk.out.trans (hst (by omega)))
                  clear hst hfo HLk
                  go_wp2
                  go_roundw
                  case rel => exact ⟨k + 1, by omega, by go_num, HLn.out, BK_6.out, BK_6.out.size⟩
                  case measure => simp [intOf]; omega
              · obtain rfl : k = rl := by omega
                have hLv : L = none := by rw [HLk.out, List.drop_of_length_le (by have := HRL.out; omega)]; rfl
                have hg9 := HGV.out
                have ho9 := HOV.out
                rw [hLv] at hg9 ho9
                simp at hg9 ho9
                subst hg9
                subst ho9
                clear HLk hLv HGV HOV
                go_wp2
                go_ret
                exact ⟨ret_b (by simp), B_6.out⟩
end Go.Proofs.Ytjhpknnhgbdkiaa
