/- laws.FnRerunOwnerAll returns true for all bytes, and writes nothing that was there. (Made by genpl.py.) -/
import Derived.Test.YtkfglodjnnlbkaaT22a
import Derived.Test.YtkfglodjnnlbkaaR25
import Derived.Test.YtkfglodjnnlbkaaM43
import Derived.Test.YtkfglodjnnlbkaaV33
import Derived.Test.YtkfglodjnnlbkaaJG
import Derived.Deep.RegionHeld3
import Derived.BigQuiet
import Derived.Deep.QuietTactic

namespace Go.Proofs.Ytkfglodjnnlbkaa
set_option linter.unusedSimpArgs false
set_option linter.unusedVariables false
open Go.RowKit

theorem tot_take (ds : List On) (k : Nat) (hk : k < ds.length) : tot (ds.take (k + 1)) = tot (ds.take k) + (ds.getD k default).cl.length := by
  unfold tot
  rw [List.take_succ_eq_append_getElem hk, List.map_append, List.sum_append]
  simp [List.getD, hk]
theorem tot_take_le (ds : List On) (k : Nat) : tot (ds.take k) ≤ tot ds := by
  have h : tot ds = tot (ds.take k) + tot (ds.drop k) := by
    unfold tot
    rw [← List.sum_append, ← List.map_append, List.take_append_drop]
  omega

set_option maxRecDepth 100000 in
set_option maxHeartbeats 6400000 in
theorem plaw_RerunOwnerAll (A : Option Addr) (n c : Nat) (bs : List Int) (w : World) (hn : n = bs.length) (hnc : n ≤ c) (h : BS w w.heap.size A bs) (hy : BY bs) (hm : n ≤ 9223372036854775807) :
    Calls Try.prog 6 #[.slice A n c] w fun e w' => e = .returned (.bool true) ∧ Below w.heap.size w w' := by
  by_cases hs : 1048576 < n
  · clear hn hnc h hy
    go_enter Try.func6, Try.ntmps6
    go_wp2
    go_ret
    exact ⟨rfl, Below.refl _ _⟩
  have HC := Lib.hid (spec_DrawRerunOwner A n c bs w hn hnc h hy (by omega))
  clear hn hnc h hy
  go_enter Try.func6, Try.ntmps6
  go_wp2_with fail
  refine HC.out.mono ?_
  rintro e w1 ⟨A1, n1, c1, ds, o, rfl, ho1, ho2, hp1, hn1, hn12, hnc1, hOB, hlens, hP, hb⟩
  have HN1 := Lib.hid hp1
  have HOB := Lib.hid hOB
  have HLE := Lib.hid hlens
  have P_1 := Lib.hid (hP)
  have B_1 := Lib.hid (hb)
  clear hP hp1 hb HC hOB hlens
  have HIM := Lib.hid fun (w' : World) (h : OS w' w'.heap.size A1 ds) =>  top_impl_RerunOwner ds o HOB.out A1 n1 c1 w' HN1.out hnc1 h
  have HSP := Lib.hid fun (w' : World) (h : OS w' w'.heap.size A1 ds) =>  top_spec_RerunOwner ds o HOB.out A1 n1 c1 w' HN1.out hnc1 h
  have HOR := Lib.hid (rerF_OB ds o)
  have hlb := rerL_len ds o
  obtain ⟨R, hR⟩ : ∃ R, R = rerF ds o := ⟨_, rfl⟩
  obtain ⟨L, hL⟩ : ∃ L, L = rerL ds o := ⟨_, rfl⟩
  have HR := Lib.hid hR
  have HLd := Lib.hid hL
  rw [← hR] at HIM HSP HOR
  rw [← hL] at HIM HSP hlb
  clear hR hL
  go_wp2_with fail
  refine (HIM.out w1 P_1.out).mono ?_
  rintro e w2 ⟨v, u, mid, rfl, ho, ho2, hm1, hm2, hb⟩
  obtain ⟨A3, c3, rfl⟩ := OwO.form ho
  have hnc9 := own_ncapP ho
  have hI9 := ho.owners
  have hJ8 : OwnI w2 w1.heap.size _ (L) := ho2.1
  obtain ⟨A5, c5, rfl, hJ9⟩ := OwnI.form hJ8
  clear hJ8
  have P_2 := Lib.hid (P_1.out.step hb)
  clear P_1
  have B_2 := Lib.hid (B_1.out.trans (hb.mono B_1.out.size))
  clear B_1
  clear hb
  have hnc3 := hnc9
  obtain ⟨rl, hl2⟩ : ∃ l, l = R.length := ⟨_, rfl⟩
  have HRL := Lib.hid hl2
  rw [← hl2]
  rw [← hl2] at hnc3
  obtain ⟨ll, hl3⟩ : ∃ l, l = L.length := ⟨_, rfl⟩
  have HLL := Lib.hid hl3
  rw [← hl3]
  rw [← hl3] at hlb
  have R_2 := Lib.hid (hI9)
  have L_2 := Lib.hid (hJ9)
  clear ho ho2 hI9 hJ9 hl2 hl3 hnc9 hm1 hm2
  go_wp2_with fail
  refine (HSP.out w2 P_2.out).mono ?_
  rintro e w3 ⟨v, u, rfl, ho, ho2, hb⟩
  obtain ⟨A4, c4, rfl⟩ := OwO.form ho
  have hnc9 := own_ncapP ho
  have hI9 := ho.owners
  have hJ8 : OwnI w3 w2.heap.size _ (L) := ho2
  obtain ⟨A6, c6, rfl, hJ9⟩ := OwnI.form hJ8
  clear hJ8
  have P_3 := Lib.hid (P_2.out.step hb)
  clear P_2
  have B_3 := Lib.hid (B_2.out.trans (hb.mono B_2.out.size))
  clear B_2
  have R_3 := Lib.hid (R_2.out.step hb)
  clear R_2
  have L_3 := Lib.hid (L_2.out.step hb)
  clear L_2
  clear hb
  rw [← HRL.out, ← HLL.out]
  have S_3 := Lib.hid (hI9)
  have M_3 := Lib.hid (hJ9)
  clear ho ho2 hI9 hJ9 hnc9 HIM HSP
  have HEQ := Lib.hid (laws_equalOwners A3 A4 rl c3 c4 R w3 w3.heap.size (Nat.le_refl _) HRL.out R_3.out S_3.out HOR.out)
  go_wp2_with fail
  refine (HEQ.out).mono ?_
  rintro e w4 ⟨rfl, hb⟩
  have P_4 := Lib.hid (P_3.out.step hb)
  clear P_3
  have B_4 := Lib.hid (B_3.out.trans (hb.mono B_3.out.size))
  clear B_3
  have R_4 := Lib.hid (R_3.out.step hb)
  clear R_3
  have L_4 := Lib.hid (L_3.out.step hb)
  clear L_3
  have S_4 := Lib.hid (S_3.out.step hb)
  clear S_3
  have M_4 := Lib.hid (M_3.out.step hb)
  clear M_3
  clear hb
  clear HEQ
  have HEQ := Lib.hid (eq_g A5 A6 ll c5 c6 L w4 HLL.out L_4.out M_4.out (by omega))
  go_wp2_with fail
  refine (HEQ.out).mono ?_
  rintro e w5 ⟨rfl, hb⟩
  have P_5 := Lib.hid (P_4.out.step hb)
  clear P_4
  have B_5 := Lib.hid (B_4.out.trans (hb.mono B_4.out.size))
  clear B_4
  have R_5 := Lib.hid (R_4.out.step hb)
  clear R_4
  have L_5 := Lib.hid (L_4.out.step hb)
  clear L_4
  have S_5 := Lib.hid (S_4.out.step hb)
  clear S_4
  have M_5 := Lib.hid (M_4.out.step hb)
  clear M_4
  clear hb
  clear HEQ
  cases hh : hasOpO ds o
  · skip
    have hr0 : rl = 0 := by rw [HRL.out, HR.out]; unfold rerF; rw [hh]; rfl
    have hz0 : ((rl : Int) == 0) = true := by rw [hr0]; rfl
    clear hh hr0
    have HEQ := Lib.hid (laws_equalOwners A3 A4 rl c3 c4 R w5 w5.heap.size (Nat.le_refl _) HRL.out R_5.out S_5.out HOR.out)
    go_wp2_with fail
    refine (HEQ.out).mono ?_
    rintro e w6 ⟨rfl, hb⟩
    have P_6 := Lib.hid (P_5.out.step hb)
    clear P_5
    have B_6 := Lib.hid (B_5.out.trans (hb.mono B_5.out.size))
    clear B_5
    have R_6 := Lib.hid (R_5.out.step hb)
    clear R_5
    have L_6 := Lib.hid (L_5.out.step hb)
    clear L_5
    have S_6 := Lib.hid (S_5.out.step hb)
    clear S_5
    have M_6 := Lib.hid (M_5.out.step hb)
    clear M_5
    clear hb
    clear HEQ
    have HEQ := Lib.hid (eq_g A5 A6 ll c5 c6 L w6 HLL.out L_6.out M_6.out (by omega))
    go_wp2_with fail
    refine (HEQ.out).mono ?_
    rintro e w7 ⟨rfl, hb⟩
    have P_7 := Lib.hid (P_6.out.step hb)
    clear P_6
    have B_7 := Lib.hid (B_6.out.trans (hb.mono B_6.out.size))
    clear B_6
    have R_7 := Lib.hid (R_6.out.step hb)
    clear R_6
    have L_7 := Lib.hid (L_6.out.step hb)
    clear L_6
    have S_7 := Lib.hid (S_6.out.step hb)
    clear S_6
    have M_7 := Lib.hid (M_6.out.step hb)
    clear M_6
    clear hb
    clear HEQ
    go_wp2
    go_ret
    exact ⟨rfl, B_7.out⟩
  · obtain ⟨a1, a2, a3, a4⟩ := all_facts hh
    obtain ⟨_, _, _, hv⟩ := hasOpO_at hh
    have htv := tot_valid hv
    rw [← HR.out, ← HLd.out, ← HLL.out] at a2
    rw [← HR.out, ← HRL.out, ← HN1.out] at a3
    have HA1 := Lib.hid a1
    have HA2 := Lib.hid a2
    have HTV := Lib.hid htv
    have hrn : rl = n1 := a3
    have hr0 : ((rl : Int) == 0) = false := by rw [beq_eq_false_iff_ne]; omega
    have HRN := Lib.hid hrn
    have hrl12 : rl ≤ 12 := by omega
    have HLA := Lib.hid fun (w' : World) (h : OS w' w'.heap.size A1 ds) => top_impl_LabelsOf ds 0 HOB.out A1 n1 c1 w' HN1.out hnc1 h
    clear a1 a2 a3 a4 hh hv htv hrn
    go_wp2
    go_loopw [9, 10] (fun t u wr => ∃ k : Nat, k ≤ n1 ∧ t = .int .i64 ((tot (ds.take k) : Nat) : Int) ∧ u = .int .i64 k ∧ Hid (Below w5.heap.size w5 wr) ∧ w5.heap.size ≤ wr.heap.size) (fun _ u _ => n1 - (intOf u).toNat)
    case atStart => exact ⟨0, Nat.zero_le _, by simp [tot], rfl, Below.refl _ _, Nat.le_refl _⟩
    case round =>
      obtain ⟨k, hk, rfl, rfl, HB, hwr⟩ := hrel
      obtain ⟨w6, hwK⟩ : ∃ W, W = wr := ⟨_, rfl⟩
      rw [← hwK]
      rw [← hwK] at HB hwr
      clear hwK
      have P_6 := Lib.hid (P_5.out.step HB.out)
      have B_6 := Lib.hid (B_5.out.trans (HB.out.mono B_5.out.size))
      have R_6 := Lib.hid (R_5.out.step HB.out)
      have L_6 := Lib.hid (L_5.out.step HB.out)
      have S_6 := Lib.hid (S_5.out.step HB.out)
      have M_6 := Lib.hid (M_5.out.step HB.out)
      have BK_6 := HB
      clear HB
      by_cases hlt : k < n1
      · have hts := tot_take ds k (by have := HN1.out; omega)
        have htl := tot_take_le ds (k + 1)
        obtain ⟨b9, o9, hA9, hb9, e0, e1, ⟨B6, q6, g6, e2, hq6, j6⟩, B7, q7, g7, e3, hq7, j7⟩ := P_6.out.at_ k (by have := HN1.out; omega)
        subst hA9
        clear e0 e1 j6 e3 hq7 j7
        rw [← hq6] at hts
        have hkn : (k : Int) < (n1 : Int) := by omega
        have htb : tot (ds.take (k + 1)) ≤ 60 := by have := HTV.out; have := HA2.out; omega
        generalize htk : tot (ds.take k) = tk at *
        have HTS := Lib.hid hts
        have hq60 : q6 ≤ 60 := by omega
        have htk60 : tk ≤ 60 := by omega
        clear hts htl htk hq6 htb
        go_wp2
        go_roundw
        case rel => exact ⟨k + 1, by omega, by rw [HTS.out]; go_num, by go_num, BK_6.out, BK_6.out.size⟩
        case measure => simp [intOf]; omega
      · obtain rfl : k = n1 := by omega
        have htl9 : ds.take k = ds := List.take_of_length_le (by have := HN1.out; omega)
        rw [htl9]
        clear htl9 hlt
        go_wp2_with fail
        refine (HLA.out w6 P_6.out).mono ?_
        rintro e w7 ⟨v, rfl, ho, hb⟩
        have P_7 := Lib.hid (P_6.out.step hb)
        clear P_6
        have B_7 := Lib.hid (B_6.out.trans (hb.mono B_6.out.size))
        clear B_6
        have R_7 := Lib.hid (R_6.out.step hb)
        clear R_6
        have L_7 := Lib.hid (L_6.out.step hb)
        clear L_6
        have S_7 := Lib.hid (S_6.out.step hb)
        clear S_6
        have M_7 := Lib.hid (M_6.out.step hb)
        clear M_6
        have BK_7 := Lib.hid (BK_6.out.trans (hb.mono BK_6.out.size))
        clear BK_6
        clear hb
        obtain ⟨A9, c9, rfl, hI9⟩ := OwnI.form ho
        rw [HA1.out]
        clear ho hI9 HLA
        have HT1 : Hid (tot ds ≤ 60) := HTV.out
        obtain ⟨td, htd⟩ : ∃ t, t = tot ds := ⟨_, rfl⟩
        have HTD := Lib.hid htd
        rw [← htd]
        clear htd
        obtain ⟨n2, hn2⟩ : ∃ n, n = rl := ⟨_, rfl⟩
        rw [← hn2]
        have hrn2 : n2 ≤ 12 := by omega
        have HR2 : Hid (n2 = R.length) := by show _ = _; rw [hn2]; exact HRL.out
        clear hn2
        go_wp2
        go_loopw [12, 13] (fun t u wr => ∃ k : Nat, k ≤ n2 ∧ t = .int .i64 ((tot (R.take k) : Nat) : Int) ∧ u = .int .i64 k ∧ Hid (Below w7.heap.size w7 wr) ∧ w7.heap.size ≤ wr.heap.size) (fun _ u _ => n2 - (intOf u).toNat)
        case atStart => exact ⟨0, Nat.zero_le _, by simp [tot], rfl, Below.refl _ _, Nat.le_refl _⟩
        case round =>
          obtain ⟨k, hk, rfl, rfl, HB, hwr⟩ := hrel
          obtain ⟨w8, hwK⟩ : ∃ W, W = wr := ⟨_, rfl⟩
          rw [← hwK]
          rw [← hwK] at HB hwr
          clear hwK
          have P_8 := Lib.hid (P_7.out.step HB.out)
          have B_8 := Lib.hid (B_7.out.trans (HB.out.mono B_7.out.size))
          have R_8 := Lib.hid (R_7.out.step HB.out)
          have L_8 := Lib.hid (L_7.out.step HB.out)
          have S_8 := Lib.hid (S_7.out.step HB.out)
          have M_8 := Lib.hid (M_7.out.step HB.out)
          have BK_8 := Lib.hid (BK_7.out.trans (HB.out.mono BK_7.out.size))
          have BK_8 := HB
          clear HB
          by_cases hlt : k < n2
          · have hts := tot_take R k (by have := HR2.out; omega)
            have htl := tot_take_le R (k + 1)
            obtain ⟨b9, o9, hA9, hb9, e0, e1, ⟨B6, q6, g6, e2, hq6, j6⟩, B7, q7, g7, e3, hq7, j7⟩ := R_8.out.at_ k (by have := HR2.out; omega)
            subst hA9
            clear e0 e1 j6 e3 hq7 j7
            rw [← hq6] at hts
            have hkn : (k : Int) < (n2 : Int) := by omega
            have htb : tot (R.take (k + 1)) ≤ 60 := by have := HTV.out; have := HA2.out; omega
            generalize htk : tot (R.take k) = tk at *
            have HTS := Lib.hid hts
            have hq60 : q6 ≤ 60 := by omega
            have htk60 : tk ≤ 60 := by omega
            clear hts htl htk hq6 htb
            go_wp2
            go_roundw
            case rel => exact ⟨k + 1, by omega, by rw [HTS.out]; go_num, by go_num, BK_8.out, BK_8.out.size⟩
            case measure => simp [intOf]; omega
          · obtain rfl : k = n2 := by omega
            have htl9 : R.take k = R := List.take_of_length_le (by have := HR2.out; omega)
            rw [htl9]
            clear htl9 hlt
            have hsum : ((tot R : Nat) : Int) + (ll : Int) = (td : Int) := by have := HA2.out; have := HTD.out; omega
            have htd60 : td ≤ 60 := by have := HTD.out; have := HT1.out; omega
            have htr60 : tot R ≤ 60 := by omega
            generalize tot R = tr at *
            have hww : IntKind.i64.wrap ((tr : Int) + (ll : Int)) = (td : Int) := by rw [IntKind.wrap_i64]; omega
            go_wp2
            go_ret
            exact ⟨ret_b (by simp), B_8.out⟩
end Go.Proofs.Ytkfglodjnnlbkaa
