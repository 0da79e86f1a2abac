/- laws.FnDisposeOwner returns true for all bytes, and writes nothing that was there. (Made by genpl.py.) -/
import Derived.Test.YtkfglodjnnlbkaaT22a
import Derived.Test.YtkfglodjnnlbkaaR25
import Derived.Test.YtkfglodjnnlbkaaM43
import Derived.Test.YtkfglodjnnlbkaaV33
import Derived.Test.YtkfglodjnnlbkaaJG
import Derived.Deep.RegionHeld3
import Derived.BigQuiet
import Derived.Deep.QuietTactic

namespace Go.Proofs.Ytkfglodjnnlbkaa
set_option linter.unusedSimpArgs false
set_option linter.unusedVariables false
open Go.RowKit

set_option maxRecDepth 100000 in
set_option maxHeartbeats 6400000 in
theorem plaw_DisposeOwner (A : Option Addr) (n c : Nat) (bs : List Int) (w : World) (hn : n = bs.length) (hnc : n ≤ c) (h : BS w w.heap.size A bs) (hy : BY bs) (hm : n ≤ 9223372036854775807) :
    Calls Try.prog 7 #[.slice A n c] w fun e w' => e = .returned (.bool true) ∧ Below w.heap.size w w' := by
  by_cases hs : 1048576 < n
  · clear hn hnc h hy
    go_enter Try.func7, Try.ntmps7
    go_wp2
    go_ret
    exact ⟨rfl, Below.refl _ _⟩
  have HC := Lib.hid (spec_DrawDisposeOwner A n c bs w hn hnc h hy (by omega))
  clear hn hnc h hy
  go_enter Try.func7, Try.ntmps7
  go_wp2_with fail
  refine HC.out.mono ?_
  rintro e w1 ⟨A1, n1, c1, ds, o, rfl, ho1, ho2, hp1, hn1, hn12, hnc1, hOB, hlens, hP, hb⟩
  have HN1 := Lib.hid hp1
  have HOB := Lib.hid hOB
  have HLE := Lib.hid hlens
  have P_1 := Lib.hid (hP)
  have B_1 := Lib.hid (hb)
  clear hP hp1 hb HC hOB hlens
  have HIM := Lib.hid fun (w' : World) (h : OS w' w'.heap.size A1 ds) =>  top_impl_DisposeOwner ds o HOB.out A1 n1 c1 w' HN1.out hnc1 h
  have HSP := Lib.hid fun (w' : World) (h : OS w' w'.heap.size A1 ds) =>  top_spec_DisposeOwner ds o HOB.out A1 n1 c1 w' HN1.out hnc1 h
  have HOR := Lib.hid (dispF_OB ds o)
  have hlb := dispL_len ds o
  obtain ⟨R, hR⟩ : ∃ R, R = dispF ds o := ⟨_, rfl⟩
  obtain ⟨L, hL⟩ : ∃ L, L = dispL ds o := ⟨_, rfl⟩
  have HR := Lib.hid hR
  have HLd := Lib.hid hL
  rw [← hR] at HIM HSP HOR
  rw [← hL] at HIM HSP hlb
  clear hR hL
  go_wp2_with fail
  refine (HIM.out w1 P_1.out).mono ?_
  rintro e w2 ⟨v, u, mid, rfl, ho, ho2, hm1, hm2, hb⟩
  obtain ⟨A3, c3, rfl⟩ := OwO.form ho
  have hnc9 := own_ncapP ho
  have hI9 := ho.owners
  have hJ8 : OwnI w2 w1.heap.size _ (L) := ho2.1
  obtain ⟨A5, c5, rfl, hJ9⟩ := OwnI.form hJ8
  clear hJ8
  have P_2 := Lib.hid (P_1.out.step hb)
  clear P_1
  have B_2 := Lib.hid (B_1.out.trans (hb.mono B_1.out.size))
  clear B_1
  clear hb
  have hnc3 := hnc9
  obtain ⟨rl, hl2⟩ : ∃ l, l = R.length := ⟨_, rfl⟩
  have HRL := Lib.hid hl2
  rw [← hl2]
  rw [← hl2] at hnc3
  obtain ⟨ll, hl3⟩ : ∃ l, l = L.length := ⟨_, rfl⟩
  have HLL := Lib.hid hl3
  rw [← hl3]
  rw [← hl3] at hlb
  have R_2 := Lib.hid (hI9)
  have L_2 := Lib.hid (hJ9)
  clear ho ho2 hI9 hJ9 hl2 hl3 hnc9 hm1 hm2
  go_wp2_with fail
  refine (HSP.out w2 P_2.out).mono ?_
  rintro e w3 ⟨v, u, rfl, ho, ho2, hb⟩
  obtain ⟨A4, c4, rfl⟩ := OwO.form ho
  have hnc9 := own_ncapP ho
  have hI9 := ho.owners
  have hJ8 : OwnI w3 w2.heap.size _ (L) := ho2
  obtain ⟨A6, c6, rfl, hJ9⟩ := OwnI.form hJ8
  clear hJ8
  have P_3 := Lib.hid (P_2.out.step hb)
  clear P_2
  have B_3 := Lib.hid (B_2.out.trans (hb.mono B_2.out.size))
  clear B_2
  have R_3 := Lib.hid (R_2.out.step hb)
  clear R_2
  have L_3 := Lib.hid (L_2.out.step hb)
  clear L_2
  clear hb
  rw [← HRL.out, ← HLL.out]
  have S_3 := Lib.hid (hI9)
  have M_3 := Lib.hid (hJ9)
  clear ho ho2 hI9 hJ9 hnc9 HIM HSP
  have HEQ := Lib.hid (laws_equalOwners A3 A4 rl c3 c4 R w3 w3.heap.size (Nat.le_refl _) HRL.out R_3.out S_3.out HOR.out)
  go_wp2_with fail
  refine (HEQ.out).mono ?_
  rintro e w4 ⟨rfl, hb⟩
  have P_4 := Lib.hid (P_3.out.step hb)
  clear P_3
  have B_4 := Lib.hid (B_3.out.trans (hb.mono B_3.out.size))
  clear B_3
  have R_4 := Lib.hid (R_3.out.step hb)
  clear R_3
  have L_4 := Lib.hid (L_3.out.step hb)
  clear L_3
  have S_4 := Lib.hid (S_3.out.step hb)
  clear S_3
  have M_4 := Lib.hid (M_3.out.step hb)
  clear M_3
  clear hb
  clear HEQ
  have HEQ := Lib.hid (eq_g A5 A6 ll c5 c6 L w4 HLL.out L_4.out M_4.out (by omega))
  go_wp2_with fail
  refine (HEQ.out).mono ?_
  rintro e w5 ⟨rfl, hb⟩
  have P_5 := Lib.hid (P_4.out.step hb)
  clear P_4
  have B_5 := Lib.hid (B_4.out.trans (hb.mono B_4.out.size))
  clear B_4
  have R_5 := Lib.hid (R_4.out.step hb)
  clear R_4
  have L_5 := Lib.hid (L_4.out.step hb)
  clear L_4
  have S_5 := Lib.hid (S_4.out.step hb)
  clear S_4
  have M_5 := Lib.hid (M_4.out.step hb)
  clear M_4
  clear hb
  clear HEQ
  cases hh : dispB ds o
  · skip
    have hr0 : rl = 0 := by rw [HRL.out, HR.out]; unfold dispF; rw [hh]; rfl
    have hz0 : ((rl : Int) == 0) = true := by rw [hr0]; rfl
    clear hh hr0
    have HEQ := Lib.hid (laws_equalOwners A3 A4 rl c3 c4 R w5 w5.heap.size (Nat.le_refl _) HRL.out R_5.out S_5.out HOR.out)
    go_wp2_with fail
    refine (HEQ.out).mono ?_
    rintro e w6 ⟨rfl, hb⟩
    have P_6 := Lib.hid (P_5.out.step hb)
    clear P_5
    have B_6 := Lib.hid (B_5.out.trans (hb.mono B_5.out.size))
    clear B_5
    have R_6 := Lib.hid (R_5.out.step hb)
    clear R_5
    have L_6 := Lib.hid (L_5.out.step hb)
    clear L_5
    have S_6 := Lib.hid (S_5.out.step hb)
    clear S_5
    have M_6 := Lib.hid (M_5.out.step hb)
    clear M_5
    clear hb
    clear HEQ
    have HEQ := Lib.hid (eq_g A5 A6 ll c5 c6 L w6 HLL.out L_6.out M_6.out (by omega))
    go_wp2_with fail
    refine (HEQ.out).mono ?_
    rintro e w7 ⟨rfl, hb⟩
    have P_7 := Lib.hid (P_6.out.step hb)
    clear P_6
    have B_7 := Lib.hid (B_6.out.trans (hb.mono B_6.out.size))
    clear B_6
    have R_7 := Lib.hid (R_6.out.step hb)
    clear R_6
    have L_7 := Lib.hid (L_6.out.step hb)
    clear L_6
    have S_7 := Lib.hid (S_6.out.step hb)
    clear S_6
    have M_7 := Lib.hid (M_6.out.step hb)
    clear M_6
    clear hb
    clear HEQ
    go_wp2
    go_ret
    exact ⟨rfl, B_7.out⟩
  · obtain ⟨t, hto, hk, f0, f1, f2, f3, f4⟩ := disp_facts hh
    rw [← HR.out] at f1 f2 f4
    rw [← HRL.out, ← HN1.out] at f1
    rw [← HLd.out] at f3
    have hrn : rl = n1 := f1
    have hr0 : ((rl : Int) == 0) = false := by rw [beq_eq_false_iff_ne]; omega
    have HVR := Lib.hid fun (w' : World) (h : OS w' w'.heap.size A3 R) => top_impl_ValidOwners R HOR.out A3 rl c3 w' HRL.out hnc3 h
    rw [f2] at HVR
    have HLA := Lib.hid fun (w' : World) (h : OS w' w'.heap.size A1 ds) => top_impl_LabelsOf ds o HOB.out A1 n1 c1 w' HN1.out hnc1 h
    rw [← f3] at HLA
    have HAB := Lib.hid fun (i : Int) (w' : World) (h : OS w' w'.heap.size A1 ds) => top_impl_AboveOf ds i HOB.out A1 n1 c1 w' HN1.out hnc1 h
    have HF4 := Lib.hid f4
    have HRN := Lib.hid hrn
    have hrl1 : 1 ≤ rl := by omega
    clear f0 f1 f2 f3 f4 hh hto hk hrn
    go_wp2
    go_loopw [9] (fun u wr => ∃ k : Nat, k ≤ n1 ∧ u = .int .i64 k ∧ Hid (Below w5.heap.size w5 wr) ∧ w5.heap.size ≤ wr.heap.size) (fun u _ => n1 - (intOf u).toNat)
    case atStart => exact ⟨0, Nat.zero_le _, rfl, Below.refl _ _, Nat.le_refl _⟩
    case round =>
      obtain ⟨k, hk, rfl, HB, hwr⟩ := hrel
      obtain ⟨w6, hwK⟩ : ∃ W, W = wr := ⟨_, rfl⟩
      rw [← hwK]
      rw [← hwK] at HB hwr
      clear hwK
      have P_6 := Lib.hid (P_5.out.step HB.out)
      have B_6 := Lib.hid (B_5.out.trans (HB.out.mono B_5.out.size))
      have R_6 := Lib.hid (R_5.out.step HB.out)
      have L_6 := Lib.hid (L_5.out.step HB.out)
      have S_6 := Lib.hid (S_5.out.step HB.out)
      have M_6 := Lib.hid (M_5.out.step HB.out)
      have BK_6 := HB
      clear HB
      by_cases hlt : k < n1
      · obtain ⟨g1, g2⟩ := HF4.out k (by have := HN1.out; omega)
        have hal := aboveF_len ds (k : Int)
        have HA := Lib.hid (HAB.out (k : Int))
        generalize aboveF ds (k : Int) = U at *
        obtain ⟨bl, hbl⟩ : ∃ x, x = decide (o ∈ U) := ⟨_, rfl⟩
        have G1 : Hid (bl = true → isO R k = false) := fun e => g1 (by rw [hbl] at e; exact of_decide_eq_true e)
        have G2 : Hid (bl = false → isO R k = isO ds k ∧ clO R k = clO ds k) := fun e => g2 (by rw [hbl] at e; exact of_decide_eq_false e)
        have HBL := Lib.hid hbl
        clear g1 g2 hbl
        go_wp2_with fail
        refine (HA.out w6 P_6.out).mono ?_
        rintro e w7 ⟨v, rfl, ho, hb⟩
        have P_7 := Lib.hid (P_6.out.step hb)
        clear P_6
        have B_7 := Lib.hid (B_6.out.trans (hb.mono B_6.out.size))
        clear B_6
        have R_7 := Lib.hid (R_6.out.step hb)
        clear R_6
        have L_7 := Lib.hid (L_6.out.step hb)
        clear L_6
        have S_7 := Lib.hid (S_6.out.step hb)
        clear S_6
        have M_7 := Lib.hid (M_6.out.step hb)
        clear M_6
        have BK_7 := Lib.hid (BK_6.out.trans (hb.mono BK_6.out.size))
        clear BK_6
        clear hb
        obtain ⟨A7, c7, rfl, hI9⟩ := OwnI.form ho
        obtain ⟨ul, hl2⟩ : ∃ l, l = U.length := ⟨_, rfl⟩
        have HUL := Lib.hid hl2
        rw [← hl2]
        have U_7 := Lib.hid (hI9)
        clear ho hI9 hl2
        rw [← HUL.out] at hal
        have HII := Lib.hid (isIn_g A7 ul c7 U o w7 HUL.out U_7.out (by omega))
        rw [← HBL.out] at HII
        go_wp2_with fail
        refine (HII.out).mono ?_
        rintro e w8 ⟨rfl, hb⟩
        have P_8 := Lib.hid (P_7.out.step hb)
        clear P_7
        have B_8 := Lib.hid (B_7.out.trans (hb.mono B_7.out.size))
        clear B_7
        have R_8 := Lib.hid (R_7.out.step hb)
        clear R_7
        have L_8 := Lib.hid (L_7.out.step hb)
        clear L_7
        have S_8 := Lib.hid (S_7.out.step hb)
        clear S_7
        have M_8 := Lib.hid (M_7.out.step hb)
        clear M_7
        have BK_8 := Lib.hid (BK_7.out.trans (hb.mono BK_7.out.size))
        clear BK_7
        have U_8 := Lib.hid (U_7.out.step hb)
        clear U_7
        clear hb
        clear HII HBL HA
        obtain ⟨b, off, hA1, hbB, d0, d1, ⟨A6, n6, c6, d2, hn6, i6⟩, A7', n7, c7', d3, hn7, i7⟩ := P_8.out.at_ k (by have := HN1.out; omega)
        subst hA1
        clear d0 d3 hn7 i7
        obtain ⟨b2, off2, hA3, hbB2, e0, e1, ⟨B6, q6, g6, e2, hq6, j6⟩, B7, q7, g7, e3, hq7, j7⟩ := R_8.out.at_ k (by have := HRL.out; have := HRN.out; omega)
        subst hA3
        clear e0 e3 hq7 j7
        have hkn : (k : Int) < (n1 : Int) := by omega
        have hkr : (k : Int) < (rl : Int) := by have := HRN.out; omega
        have hkr2 : k < rl := by omega
        cases bl
        · obtain ⟨x1, x2⟩ := G2.out rfl
          unfold isO at x1
          unfold clO at x2
          rw [x1] at e1
          rw [x2] at hq6 j6
          have hqn : q6 = n6 := by rw [hq6, hn6]
          subst hqn
          have HQ6 := Lib.hid hq6
          have hq9 : q6 ≤ 6 := by have := (HLE.out k).1; omega
          clear x1 x2 hq6 hn6 G1 G2
          generalize (ds.getD k default).o = po at *
          generalize (ds.getD k default).cl = CL at *
          have hpp : (po != po) = false := by simp
          have d1_8 : Hid (C1 b (off + k * 4 + 1) (.bool po) w8) := ⟨hbB, d1⟩
          have d2_8 : Hid (C1 b (off + k * 4 + 2) (.slice A6 q6 c6) w8) := ⟨hbB, d2⟩
          have e1_8 : Hid (C1 b2 (off2 + k * 4 + 1) (.bool po) w8) := ⟨hbB2, e1⟩
          have e2_8 : Hid (C1 b2 (off2 + k * 4 + 2) (.slice B6 q6 g6) w8) := ⟨hbB2, e2⟩
          have CA_8 := Lib.hid (i6)
          have CB_8 := Lib.hid (j6)
          clear d1 d2 e1 e2 i6 j6
          go_wp2
          refine wp_region_held_drew (S := fun w' => w'.cell? ⟨b, off + k * 4 + 1, none⟩ = some (.bool po) ∧ w'.cell? ⟨b, off + k * 4 + 2, none⟩ = some (.slice A6 q6 c6) ∧ w'.cell? ⟨b2, off2 + k * 4 + 1, none⟩ = some (.bool po) ∧ w'.cell? ⟨b2, off2 + k * 4 + 2, none⟩ = some (.slice B6 q6 g6)) (by kernel_rfl) ⟨d1_8.out.2, d2_8.out.2, e1_8.out.2, e2_8.out.2⟩ (fun hHeld => ?_)
          refine wpAnyH_take (i := 0) (oi := ⟨some 65, _, _, _, _, _⟩) (v := ?_) rfl (by kernel_rfl) (by kernel_rfl) (by kernel_rfl) (fun _ _ _ h => h) (Or.inl ⟨by rfl, ?_⟩) (by assumption) ?_; rotate_left; (focus (intro w hSw; (try dsimp only at hSw); go_simp; (try with_reducible rfl))); (try simp only [Act.put, List.setIfInBounds_toArray, List.set_cons_zero, List.set_cons_succ])
          refine wpAnyH_take (i := 1) (oi := ⟨some 66, _, _, _, _, _⟩) (v := ?_) rfl (by kernel_rfl) (by kernel_rfl) (by kernel_rfl) (fun _ _ _ h => h) (Or.inl ⟨by rfl, ?_⟩) (by assumption) ?_; rotate_left; (focus (intro w hSw; (try dsimp only at hSw); go_simp; (try with_reducible rfl))); (try simp only [Act.put, List.setIfInBounds_toArray, List.set_cons_zero, List.set_cons_succ])
          refine wpAnyH_take (i := 2) (oi := ⟨some 67, _, _, _, _, _⟩) (v := undef) rfl (by kernel_rfl) (by kernel_rfl) (by kernel_rfl) (fun _ _ _ h => h) (Or.inr ⟨by rfl, rfl⟩) (by assumption) ?_; (try simp only [Act.put, List.setIfInBounds_toArray, List.set_cons_zero, List.set_cons_succ])
          refine wpAnyH_take (i := 3) (oi := ⟨some 68, _, _, _, _, _⟩) (v := undef) rfl (by kernel_rfl) (by kernel_rfl) (by kernel_rfl) (fun _ _ _ h => h) (Or.inr ⟨by rfl, rfl⟩) (by assumption) ?_; (try simp only [Act.put, List.setIfInBounds_toArray, List.set_cons_zero, List.set_cons_succ])
          refine wpAnyH_take (i := 4) (oi := ⟨some 69, _, _, _, _, _⟩) (v := undef) rfl (by kernel_rfl) (by kernel_rfl) (by kernel_rfl) (fun _ _ _ h => h) (Or.inr ⟨by rfl, rfl⟩) (by assumption) ?_; (try simp only [Act.put, List.setIfInBounds_toArray, List.set_cons_zero, List.set_cons_succ])
          refine wpAnyH_take (i := 5) (oi := ⟨some 70, _, _, _, _, _⟩) (v := undef) rfl (by kernel_rfl) (by kernel_rfl) (by kernel_rfl) (fun _ _ _ h => h) (Or.inr ⟨by rfl, rfl⟩) (by assumption) ?_; (try simp only [Act.put, List.setIfInBounds_toArray, List.set_cons_zero, List.set_cons_succ])
          refine wpAnyH_take (i := 6) (oi := ⟨some 71, _, _, _, _, _⟩) (v := undef) rfl (by kernel_rfl) (by kernel_rfl) (by kernel_rfl) (fun _ _ _ h => h) (Or.inr ⟨by rfl, rfl⟩) (by assumption) ?_; (try simp only [Act.put, List.setIfInBounds_toArray, List.set_cons_zero, List.set_cons_succ])
          refine wpAnyH_take (i := 7) (oi := ⟨some 72, _, _, _, _, _⟩) (v := ?_) rfl (by kernel_rfl) (by kernel_rfl) (by kernel_rfl) (fun _ _ _ h => h) (Or.inl ⟨by rfl, ?_⟩) (by assumption) ?_; rotate_left; (focus (intro w hSw; (try dsimp only at hSw); go_simp; (try with_reducible rfl))); (try simp only [Act.put, List.setIfInBounds_toArray, List.set_cons_zero, List.set_cons_succ])
          refine wpAnyH_take (i := 8) (oi := ⟨some 73, _, _, _, _, _⟩) (v := ?_) rfl (by kernel_rfl) (by kernel_rfl) (by kernel_rfl) (fun _ _ _ h => h) (Or.inl ⟨by rfl, ?_⟩) (by assumption) ?_; rotate_left; (focus (intro w hSw; (try dsimp only at hSw); go_simp; (try with_reducible rfl))); (try simp only [Act.put, List.setIfInBounds_toArray, List.set_cons_zero, List.set_cons_succ])
          refine wpAnyH_take (i := 9) (oi := ⟨some 74, _, _, _, _, _⟩) (v := ?_) rfl (by kernel_rfl) (by kernel_rfl) (by kernel_rfl) (fun _ _ _ h => h) (Or.inl ⟨by rfl, ?_⟩) (by assumption) ?_; rotate_left; (focus (intro w hSw; (try dsimp only at hSw); go_simp; (try with_reducible rfl))); (try simp only [Act.put, List.setIfInBounds_toArray, List.set_cons_zero, List.set_cons_succ])
          refine wpAnyH_take (i := 10) (oi := ⟨some 75, _, _, _, _, _⟩) (v := ?_) rfl (by kernel_rfl) (by kernel_rfl) (by kernel_rfl) (fun _ _ _ h => h) (Or.inl ⟨by rfl, ?_⟩) (by assumption) ?_; rotate_left; (focus (intro w hSw; (try dsimp only at hSw); go_simp; (try with_reducible rfl))); (try simp only [Act.put, List.setIfInBounds_toArray, List.set_cons_zero, List.set_cons_succ])
          refine wpAnyH_take (i := 11) (oi := ⟨some 76, _, _, _, _, _⟩) (v := ?_) rfl (by kernel_rfl) (by kernel_rfl) (by kernel_rfl) (fun _ _ _ h => h) (Or.inl ⟨by rfl, ?_⟩) (by assumption) ?_; rotate_left; (focus (intro w hSw; (try dsimp only at hSw); go_simp; (try with_reducible rfl))); (try simp only [Act.put, List.setIfInBounds_toArray, List.set_cons_zero, List.set_cons_succ])
          refine wpAnyH_take (i := 12) (oi := ⟨some 77, _, _, _, _, _⟩) (v := ?_) rfl (by kernel_rfl) (by kernel_rfl) (by kernel_rfl) (fun _ _ _ h => h) (Or.inl ⟨by rfl, ?_⟩) (by assumption) ?_; rotate_left; (focus (intro w hSw; (try dsimp only at hSw); go_simp; (try with_reducible rfl))); (try simp only [Act.put, List.setIfInBounds_toArray, List.set_cons_zero, List.set_cons_succ])
          refine wpAnyH_take (i := 13) (oi := ⟨some 78, _, _, _, _, _⟩) (v := ?_) rfl (by kernel_rfl) (by kernel_rfl) (by kernel_rfl) (fun _ _ _ h => h) (Or.inl ⟨by rfl, ?_⟩) (by assumption) ?_; rotate_left; (focus (intro w hSw; (try dsimp only at hSw); go_simp; (try with_reducible rfl))); (try simp only [Act.put, List.setIfInBounds_toArray, List.set_cons_zero, List.set_cons_succ])
          refine wpAnyH_take (i := 14) (oi := ⟨some 79, _, _, _, _, _⟩) (v := ?_) rfl (by kernel_rfl) (by kernel_rfl) (by kernel_rfl) (fun _ _ _ h => h) (Or.inl ⟨by rfl, ?_⟩) (by assumption) ?_; rotate_left; (focus (intro w hSw; (try dsimp only at hSw); go_simp; (try with_reducible rfl))); (try simp only [Act.put, List.setIfInBounds_toArray, List.set_cons_zero, List.set_cons_succ])
          refine wpAnyH_take (i := 15) (oi := ⟨some 80, _, _, _, _, _⟩) (v := ?_) rfl (by kernel_rfl) (by kernel_rfl) (by kernel_rfl) (fun _ _ _ h => h) (Or.inl ⟨by rfl, ?_⟩) (by assumption) ?_; rotate_left; (focus (intro w hSw; (try dsimp only at hSw); go_simp; (try with_reducible rfl))); (try simp only [Act.put, List.setIfInBounds_toArray, List.set_cons_zero, List.set_cons_succ])
          refine wpAnyH_take (i := 16) (oi := ⟨some 81, _, _, _, _, _⟩) (v := ?_) rfl (by kernel_rfl) (by kernel_rfl) (by kernel_rfl) (fun _ _ _ h => h) (Or.inl ⟨by rfl, ?_⟩) (by assumption) ?_; rotate_left; (focus (intro w hSw; (try dsimp only at hSw); go_simp; (try with_reducible rfl))); (try simp only [Act.put, List.setIfInBounds_toArray, List.set_cons_zero, List.set_cons_succ])
          refine wpAnyH_take (i := 17) (oi := ⟨some 82, _, _, _, _, _⟩) (v := ?_) rfl (by kernel_rfl) (by kernel_rfl) (by kernel_rfl) (fun _ _ _ h => h) (Or.inl ⟨by rfl, ?_⟩) (by assumption) ?_; rotate_left; (focus (intro w hSw; (try dsimp only at hSw); go_simp; (try with_reducible rfl))); (try simp only [Act.put, List.setIfInBounds_toArray, List.set_cons_zero, List.set_cons_succ])
          refine wpAnyH_take (i := 18) (oi := ⟨some 83, _, _, _, _, _⟩) (v := ?_) rfl (by kernel_rfl) (by kernel_rfl) (by kernel_rfl) (fun _ _ _ h => h) (Or.inl ⟨by rfl, ?_⟩) (by assumption) ?_; rotate_left; (focus (intro w hSw; (try dsimp only at hSw); go_simp; (try with_reducible rfl))); (try simp only [Act.put, List.setIfInBounds_toArray, List.set_cons_zero, List.set_cons_succ])
          refine wpAnyH_take (i := 19) (oi := ⟨some 84, _, _, _, _, _⟩) (v := ?_) rfl (by kernel_rfl) (by kernel_rfl) (by kernel_rfl) (fun _ _ _ h => h) (Or.inl ⟨by rfl, ?_⟩) (by assumption) ?_; rotate_left; (focus (intro w hSw; (try dsimp only at hSw); go_simp; (try with_reducible rfl))); (try simp only [Act.put, List.setIfInBounds_toArray, List.set_cons_zero, List.set_cons_succ])
          refine wpAnyH_take (i := 20) (oi := ⟨some 85, _, _, _, _, _⟩) (v := ?_) rfl (by kernel_rfl) (by kernel_rfl) (by kernel_rfl) (fun _ _ _ h => h) (Or.inl ⟨by rfl, ?_⟩) (by assumption) ?_; rotate_left; (focus (intro w hSw; (try dsimp only at hSw); go_simp; (try with_reducible rfl))); (try simp only [Act.put, List.setIfInBounds_toArray, List.set_cons_zero, List.set_cons_succ])
          refine wpAnyH_take (i := 21) (oi := ⟨some 86, _, _, _, _, _⟩) (v := ?_) rfl (by kernel_rfl) (by kernel_rfl) (by kernel_rfl) (fun _ _ _ h => h) (Or.inl ⟨by rfl, ?_⟩) (by assumption) ?_; rotate_left; (focus (intro w hSw; (try dsimp only at hSw); go_simp; (try with_reducible rfl))); (try simp only [Act.put, List.setIfInBounds_toArray, List.set_cons_zero, List.set_cons_succ])
          refine wpAnyH_take (i := 22) (oi := ⟨some 87, _, _, _, _, _⟩) (v := ?_) rfl (by kernel_rfl) (by kernel_rfl) (by kernel_rfl) (fun _ _ _ h => h) (Or.inl ⟨by rfl, ?_⟩) (by assumption) ?_; rotate_left; (focus (intro w hSw; (try dsimp only at hSw); go_simp; (try with_reducible rfl))); (try simp only [Act.put, List.setIfInBounds_toArray, List.set_cons_zero, List.set_cons_succ])
          refine wpAnyH_take (i := 23) (oi := ⟨some 88, _, _, _, _, _⟩) (v := ?_) rfl (by kernel_rfl) (by kernel_rfl) (by kernel_rfl) (fun _ _ _ h => h) (Or.inl ⟨by rfl, ?_⟩) (by assumption) ?_; rotate_left; (focus (intro w hSw; (try dsimp only at hSw); go_simp; (try with_reducible rfl))); (try simp only [Act.put, List.setIfInBounds_toArray, List.set_cons_zero, List.set_cons_succ])
          refine wpAnyH_take (i := 24) (oi := ⟨some 89, _, _, _, _, _⟩) (v := ?_) rfl (by kernel_rfl) (by kernel_rfl) (by kernel_rfl) (fun _ _ _ h => h) (Or.inl ⟨by rfl, ?_⟩) (by assumption) ?_; rotate_left; (focus (intro w hSw; (try dsimp only at hSw); go_simp; (try with_reducible rfl))); (try simp only [Act.put, List.setIfInBounds_toArray, List.set_cons_zero, List.set_cons_succ])
          refine wpAnyH_take (i := 25) (oi := ⟨some 90, _, _, _, _, _⟩) (v := ?_) rfl (by kernel_rfl) (by kernel_rfl) (by kernel_rfl) (fun _ _ _ h => h) (Or.inl ⟨by rfl, ?_⟩) (by assumption) ?_; rotate_left; (focus (intro w hSw; (try dsimp only at hSw); go_simp; (try with_reducible rfl))); (try simp only [Act.put, List.setIfInBounds_toArray, List.set_cons_zero, List.set_cons_succ])
          refine wpAnyH_take (i := 26) (oi := ⟨some 91, _, _, _, _, _⟩) (v := ?_) rfl (by kernel_rfl) (by kernel_rfl) (by kernel_rfl) (fun _ _ _ h => h) (Or.inl ⟨by rfl, ?_⟩) (by assumption) ?_; rotate_left; (focus (intro w hSw; (try dsimp only at hSw); go_simp; (try with_reducible rfl))); (try simp only [Act.put, List.setIfInBounds_toArray, List.set_cons_zero, List.set_cons_succ])
          refine wpAnyH_take (i := 27) (oi := ⟨some 92, _, _, _, _, _⟩) (v := ?_) rfl (by kernel_rfl) (by kernel_rfl) (by kernel_rfl) (fun _ _ _ h => h) (Or.inl ⟨by rfl, ?_⟩) (by assumption) ?_; rotate_left; (focus (intro w hSw; (try dsimp only at hSw); go_simp; (try with_reducible rfl))); (try simp only [Act.put, List.setIfInBounds_toArray, List.set_cons_zero, List.set_cons_succ])
          refine wpAnyH_take (i := 28) (oi := ⟨some 93, _, _, _, _, _⟩) (v := ?_) rfl (by kernel_rfl) (by kernel_rfl) (by kernel_rfl) (fun _ _ _ h => h) (Or.inl ⟨by rfl, ?_⟩) (by assumption) ?_; rotate_left; (focus (intro w hSw; (try dsimp only at hSw); go_simp; (try with_reducible rfl))); (try simp only [Act.put, List.setIfInBounds_toArray, List.set_cons_zero, List.set_cons_succ])
          refine wpAnyH_take (i := 29) (oi := ⟨some 94, _, _, _, _, _⟩) (v := ?_) rfl (by kernel_rfl) (by kernel_rfl) (by kernel_rfl) (fun _ _ _ h => h) (Or.inl ⟨by rfl, ?_⟩) (by assumption) ?_; rotate_left; (focus (intro w hSw; (try dsimp only at hSw); go_simp; (try with_reducible rfl))); (try simp only [Act.put, List.setIfInBounds_toArray, List.set_cons_zero, List.set_cons_succ])
          refine wpAnyH_take (i := 30) (oi := ⟨some 95, _, _, _, _, _⟩) (v := ?_) rfl (by kernel_rfl) (by kernel_rfl) (by kernel_rfl) (fun _ _ _ h => h) (Or.inl ⟨by rfl, ?_⟩) (by assumption) ?_; rotate_left; (focus (intro w hSw; (try dsimp only at hSw); go_simp; (try with_reducible rfl))); (try simp only [Act.put, List.setIfInBounds_toArray, List.set_cons_zero, List.set_cons_succ])
          refine wpAnyH_take (i := 31) (oi := ⟨some 96, _, _, _, _, _⟩) (v := ?_) rfl (by kernel_rfl) (by kernel_rfl) (by kernel_rfl) (fun _ _ _ h => h) (Or.inl ⟨by rfl, ?_⟩) (by assumption) ?_; rotate_left; (focus (intro w hSw; (try dsimp only at hSw); go_simp; (try with_reducible rfl))); (try simp only [Act.put, List.setIfInBounds_toArray, List.set_cons_zero, List.set_cons_succ])
          refine wpAnyH_take (i := 32) (oi := ⟨some 97, _, _, _, _, _⟩) (v := ?_) rfl (by kernel_rfl) (by kernel_rfl) (by kernel_rfl) (fun _ _ _ h => h) (Or.inl ⟨by rfl, ?_⟩) (by assumption) ?_; rotate_left; (focus (intro w hSw; (try dsimp only at hSw); go_simp; (try with_reducible rfl))); (try simp only [Act.put, List.setIfInBounds_toArray, List.set_cons_zero, List.set_cons_succ])
          refine wpAnyH_take (i := 33) (oi := ⟨some 98, _, _, _, _, _⟩) (v := ?_) rfl (by kernel_rfl) (by kernel_rfl) (by kernel_rfl) (fun _ _ _ h => h) (Or.inl ⟨by rfl, ?_⟩) (by assumption) ?_; rotate_left; (focus (intro w hSw; (try dsimp only at hSw); go_simp; (try with_reducible rfl))); (try simp only [Act.put, List.setIfInBounds_toArray, List.set_cons_zero, List.set_cons_succ])
          refine wpAnyH_ready (rs := [34]) (by kernel_rfl) (by simp) ?_; refine AllReadyH.cons (o := ⟨some 99, _, _, _, _, _⟩) rfl (fun K hK => ?_) AllReadyH.nil; go_simp
          go_at_call 21
          refine (eq_g B6 A6 q6 g6 c6 CL w8.drew HQ6.out CB_8.out CA_8.out (by omega)).mono ?_
          rintro e w9 ⟨rfl, hb'⟩
          have hb : Below w8.heap.size w8 w9 := below_of_drew hb'
          have P_9 := Lib.hid (P_8.out.step hb)
          clear P_8
          have B_9 := Lib.hid (B_8.out.trans (hb.mono B_8.out.size))
          clear B_8
          have R_9 := Lib.hid (R_8.out.step hb)
          clear R_8
          have L_9 := Lib.hid (L_8.out.step hb)
          clear L_8
          have S_9 := Lib.hid (S_8.out.step hb)
          clear S_8
          have M_9 := Lib.hid (M_8.out.step hb)
          clear M_8
          have BK_9 := Lib.hid (BK_8.out.trans (hb.mono BK_8.out.size))
          clear BK_8
          have U_9 := Lib.hid (U_8.out.step hb)
          clear U_8
          have d1_9 := Lib.hid (d1_8.out.step hb)
          clear d1_8
          have d2_9 := Lib.hid (d2_8.out.step hb)
          clear d2_8
          have e1_9 := Lib.hid (e1_8.out.step hb)
          clear e1_8
          have e2_9 := Lib.hid (e2_8.out.step hb)
          clear e2_8
          have CA_9 := Lib.hid (CA_8.out.step hb)
          clear CA_8
          have CB_9 := Lib.hid (CB_8.out.step hb)
          clear CB_8
          clear hb hb'
          refine hK.out _ _ ⟨d1_9.out.2, d2_9.out.2, e1_9.out.2, e2_9.out.2⟩ (fun hHeld => ?_); clear hK K; (try simp only [Act.put, List.setIfInBounds_toArray, List.set_cons_zero, List.set_cons_succ])
          refine wpAnyH_take (i := 35) (oi := ⟨some 100, _, _, _, _, _⟩) (v := ?_) rfl (by kernel_rfl) (by kernel_rfl) (by kernel_rfl) (fun _ _ _ h => h) (Or.inl ⟨by rfl, ?_⟩) (by assumption) ?_; rotate_left; (focus (intro w hSw; (try dsimp only at hSw); go_simp; (try with_reducible rfl))); (try simp only [Act.put, List.setIfInBounds_toArray, List.set_cons_zero, List.set_cons_succ])
          refine wpAnyH_take (i := 36) (oi := ⟨some 101, _, _, _, _, _⟩) (v := ?_) rfl (by kernel_rfl) (by kernel_rfl) (by kernel_rfl) (fun _ _ _ h => h) (Or.inl ⟨by rfl, ?_⟩) (by assumption) ?_; rotate_left; (focus (intro w hSw; (try dsimp only at hSw); go_simp; (try with_reducible rfl))); (try simp only [Act.put, List.setIfInBounds_toArray, List.set_cons_zero, List.set_cons_succ])
          refine wpAnyH_take (i := 37) (oi := ⟨some 102, _, _, _, _, _⟩) (v := ?_) rfl (by kernel_rfl) (by kernel_rfl) (by kernel_rfl) (fun _ _ _ h => h) (Or.inl ⟨by rfl, ?_⟩) (by assumption) ?_; rotate_left; (focus (intro w hSw; (try dsimp only at hSw); go_simp; (try with_reducible rfl))); (try simp only [Act.put, List.setIfInBounds_toArray, List.set_cons_zero, List.set_cons_succ])
          refine wpAnyH_take (i := 38) (oi := ⟨some 103, _, _, _, _, _⟩) (v := ?_) rfl (by kernel_rfl) (by kernel_rfl) (by kernel_rfl) (fun _ _ _ h => h) (Or.inl ⟨by rfl, ?_⟩) (by assumption) ?_; rotate_left; (focus (intro w hSw; (try dsimp only at hSw); go_simp; (try with_reducible rfl))); (try simp only [Act.put, List.setIfInBounds_toArray, List.set_cons_zero, List.set_cons_succ])
          refine wpAnyH_done (by kernel_rfl) ?_ _
          go_wp2
          go_roundw
          case rel => exact ⟨k + 1, by omega, by go_num, BK_9.out, BK_9.out.size⟩
          case measure => simp [intOf]; omega
        · have x1 := G1.out rfl
          unfold isO at x1
          rw [x1] at e1
          clear x1 d1 d2 e2 hn6 hq6 i6 j6 G1 G2
          have e1_8 : Hid (C1 b2 (off2 + k * 4 + 1) (.bool false) w8) := ⟨hbB2, e1⟩
          clear e1
          go_wp2
          refine wp_region_held_drew (S := fun w' => w'.cell? ⟨b2, off2 + k * 4 + 1, none⟩ = some (.bool false)) (by kernel_rfl) e1_8.out.2 (fun hHeld => ?_)
          refine wpAnyH_take (i := 0) (oi := ⟨some 65, _, _, _, _, _⟩) (v := ?_) rfl (by kernel_rfl) (by kernel_rfl) (by kernel_rfl) (fun _ _ _ h => h) (Or.inl ⟨by rfl, ?_⟩) (by assumption) ?_; rotate_left; (focus (intro w hSw; (try dsimp only at hSw); go_simp; (try with_reducible rfl))); (try simp only [Act.put, List.setIfInBounds_toArray, List.set_cons_zero, List.set_cons_succ])
          refine wpAnyH_take (i := 1) (oi := ⟨some 66, _, _, _, _, _⟩) (v := ?_) rfl (by kernel_rfl) (by kernel_rfl) (by kernel_rfl) (fun _ _ _ h => h) (Or.inl ⟨by rfl, ?_⟩) (by assumption) ?_; rotate_left; (focus (intro w hSw; (try dsimp only at hSw); go_simp; (try with_reducible rfl))); (try simp only [Act.put, List.setIfInBounds_toArray, List.set_cons_zero, List.set_cons_succ])
          refine wpAnyH_take (i := 2) (oi := ⟨some 67, _, _, _, _, _⟩) (v := ?_) rfl (by kernel_rfl) (by kernel_rfl) (by kernel_rfl) (fun _ _ _ h => h) (Or.inl ⟨by rfl, ?_⟩) (by assumption) ?_; rotate_left; (focus (intro w hSw; (try dsimp only at hSw); go_simp; (try with_reducible rfl))); (try simp only [Act.put, List.setIfInBounds_toArray, List.set_cons_zero, List.set_cons_succ])
          refine wpAnyH_take (i := 3) (oi := ⟨some 68, _, _, _, _, _⟩) (v := ?_) rfl (by kernel_rfl) (by kernel_rfl) (by kernel_rfl) (fun _ _ _ h => h) (Or.inl ⟨by rfl, ?_⟩) (by assumption) ?_; rotate_left; (focus (intro w hSw; (try dsimp only at hSw); go_simp; (try with_reducible rfl))); (try simp only [Act.put, List.setIfInBounds_toArray, List.set_cons_zero, List.set_cons_succ])
          refine wpAnyH_take (i := 4) (oi := ⟨some 69, _, _, _, _, _⟩) (v := ?_) rfl (by kernel_rfl) (by kernel_rfl) (by kernel_rfl) (fun _ _ _ h => h) (Or.inl ⟨by rfl, ?_⟩) (by assumption) ?_; rotate_left; (focus (intro w hSw; (try dsimp only at hSw); go_simp; (try with_reducible rfl))); (try simp only [Act.put, List.setIfInBounds_toArray, List.set_cons_zero, List.set_cons_succ])
          refine wpAnyH_take (i := 5) (oi := ⟨some 70, _, _, _, _, _⟩) (v := ?_) rfl (by kernel_rfl) (by kernel_rfl) (by kernel_rfl) (fun _ _ _ h => h) (Or.inl ⟨by rfl, ?_⟩) (by assumption) ?_; rotate_left; (focus (intro w hSw; (try dsimp only at hSw); go_simp; (try with_reducible rfl))); (try simp only [Act.put, List.setIfInBounds_toArray, List.set_cons_zero, List.set_cons_succ])
          refine wpAnyH_take (i := 6) (oi := ⟨some 71, _, _, _, _, _⟩) (v := ?_) rfl (by kernel_rfl) (by kernel_rfl) (by kernel_rfl) (fun _ _ _ h => h) (Or.inl ⟨by rfl, ?_⟩) (by assumption) ?_; rotate_left; (focus (intro w hSw; (try dsimp only at hSw); go_simp; (try with_reducible rfl))); (try simp only [Act.put, List.setIfInBounds_toArray, List.set_cons_zero, List.set_cons_succ])
          refine wpAnyH_take (i := 7) (oi := ⟨some 72, _, _, _, _, _⟩) (v := ?_) rfl (by kernel_rfl) (by kernel_rfl) (by kernel_rfl) (fun _ _ _ h => h) (Or.inl ⟨by rfl, ?_⟩) (by assumption) ?_; rotate_left; (focus (intro w hSw; (try dsimp only at hSw); go_simp; (try with_reducible rfl))); (try simp only [Act.put, List.setIfInBounds_toArray, List.set_cons_zero, List.set_cons_succ])
          refine wpAnyH_take (i := 8) (oi := ⟨some 73, _, _, _, _, _⟩) (v := ?_) rfl (by kernel_rfl) (by kernel_rfl) (by kernel_rfl) (fun _ _ _ h => h) (Or.inl ⟨by rfl, ?_⟩) (by assumption) ?_; rotate_left; (focus (intro w hSw; (try dsimp only at hSw); go_simp; (try with_reducible rfl))); (try simp only [Act.put, List.setIfInBounds_toArray, List.set_cons_zero, List.set_cons_succ])
          refine wpAnyH_take (i := 9) (oi := ⟨some 74, _, _, _, _, _⟩) (v := ?_) rfl (by kernel_rfl) (by kernel_rfl) (by kernel_rfl) (fun _ _ _ h => h) (Or.inl ⟨by rfl, ?_⟩) (by assumption) ?_; rotate_left; (focus (intro w hSw; (try dsimp only at hSw); go_simp; (try with_reducible rfl))); (try simp only [Act.put, List.setIfInBounds_toArray, List.set_cons_zero, List.set_cons_succ])
          refine wpAnyH_take (i := 10) (oi := ⟨some 75, _, _, _, _, _⟩) (v := ?_) rfl (by kernel_rfl) (by kernel_rfl) (by kernel_rfl) (fun _ _ _ h => h) (Or.inl ⟨by rfl, ?_⟩) (by assumption) ?_; rotate_left; (focus (intro w hSw; (try dsimp only at hSw); go_simp; (try with_reducible rfl))); (try simp only [Act.put, List.setIfInBounds_toArray, List.set_cons_zero, List.set_cons_succ])
          refine wpAnyH_take (i := 11) (oi := ⟨some 76, _, _, _, _, _⟩) (v := ?_) rfl (by kernel_rfl) (by kernel_rfl) (by kernel_rfl) (fun _ _ _ h => h) (Or.inl ⟨by rfl, ?_⟩) (by assumption) ?_; rotate_left; (focus (intro w hSw; (try dsimp only at hSw); go_simp; (try with_reducible rfl))); (try simp only [Act.put, List.setIfInBounds_toArray, List.set_cons_zero, List.set_cons_succ])
          refine wpAnyH_take (i := 12) (oi := ⟨some 77, _, _, _, _, _⟩) (v := undef) rfl (by kernel_rfl) (by kernel_rfl) (by kernel_rfl) (fun _ _ _ h => h) (Or.inr ⟨by rfl, rfl⟩) (by assumption) ?_; (try simp only [Act.put, List.setIfInBounds_toArray, List.set_cons_zero, List.set_cons_succ])
          refine wpAnyH_take (i := 13) (oi := ⟨some 78, _, _, _, _, _⟩) (v := undef) rfl (by kernel_rfl) (by kernel_rfl) (by kernel_rfl) (fun _ _ _ h => h) (Or.inr ⟨by rfl, rfl⟩) (by assumption) ?_; (try simp only [Act.put, List.setIfInBounds_toArray, List.set_cons_zero, List.set_cons_succ])
          refine wpAnyH_take (i := 14) (oi := ⟨some 79, _, _, _, _, _⟩) (v := undef) rfl (by kernel_rfl) (by kernel_rfl) (by kernel_rfl) (fun _ _ _ h => h) (Or.inr ⟨by rfl, rfl⟩) (by assumption) ?_; (try simp only [Act.put, List.setIfInBounds_toArray, List.set_cons_zero, List.set_cons_succ])
          refine wpAnyH_take (i := 15) (oi := ⟨some 80, _, _, _, _, _⟩) (v := undef) rfl (by kernel_rfl) (by kernel_rfl) (by kernel_rfl) (fun _ _ _ h => h) (Or.inr ⟨by rfl, rfl⟩) (by assumption) ?_; (try simp only [Act.put, List.setIfInBounds_toArray, List.set_cons_zero, List.set_cons_succ])
          refine wpAnyH_take (i := 16) (oi := ⟨some 81, _, _, _, _, _⟩) (v := undef) rfl (by kernel_rfl) (by kernel_rfl) (by kernel_rfl) (fun _ _ _ h => h) (Or.inr ⟨by rfl, rfl⟩) (by assumption) ?_; (try simp only [Act.put, List.setIfInBounds_toArray, List.set_cons_zero, List.set_cons_succ])
          refine wpAnyH_take (i := 17) (oi := ⟨some 82, _, _, _, _, _⟩) (v := undef) rfl (by kernel_rfl) (by kernel_rfl) (by kernel_rfl) (fun _ _ _ h => h) (Or.inr ⟨by rfl, rfl⟩) (by assumption) ?_; (try simp only [Act.put, List.setIfInBounds_toArray, List.set_cons_zero, List.set_cons_succ])
          refine wpAnyH_take (i := 18) (oi := ⟨some 83, _, _, _, _, _⟩) (v := undef) rfl (by kernel_rfl) (by kernel_rfl) (by kernel_rfl) (fun _ _ _ h => h) (Or.inr ⟨by rfl, rfl⟩) (by assumption) ?_; (try simp only [Act.put, List.setIfInBounds_toArray, List.set_cons_zero, List.set_cons_succ])
          refine wpAnyH_take (i := 19) (oi := ⟨some 84, _, _, _, _, _⟩) (v := undef) rfl (by kernel_rfl) (by kernel_rfl) (by kernel_rfl) (fun _ _ _ h => h) (Or.inr ⟨by rfl, rfl⟩) (by assumption) ?_; (try simp only [Act.put, List.setIfInBounds_toArray, List.set_cons_zero, List.set_cons_succ])
          refine wpAnyH_take (i := 20) (oi := ⟨some 85, _, _, _, _, _⟩) (v := undef) rfl (by kernel_rfl) (by kernel_rfl) (by kernel_rfl) (fun _ _ _ h => h) (Or.inr ⟨by rfl, rfl⟩) (by assumption) ?_; (try simp only [Act.put, List.setIfInBounds_toArray, List.set_cons_zero, List.set_cons_succ])
          refine wpAnyH_take (i := 21) (oi := ⟨some 86, _, _, _, _, _⟩) (v := undef) rfl (by kernel_rfl) (by kernel_rfl) (by kernel_rfl) (fun _ _ _ h => h) (Or.inr ⟨by rfl, rfl⟩) (by assumption) ?_; (try simp only [Act.put, List.setIfInBounds_toArray, List.set_cons_zero, List.set_cons_succ])
          refine wpAnyH_take (i := 22) (oi := ⟨some 87, _, _, _, _, _⟩) (v := undef) rfl (by kernel_rfl) (by kernel_rfl) (by kernel_rfl) (fun _ _ _ h => h) (Or.inr ⟨by rfl, rfl⟩) (by assumption) ?_; (try simp only [Act.put, List.setIfInBounds_toArray, List.set_cons_zero, List.set_cons_succ])
          refine wpAnyH_take (i := 23) (oi := ⟨some 88, _, _, _, _, _⟩) (v := undef) rfl (by kernel_rfl) (by kernel_rfl) (by kernel_rfl) (fun _ _ _ h => h) (Or.inr ⟨by rfl, rfl⟩) (by assumption) ?_; (try simp only [Act.put, List.setIfInBounds_toArray, List.set_cons_zero, List.set_cons_succ])
          refine wpAnyH_take (i := 24) (oi := ⟨some 89, _, _, _, _, _⟩) (v := undef) rfl (by kernel_rfl) (by kernel_rfl) (by kernel_rfl) (fun _ _ _ h => h) (Or.inr ⟨by rfl, rfl⟩) (by assumption) ?_; (try simp only [Act.put, List.setIfInBounds_toArray, List.set_cons_zero, List.set_cons_succ])
          refine wpAnyH_take (i := 25) (oi := ⟨some 90, _, _, _, _, _⟩) (v := undef) rfl (by kernel_rfl) (by kernel_rfl) (by kernel_rfl) (fun _ _ _ h => h) (Or.inr ⟨by rfl, rfl⟩) (by assumption) ?_; (try simp only [Act.put, List.setIfInBounds_toArray, List.set_cons_zero, List.set_cons_succ])
          refine wpAnyH_take (i := 26) (oi := ⟨some 91, _, _, _, _, _⟩) (v := undef) rfl (by kernel_rfl) (by kernel_rfl) (by kernel_rfl) (fun _ _ _ h => h) (Or.inr ⟨by rfl, rfl⟩) (by assumption) ?_; (try simp only [Act.put, List.setIfInBounds_toArray, List.set_cons_zero, List.set_cons_succ])
          refine wpAnyH_take (i := 27) (oi := ⟨some 92, _, _, _, _, _⟩) (v := undef) rfl (by kernel_rfl) (by kernel_rfl) (by kernel_rfl) (fun _ _ _ h => h) (Or.inr ⟨by rfl, rfl⟩) (by assumption) ?_; (try simp only [Act.put, List.setIfInBounds_toArray, List.set_cons_zero, List.set_cons_succ])
          refine wpAnyH_take (i := 28) (oi := ⟨some 93, _, _, _, _, _⟩) (v := undef) rfl (by kernel_rfl) (by kernel_rfl) (by kernel_rfl) (fun _ _ _ h => h) (Or.inr ⟨by rfl, rfl⟩) (by assumption) ?_; (try simp only [Act.put, List.setIfInBounds_toArray, List.set_cons_zero, List.set_cons_succ])
          refine wpAnyH_take (i := 29) (oi := ⟨some 94, _, _, _, _, _⟩) (v := undef) rfl (by kernel_rfl) (by kernel_rfl) (by kernel_rfl) (fun _ _ _ h => h) (Or.inr ⟨by rfl, rfl⟩) (by assumption) ?_; (try simp only [Act.put, List.setIfInBounds_toArray, List.set_cons_zero, List.set_cons_succ])
          refine wpAnyH_take (i := 30) (oi := ⟨some 95, _, _, _, _, _⟩) (v := undef) rfl (by kernel_rfl) (by kernel_rfl) (by kernel_rfl) (fun _ _ _ h => h) (Or.inr ⟨by rfl, rfl⟩) (by assumption) ?_; (try simp only [Act.put, List.setIfInBounds_toArray, List.set_cons_zero, List.set_cons_succ])
          refine wpAnyH_take (i := 31) (oi := ⟨some 96, _, _, _, _, _⟩) (v := undef) rfl (by kernel_rfl) (by kernel_rfl) (by kernel_rfl) (fun _ _ _ h => h) (Or.inr ⟨by rfl, rfl⟩) (by assumption) ?_; (try simp only [Act.put, List.setIfInBounds_toArray, List.set_cons_zero, List.set_cons_succ])
          refine wpAnyH_take (i := 32) (oi := ⟨some 97, _, _, _, _, _⟩) (v := undef) rfl (by kernel_rfl) (by kernel_rfl) (by kernel_rfl) (fun _ _ _ h => h) (Or.inr ⟨by rfl, rfl⟩) (by assumption) ?_; (try simp only [Act.put, List.setIfInBounds_toArray, List.set_cons_zero, List.set_cons_succ])
          refine wpAnyH_take (i := 33) (oi := ⟨some 98, _, _, _, _, _⟩) (v := undef) rfl (by kernel_rfl) (by kernel_rfl) (by kernel_rfl) (fun _ _ _ h => h) (Or.inr ⟨by rfl, rfl⟩) (by assumption) ?_; (try simp only [Act.put, List.setIfInBounds_toArray, List.set_cons_zero, List.set_cons_succ])
          refine wpAnyH_take (i := 34) (oi := ⟨some 99, _, _, _, _, _⟩) (v := undef) rfl (by kernel_rfl) (by kernel_rfl) (by kernel_rfl) (fun _ _ _ h => h) (Or.inr ⟨by rfl, rfl⟩) (by assumption) ?_; (try simp only [Act.put, List.setIfInBounds_toArray, List.set_cons_zero, List.set_cons_succ])
          refine wpAnyH_take (i := 35) (oi := ⟨some 100, _, _, _, _, _⟩) (v := undef) rfl (by kernel_rfl) (by kernel_rfl) (by kernel_rfl) (fun _ _ _ h => h) (Or.inr ⟨by rfl, rfl⟩) (by assumption) ?_; (try simp only [Act.put, List.setIfInBounds_toArray, List.set_cons_zero, List.set_cons_succ])
          refine wpAnyH_take (i := 36) (oi := ⟨some 101, _, _, _, _, _⟩) (v := undef) rfl (by kernel_rfl) (by kernel_rfl) (by kernel_rfl) (fun _ _ _ h => h) (Or.inr ⟨by rfl, rfl⟩) (by assumption) ?_; (try simp only [Act.put, List.setIfInBounds_toArray, List.set_cons_zero, List.set_cons_succ])
          refine wpAnyH_take (i := 37) (oi := ⟨some 102, _, _, _, _, _⟩) (v := ?_) rfl (by kernel_rfl) (by kernel_rfl) (by kernel_rfl) (fun _ _ _ h => h) (Or.inl ⟨by rfl, ?_⟩) (by assumption) ?_; rotate_left; (focus (intro w hSw; (try dsimp only at hSw); go_simp; (try with_reducible rfl))); (try simp only [Act.put, List.setIfInBounds_toArray, List.set_cons_zero, List.set_cons_succ])
          refine wpAnyH_take (i := 38) (oi := ⟨some 103, _, _, _, _, _⟩) (v := ?_) rfl (by kernel_rfl) (by kernel_rfl) (by kernel_rfl) (fun _ _ _ h => h) (Or.inl ⟨by rfl, ?_⟩) (by assumption) ?_; rotate_left; (focus (intro w hSw; (try dsimp only at hSw); go_simp; (try with_reducible rfl))); (try simp only [Act.put, List.setIfInBounds_toArray, List.set_cons_zero, List.set_cons_succ])
          refine wpAnyH_done (by kernel_rfl) ?_ _
          go_wp2
          go_roundw
          case rel => exact ⟨k + 1, by omega, by go_num, BK_8.out.drew, BK_8.out.size⟩
          case measure => simp [intOf]; omega
      · obtain rfl : k = n1 := by omega
        go_wp2_with fail
        refine (HVR.out w6 R_6.out).mono ?_
        rintro e w7 ⟨rfl, hb⟩
        have P_7 := Lib.hid (P_6.out.step hb)
        clear P_6
        have B_7 := Lib.hid (B_6.out.trans (hb.mono B_6.out.size))
        clear B_6
        have R_7 := Lib.hid (R_6.out.step hb)
        clear R_6
        have L_7 := Lib.hid (L_6.out.step hb)
        clear L_6
        have S_7 := Lib.hid (S_6.out.step hb)
        clear S_6
        have M_7 := Lib.hid (M_6.out.step hb)
        clear M_6
        have BK_7 := Lib.hid (BK_6.out.trans (hb.mono BK_6.out.size))
        clear BK_6
        clear hb
        go_wp2_with fail
        refine (HLA.out w7 P_7.out).mono ?_
        rintro e w8 ⟨v, rfl, ho, hb⟩
        obtain ⟨A8, c8, rfl, hI9⟩ := OwnI.form ho
        have P_8 := Lib.hid (P_7.out.step hb)
        clear P_7
        have B_8 := Lib.hid (B_7.out.trans (hb.mono B_7.out.size))
        clear B_7
        have R_8 := Lib.hid (R_7.out.step hb)
        clear R_7
        have L_8 := Lib.hid (L_7.out.step hb)
        clear L_7
        have S_8 := Lib.hid (S_7.out.step hb)
        clear S_7
        have M_8 := Lib.hid (M_7.out.step hb)
        clear M_7
        have BK_8 := Lib.hid (BK_7.out.trans (hb.mono BK_7.out.size))
        clear BK_7
        clear hb
        rw [← HLL.out]
        have HEQ := Lib.hid (eq_g A5 A8 ll c5 c8 L w8 HLL.out L_8.out hI9 (by omega))
        clear ho hI9
        go_wp2_with fail
        refine (HEQ.out).mono ?_
        rintro e w9 ⟨rfl, hb⟩
        have P_9 := Lib.hid (P_8.out.step hb)
        clear P_8
        have B_9 := Lib.hid (B_8.out.trans (hb.mono B_8.out.size))
        clear B_8
        have R_9 := Lib.hid (R_8.out.step hb)
        clear R_8
        have L_9 := Lib.hid (L_8.out.step hb)
        clear L_8
        have S_9 := Lib.hid (S_8.out.step hb)
        clear S_8
        have M_9 := Lib.hid (M_8.out.step hb)
        clear M_8
        have BK_9 := Lib.hid (BK_8.out.trans (hb.mono BK_8.out.size))
        clear BK_8
        clear hb
        clear HEQ
        go_wp2
        go_ret
        exact ⟨ret_b (by first | rfl | simp), B_9.out⟩
end Go.Proofs.Ytkfglodjnnlbkaa
