/- laws.FnExactDisposeOwner returns true for all arguments, and writes nothing that was there. (Made by genlaw.py.) -/
import Derived.Test.YtkfglodjnnlbkaaT17a
import Derived.Deep.RegionWith
import Derived.Test.YtkfglodjnnlbkaaV33

namespace Go.Proofs.Ytkfglodjnnlbkaa
set_option linter.unusedSimpArgs false
set_option linter.unusedVariables false
open Go.RowKit

set_option maxRecDepth 100000 in
set_option maxHeartbeats 3200000 in
theorem law_DisposeOwner (A0 : Option Addr) (n0 c0 : Nat) (ds0 : List On) (x1 : Int) (w : World) (hn0 : n0 = ds0.length) (h0 : OS w w.heap.size A0 ds0) (hm0 : n0 ≤ 9223372036854775807) (hp0 : ∀ j, (ds0.getD j default).cl.length ≤ 9223372036854775807 ∧ (ds0.getD j default).cx.length ≤ 9223372036854775807) :
    Calls Try.prog 10 #[.slice A0 n0 c0, .int .i64 x1] w fun e w' => e = .returned (.bool true) ∧ Below w.heap.size w w' := by
  obtain ⟨l0, hl0⟩ : ∃ l0 : Int, l0 = 1048576 := ⟨_, rfl⟩
  have HC0 := Lib.hid fun (w' : World) (hB : w.heap.size ≤ w'.heap.size) (h : OS w' w.heap.size A0 ds0) => laws_szOwnerS A0 n0 c0 ds0 l0 w' w.heap.size hB hn0 h (by omega) (by omega) hm0 hp0
  by_cases hz0 : ((osz ds0 : Nat) : Int) ≤ l0
  case neg =>
    rw [leftOf_no hz0] at HC0
    subst hl0
    have S_0 : Hid (As 0 w.heap.size (fun wk => OS wk w.heap.size A0 ds0) w) := ⟨h0, Nat.le_refl _, (OS.loc _ _ _)⟩
    have Bl_0 : Hid (Bl w w) := Bl.refl w
    clear hn0 h0 hp0 hz0
    go_enter Try.func10, Try.ntmps10
    go_wp2_with fail
    refine (HC0.out _ Bl_0.out.le S_0.out.it).mono ?_
    rintro e w1 ⟨rfl, hb⟩
    have S_1 := Lib.hid (S_0.out.step hb)
    clear S_0
    have Bl_1 := Lib.hid (Bl_0.out.step hb)
    clear Bl_0
    clear  hb
    go_wp2
    go_ret
    exact ⟨rfl, Bl_1.out⟩
  rw [leftOf_ok hz0] at HC0
  obtain ⟨l1, hl1⟩ : ∃ l1 : Int, l1 = l0 - ((osz ds0 : Nat) : Int) := ⟨_, rfl⟩
  rw [← hl1] at HC0
  have hge1 : 0 ≤ l1 := by omega
  have hle1 : l1 ≤ 1048576 := by omega
  have hG0 : OB ds0 := OB.of_osz (by omega)
  have HSP := Lib.hid (top_spec_DisposeOwner ds0 x1 hG0)
  have HIM := Lib.hid (top_impl_DisposeOwner ds0 x1 hG0)
  have hob0 := dispF_OB ds0 x1
  generalize dispF ds0 x1 = F0 at *
  obtain ⟨r0, hr0⟩ : ∃ r0 : Nat, r0 = F0.length := ⟨_, rfl⟩
  obtain ⟨t0, hq0⟩ : ∃ t0 : Nat, t0 = otot F0 := ⟨_, rfl⟩
  have htb0 : t0 ≤ 3145728 := by rw [hq0]; exact hob0.tot
  have HL0 := Lib.hid hr0
  have HQ0 := Lib.hid hq0
  have HOB0 := Lib.hid hob0
  clear hr0 hq0 hob0
  have ht0 : decide (F0 = F0) = true := by simp
  have hlb1 := dispL_len ds0 x1
  generalize dispL ds0 x1 = F1 at *
  obtain ⟨r1, hr1⟩ : ∃ r1 : Nat, r1 = F1.length := ⟨_, rfl⟩
  rw [← hr1] at hlb1
  have HL1 := Lib.hid hr1
  clear hr1
  have ht1 : decide (F1 = F1) = true := by simp
  have HN0 := Lib.hid hn0
  have HG0 := Lib.hid hG0
  have hx0 : decide (ds0 = ds0) = true := by simp
  have hnb0 : n0 ≤ 1048576 := by rw [hn0]; exact hG0.1
  have S_0 : Hid (As 0 w.heap.size (fun wk => OS wk w.heap.size A0 ds0) w) := ⟨h0, Nat.le_refl _, (OS.loc _ _ _)⟩
  have Bl_0 : Hid (Bl w w) := Bl.refl w
  have HLS := Lib.hid hl0
  subst hl0
  clear HLS hn0 h0 hp0 hl1 hz0 hG0
  go_enter Try.func10, Try.ntmps10
  go_wp2_with fail
  refine (HC0.out _ Bl_0.out.le S_0.out.it).mono ?_
  rintro e w1 ⟨rfl, hb⟩
  have hs_1 : w.heap.size ≤ w1.heap.size := by have := hb.size; (try simp only [World.size_alloc] at this); omega
  have S_1 := Lib.hid (S_0.out.step hb)
  clear S_0
  have Bl_1 := Lib.hid (Bl_0.out.step hb)
  clear Bl_0
  clear hb
  go_wp2_with fail
  refine (laws_toOwnerS A0 n0 c0 ds0 _ w.heap.size Bl_1.out.le HN0.out S_1.out.it HG0.out).mono ?_
  rintro e w2 ⟨rfl, hown, hb⟩
  try simp only [World.size_alloc] at hown
  have hs_2 : w1.heap.size ≤ w2.heap.size := by have := hb.size; (try simp only [World.size_alloc] at this); omega
  have S_2 := Lib.hid (S_1.out.step hb)
  clear S_1
  have Bl_2 := Lib.hid (Bl_1.out.step hb)
  clear Bl_1
  have X0_2 := Lib.hid (owners_start hown)
  clear hown hb
  go_wp2_with fail
  refine (HSP.out _ n0 n0 _ HN0.out (Nat.le_refl _) X0_2.out.owners).mono ?_
  rintro e w3 ⟨v3, u3, rfl, hown, hown2, hb⟩
  clear X0_2
  unfold OwnI at hown2
  rw [← HL0.out] at hown
  rw [← HL1.out] at hown2
  obtain ⟨B3, d3, rfl⟩ := OwO.form hown
  obtain ⟨C3, f3, rfl⟩ := own_form hown2
  try simp only [World.size_alloc] at hown hown2
  have hs_3 : w2.heap.size ≤ w3.heap.size := by have := hb.size; (try simp only [World.size_alloc] at this); omega
  have S_3 := Lib.hid (S_2.out.step hb)
  clear S_2
  have Bl_3 := Lib.hid (Bl_2.out.step hb)
  clear Bl_2
  have V_3 := Lib.hid (owners_start hown)
  have VI_3 := Lib.hid (row_start hown2)
  clear hown hown2 hb
  go_wp2_with fail
  refine (laws_toOwnerS A0 n0 c0 ds0 _ w.heap.size Bl_3.out.le HN0.out S_3.out.it HG0.out).mono ?_
  rintro e w4 ⟨rfl, hown, hb⟩
  try simp only [World.size_alloc] at hown
  have hs_4 : w3.heap.size ≤ w4.heap.size := by have := hb.size; (try simp only [World.size_alloc] at this); omega
  have S_4 := Lib.hid (S_3.out.step hb)
  clear S_3
  have Bl_4 := Lib.hid (Bl_3.out.step hb)
  clear Bl_3
  have V_4 := Lib.hid (V_3.out.step hb)
  clear V_3
  have VI_4 := Lib.hid (VI_3.out.step hb)
  clear VI_3
  have X0_4 := Lib.hid (owners_start hown)
  clear hown hb
  go_wp2_with fail
  refine (HIM.out _ n0 n0 _ HN0.out (Nat.le_refl _) X0_4.out.owners).mono ?_
  rintro e w5 ⟨v5, u5, mid, rfl, hown, hown2, hm1, hm2, hb⟩
  rw [← HL0.out] at hown
  rw [← HL1.out] at hown2
  obtain ⟨B5, d5, rfl⟩ := OwO.form hown
  obtain ⟨C5, f5, rfl⟩ := own_form hown2.1
  try simp only [World.size_alloc] at hown hown2
  have hs_5 : w4.heap.size ≤ w5.heap.size := by have := hb.size; (try simp only [World.size_alloc] at this); omega
  have S_5 := Lib.hid (S_4.out.step hb)
  clear S_4
  have Bl_5 := Lib.hid (Bl_4.out.step hb)
  clear Bl_4
  have V_5 := Lib.hid (V_4.out.step hb)
  clear V_4
  have VI_5 := Lib.hid (VI_4.out.step hb)
  clear VI_4
  have X0_5 := Lib.hid (X0_4.out.step hb)
  clear X0_4
  have G_5 := Lib.hid (owners_start hown)
  have GI_5 : Hid (As w4.heap.size mid (OwR w4.heap.size mid 3 1 _ r1 (F1.map (Value.int .i64))) w5) := ⟨hown2, hm2, OwR.loc _ _ _ _ _ _ _⟩
  clear hown hown2 hb
  go_wp2_with fail
  refine (laws_eqOwnerS _ _ r0 r0 _ _ F0 F0 _ w5.heap.size (Nat.le_refl _) HL0.out HL0.out G_5.out.owners V_5.out.owners HOB0.out HOB0.out).mono ?_
  rintro e w6 ⟨rfl, hb⟩
  have S_6 := Lib.hid (S_5.out.step hb)
  clear S_5
  have Bl_6 := Lib.hid (Bl_5.out.step hb)
  clear Bl_5
  have V_6 := Lib.hid (V_5.out.step hb)
  clear V_5
  have VI_6 := Lib.hid (VI_5.out.step hb)
  clear VI_5
  have X0_6 := Lib.hid (X0_5.out.step hb)
  clear X0_5
  have G_6 := Lib.hid (G_5.out.step hb)
  clear G_5
  have GI_6 := Lib.hid (GI_5.out.step hb)
  clear GI_5
  clear hb
  go_wp2_with fail
  refine (laws_eqIntS _ _ r1 r1 _ _ F1 F1 _ w6.heap.size (Nat.le_refl _) HL1.out HL1.out GI_6.out.ints VI_6.out.ints (by omega) (by omega)).mono ?_
  rintro e w7 ⟨rfl, hb⟩
  have S_7 := Lib.hid (S_6.out.step hb)
  clear S_6
  have Bl_7 := Lib.hid (Bl_6.out.step hb)
  clear Bl_6
  have V_7 := Lib.hid (V_6.out.step hb)
  clear V_6
  have VI_7 := Lib.hid (VI_6.out.step hb)
  clear VI_6
  have X0_7 := Lib.hid (X0_6.out.step hb)
  clear X0_6
  have G_7 := Lib.hid (G_6.out.step hb)
  clear G_6
  have GI_7 := Lib.hid (GI_6.out.step hb)
  clear GI_6
  clear hb
  go_wp2_with fail
  refine (laws_toOwnerS A0 n0 c0 ds0 _ w.heap.size Bl_7.out.le HN0.out S_7.out.it HG0.out).mono ?_
  rintro e w8 ⟨rfl, hown, hb⟩
  have Z := Lib.hid (OwO.owners hown)
  have S_8 := Lib.hid (S_7.out.step hb)
  clear S_7
  have Bl_8 := Lib.hid (Bl_7.out.step hb)
  clear Bl_7
  have V_8 := Lib.hid (V_7.out.step hb)
  clear V_7
  have VI_8 := Lib.hid (VI_7.out.step hb)
  clear VI_7
  have X0_8 := Lib.hid (X0_7.out.step hb)
  clear X0_7
  have G_8 := Lib.hid (G_7.out.step hb)
  clear G_7
  have GI_8 := Lib.hid (GI_7.out.step hb)
  clear GI_7
  clear hown hb
  go_wp2_with fail
  refine (laws_eqOwnerS _ _ n0 n0 _ _ ds0 ds0 _ w8.heap.size (Nat.le_refl _) HN0.out HN0.out X0_8.out.owners Z.out HG0.out HG0.out).mono ?_
  rintro e w9 ⟨rfl, hb⟩
  have S_9 := Lib.hid (S_8.out.step hb)
  clear S_8
  have Bl_9 := Lib.hid (Bl_8.out.step hb)
  clear Bl_8
  have V_9 := Lib.hid (V_8.out.step hb)
  clear V_8
  have VI_9 := Lib.hid (VI_8.out.step hb)
  clear VI_8
  have X0_9 := Lib.hid (X0_8.out.step hb)
  clear X0_8
  have G_9 := Lib.hid (G_8.out.step hb)
  clear G_8
  have GI_9 := Lib.hid (GI_8.out.step hb)
  clear GI_8
  clear hb Z
  go_wp2_with fail
  refine (markw_owners _ _ _ _ ds0 1 _ X0_9.out HG0.out (by omega) (by omega)).mono ?_
  rintro e w10 ⟨k0, rfl, hk0a, hk0b, ht⟩
  have S_10 := Lib.hid (S_9.out.turn ht (by omega))
  clear S_9
  have Bl_10 := Lib.hid (Bl_9.out.turn ht (by omega))
  clear Bl_9
  have V_10 := Lib.hid (V_9.out.turn ht (by omega))
  clear V_9
  have VI_10 := Lib.hid (VI_9.out.turn ht (by omega))
  clear VI_9
  clear X0_9
  have G_10 := Lib.hid (G_9.out.turn ht (by omega))
  clear G_9
  have GI_10 := Lib.hid (GI_9.out.turn ht (by omega))
  clear GI_9
  clear ht
  go_wp2_with fail
  refine (laws_eqOwnerS _ _ r0 r0 _ _ F0 F0 _ w10.heap.size (Nat.le_refl _) HL0.out HL0.out G_10.out.owners V_10.out.owners HOB0.out HOB0.out).mono ?_
  rintro e w11 ⟨rfl, hb⟩
  have S_11 := Lib.hid (S_10.out.step hb)
  clear S_10
  have Bl_11 := Lib.hid (Bl_10.out.step hb)
  clear Bl_10
  have V_11 := Lib.hid (V_10.out.step hb)
  clear V_10
  have VI_11 := Lib.hid (VI_10.out.step hb)
  clear VI_10
  have G_11 := Lib.hid (G_10.out.step hb)
  clear G_10
  have GI_11 := Lib.hid (GI_10.out.step hb)
  clear GI_10
  clear hb
  go_wp2_with fail
  refine (laws_eqIntS _ _ r1 r1 _ _ F1 F1 _ w11.heap.size (Nat.le_refl _) HL1.out HL1.out GI_11.out.ints VI_11.out.ints (by omega) (by omega)).mono ?_
  rintro e w12 ⟨rfl, hb⟩
  have S_12 := Lib.hid (S_11.out.step hb)
  clear S_11
  have Bl_12 := Lib.hid (Bl_11.out.step hb)
  clear Bl_11
  have V_12 := Lib.hid (V_11.out.step hb)
  clear V_11
  have VI_12 := Lib.hid (VI_11.out.step hb)
  clear VI_11
  have G_12 := Lib.hid (G_11.out.step hb)
  clear G_11
  have GI_12 := Lib.hid (GI_11.out.step hb)
  clear GI_11
  clear hb
  go_wp2_with fail
  refine (mark_owners _ _ r0 _ F0 1 _ G_12.out HOB0.out (by omega) (by omega)).mono ?_
  rintro e w13 ⟨he, hg, ht⟩
  rw [← HQ0.out] at he
  subst he
  have S_13 := Lib.hid (S_12.out.turn ht (by omega))
  clear S_12
  have Bl_13 := Lib.hid (Bl_12.out.turn ht (by omega))
  clear Bl_12
  have V_13 := Lib.hid (V_12.out.turn ht (by omega))
  clear V_12
  have VI_13 := Lib.hid (VI_12.out.turn ht (by omega))
  clear VI_12
  have G_13 := Lib.hid hg
  clear G_12
  have GI_13 := Lib.hid (GI_12.out.turn ht (by omega))
  clear GI_12
  clear ht hg
  go_wp2_with fail
  refine (mark_ints _ _ r1 _ _ (1 + (t0 : Int)) _ GI_13.out (by omega) (by omega) (by omega)).mono ?_
  rintro e w14 ⟨he, hg, ht⟩
  subst he
  have S_14 := Lib.hid (S_13.out.turn ht (by omega))
  clear S_13
  have Bl_14 := Lib.hid (Bl_13.out.turn ht (by omega))
  clear Bl_13
  have V_14 := Lib.hid (V_13.out.turn ht (by omega))
  clear V_13
  have VI_14 := Lib.hid (VI_13.out.turn ht (by omega))
  clear VI_13
  have G_14 := Lib.hid (G_13.out.turn ht (by omega))
  clear G_13
  have GI_14 := Lib.hid hg
  clear GI_13
  clear ht hg
  go_wp2_with fail
  refine (held_owners _ _ r0 _ F0 1 _ G_14.out HOB0.out (by omega) (by omega)).mono ?_
  rintro e w15 ⟨he, hb⟩
  rw [← HQ0.out] at he
  subst he
  have S_15 := Lib.hid (S_14.out.step hb)
  clear S_14
  have Bl_15 := Lib.hid (Bl_14.out.step hb)
  clear Bl_14
  have V_15 := Lib.hid (V_14.out.step hb)
  clear V_14
  have VI_15 := Lib.hid (VI_14.out.step hb)
  clear VI_14
  have G_15 := Lib.hid (G_14.out.step hb)
  clear G_14
  have GI_15 := Lib.hid (GI_14.out.step hb)
  clear GI_14
  clear hb
  have hq0 : decide ((1 : Int) + (t0 : Int) < 0) = false := decide_eq_false (by omega)
  go_wp2_with fail
  refine (held_ints _ _ r1 _ (1 + (t0 : Int)) _ GI_15.out (by omega) (by omega) (by omega)).mono ?_
  rintro e w16 ⟨he, hb⟩
  subst he
  have S_16 := Lib.hid (S_15.out.step hb)
  clear S_15
  have Bl_16 := Lib.hid (Bl_15.out.step hb)
  clear Bl_15
  have V_16 := Lib.hid (V_15.out.step hb)
  clear V_15
  have VI_16 := Lib.hid (VI_15.out.step hb)
  clear VI_15
  have G_16 := Lib.hid (G_15.out.step hb)
  clear G_15
  have GI_16 := Lib.hid (GI_15.out.step hb)
  clear GI_15
  clear hb
  have hnn : ((1 : Int) + (t0 : Int) + (r1 : Int) != 1 + (t0 : Int) + (r1 : Int)) = false := by simp
  go_wp2_with fail
  refine (laws_toOwnerS A0 n0 c0 ds0 _ w.heap.size Bl_16.out.le HN0.out S_16.out.it HG0.out).mono ?_
  rintro e w17 ⟨rfl, hown, hb⟩
  try simp only [World.size_alloc] at hown
  have hs_17 : w16.heap.size ≤ w17.heap.size := by have := hb.size; (try simp only [World.size_alloc] at this); omega
  have S_17 := Lib.hid (S_16.out.step hb)
  clear S_16
  have Bl_17 := Lib.hid (Bl_16.out.step hb)
  clear Bl_16
  have V_17 := Lib.hid (V_16.out.step hb)
  clear V_16
  have VI_17 := Lib.hid (VI_16.out.step hb)
  clear VI_16
  have G_17 := Lib.hid (G_16.out.step hb)
  clear G_16
  have GI_17 := Lib.hid (GI_16.out.step hb)
  clear GI_16
  have Y0_17 := Lib.hid (owners_start hown)
  clear hown hb
  go_wp2_with fail
  refine (HIM.out _ n0 n0 _ HN0.out (Nat.le_refl _) Y0_17.out.owners).mono ?_
  rintro e w18 ⟨v18, u18, mid2, rfl, hown, hown2, hm3, hm4, hb⟩
  clear Y0_17
  rw [← HL0.out] at hown
  rw [← HL1.out] at hown2
  obtain ⟨B18, d18, rfl⟩ := OwO.form hown
  obtain ⟨C18, f18, rfl⟩ := own_form hown2.1
  have S_18 := Lib.hid (S_17.out.step hb)
  clear S_17
  have Bl_18 := Lib.hid (Bl_17.out.step hb)
  clear Bl_17
  have V_18 := Lib.hid (V_17.out.step hb)
  clear V_17
  have VI_18 := Lib.hid (VI_17.out.step hb)
  clear VI_17
  have G_18 := Lib.hid (G_17.out.step hb)
  clear G_17
  have GI_18 := Lib.hid (GI_17.out.step hb)
  clear GI_17
  have Z_18 := Lib.hid (owners_start hown)
  have ZI_18 := Lib.hid (row_start hown2.1)
  clear hown hown2 hb
  go_wp2_with fail
  refine (laws_eqOwnerS _ _ r0 r0 _ _ F0 F0 _ w18.heap.size (Nat.le_refl _) HL0.out HL0.out Z_18.out.owners V_18.out.owners HOB0.out HOB0.out).mono ?_
  rintro e w19 ⟨rfl, hb⟩
  have S_19 := Lib.hid (S_18.out.step hb)
  clear S_18
  have Bl_19 := Lib.hid (Bl_18.out.step hb)
  clear Bl_18
  have V_19 := Lib.hid (V_18.out.step hb)
  clear V_18
  have VI_19 := Lib.hid (VI_18.out.step hb)
  clear VI_18
  have G_19 := Lib.hid (G_18.out.step hb)
  clear G_18
  have GI_19 := Lib.hid (GI_18.out.step hb)
  clear GI_18
  have Z_19 := Lib.hid (Z_18.out.step hb)
  clear Z_18
  have ZI_19 := Lib.hid (ZI_18.out.step hb)
  clear ZI_18
  clear hb
  go_wp2_with fail
  refine (laws_eqIntS _ _ r1 r1 _ _ F1 F1 _ w19.heap.size (Nat.le_refl _) HL1.out HL1.out ZI_19.out.ints VI_19.out.ints (by omega) (by omega)).mono ?_
  rintro e w20 ⟨rfl, hb⟩
  have S_20 := Lib.hid (S_19.out.step hb)
  clear S_19
  have Bl_20 := Lib.hid (Bl_19.out.step hb)
  clear Bl_19
  have V_20 := Lib.hid (V_19.out.step hb)
  clear V_19
  have VI_20 := Lib.hid (VI_19.out.step hb)
  clear VI_19
  have G_20 := Lib.hid (G_19.out.step hb)
  clear G_19
  have GI_20 := Lib.hid (GI_19.out.step hb)
  clear GI_19
  have Z_20 := Lib.hid (Z_19.out.step hb)
  clear Z_19
  have ZI_20 := Lib.hid (ZI_19.out.step hb)
  clear ZI_19
  clear hb
  go_wp2_with fail
  refine (held_owners _ _ r0 _ F0 1 _ G_20.out HOB0.out (by omega) (by omega)).mono ?_
  rintro e w21 ⟨he, hb⟩
  rw [← HQ0.out] at he
  subst he
  have S_21 := Lib.hid (S_20.out.step hb)
  clear S_20
  have Bl_21 := Lib.hid (Bl_20.out.step hb)
  clear Bl_20
  have V_21 := Lib.hid (V_20.out.step hb)
  clear V_20
  have VI_21 := Lib.hid (VI_20.out.step hb)
  clear VI_20
  have G_21 := Lib.hid (G_20.out.step hb)
  clear G_20
  have GI_21 := Lib.hid (GI_20.out.step hb)
  clear GI_20
  have Z_21 := Lib.hid (Z_20.out.step hb)
  clear Z_20
  have ZI_21 := Lib.hid (ZI_20.out.step hb)
  clear ZI_20
  clear hb
  go_wp2_with fail
  refine (held_ints _ _ r1 _ (1 + (t0 : Int)) _ GI_21.out (by omega) (by omega) (by omega)).mono ?_
  rintro e w22 ⟨he, hb⟩
  subst he
  have S_22 := Lib.hid (S_21.out.step hb)
  clear S_21
  have Bl_22 := Lib.hid (Bl_21.out.step hb)
  clear Bl_21
  have V_22 := Lib.hid (V_21.out.step hb)
  clear V_21
  have VI_22 := Lib.hid (VI_21.out.step hb)
  clear VI_21
  have G_22 := Lib.hid (G_21.out.step hb)
  clear G_21
  have GI_22 := Lib.hid (GI_21.out.step hb)
  clear GI_21
  have Z_22 := Lib.hid (Z_21.out.step hb)
  clear Z_21
  have ZI_22 := Lib.hid (ZI_21.out.step hb)
  clear ZI_21
  clear hb
  go_wp2
  go_ret
  exact ⟨rfl, Bl_22.out⟩
end Go.Proofs.Ytkfglodjnnlbkaa
