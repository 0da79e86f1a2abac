/- laws.FnExactApplyPatch returns true for all arguments, and writes nothing that was there. (Made by genlaw.py.) -/
import Derived.Test.YtlbomopjldhmeaaB3a
import Derived.Deep.RegionWith
import Derived.Test.YtlbomopjldhmeaaK20

namespace Go.Proofs.Ytlbomopjldhmeaa
set_option linter.unusedSimpArgs false
set_option linter.unusedVariables false
open Go.RowKit

set_option maxRecDepth 100000 in
set_option maxHeartbeats 3200000 in
theorem law_ApplyPatch (A0 : Option Addr) (n0 c0 : Nat) (xs0 : List Int) (A1 : Option Addr) (n1 c1 : Nat) (ac1 : List Ac) (w : World) (hn0 : n0 = xs0.length) (h0 : IS w w.heap.size A0 xs0) (hm0 : n0 ≤ 9223372036854775807) (hn1 : n1 = ac1.length) (h1 : CS w w.heap.size A1 ac1) (hm1 : n1 ≤ 9223372036854775807) :
    Calls Try.prog 3 #[.slice A0 n0 c0, .slice A1 n1 c1] w fun e w' => e = .returned (.bool true) ∧ Below w.heap.size w w' := by
  by_cases hs0 : 1048576 < n0
  · clear hn0 h0 hn1 h1
    go_enter Try.func3, Try.ntmps3
    go_wp2
    go_ret
    exact ⟨rfl, Below.refl _ _⟩
  obtain ⟨l0, hl0⟩ : ∃ l0 : Int, l0 = 1048576 := ⟨_, rfl⟩
  have HC0 := Lib.hid fun (w' : World) (hB : w.heap.size ≤ w'.heap.size) (h : CS w' w.heap.size A1 ac1) => sz_chgs A1 n1 c1 ac1 l0 w' hn1 (by omega) (by omega) hm1
  by_cases hz0 : ((ac1.length : Nat) : Int) ≤ l0
  case neg =>
    rw [leftOf_no hz0] at HC0
    subst hl0
    have S_0 : Hid (As 0 w.heap.size (fun wk => IS wk w.heap.size A0 xs0 ∧ CS wk w.heap.size A1 ac1) w) := ⟨⟨h0, h1⟩, Nat.le_refl _, ((IS.loc _ _ _).and (CS.loc _ _ _))⟩
    have Bl_0 : Hid (Bl w w) := Bl.refl w
    clear hn0 h0 hn1 h1 hz0
    go_enter Try.func3, Try.ntmps3
    go_wp2_with fail
    refine (HC0.out _ Bl_0.out.le S_0.out.it.2).mono ?_
    rintro e w1 ⟨rfl, hb⟩
    have S_1 := Lib.hid (S_0.out.step hb)
    clear S_0
    have Bl_1 := Lib.hid (Bl_0.out.step hb)
    clear Bl_0
    clear  hb
    go_wp2
    go_ret
    exact ⟨rfl, Bl_1.out⟩
  rw [leftOf_ok hz0] at HC0
  obtain ⟨l1, hl1⟩ : ∃ l1 : Int, l1 = l0 - ((ac1.length : Nat) : Int) := ⟨_, rfl⟩
  rw [← hl1] at HC0
  have hge1 : 0 ≤ l1 := by omega
  have hle1 : l1 ≤ 1048576 := by omega
  have HSP := Lib.hid (top_spec_ApplyPatch xs0 ac1 (by omega) (by omega))
  have HIM := Lib.hid (top_impl_ApplyPatch xs0 ac1 (by omega) (by omega))
  have hlen0 := applyF_len xs0 ac1
  generalize applyF xs0 ac1 = F0 at *
  obtain ⟨r0, hr0⟩ : ∃ r0 : Nat, r0 = F0.length := ⟨_, rfl⟩
  have hrb0 : r0 ≤ 2000000 := by omega
  have HL0 := Lib.hid hr0
  clear hr0 hlen0
  have ht0 : decide (F0 = F0) = true := by simp
  generalize applyB xs0 ac1 = F1 at *
  have hf1 : (F1 != F1) = false := by simp
  have HN0 := Lib.hid hn0
  have hx0 : decide (xs0 = xs0) = true := by simp
  have hnb0 : n0 ≤ 1048576 := by omega
  have HN1 := Lib.hid hn1
  have hx1 : decide (ac1 = ac1) = true := by simp
  have hnb1 : n1 ≤ 1048576 := by omega
  have S_0 : Hid (As 0 w.heap.size (fun wk => IS wk w.heap.size A0 xs0 ∧ CS wk w.heap.size A1 ac1) w) := ⟨⟨h0, h1⟩, Nat.le_refl _, ((IS.loc _ _ _).and (CS.loc _ _ _))⟩
  have Bl_0 : Hid (Bl w w) := Bl.refl w
  have HLS := Lib.hid hl0
  subst hl0
  clear HLS hn0 h0 hn1 h1 hl1 hz0
  go_enter Try.func3, Try.ntmps3
  go_wp2_with fail
  refine (HC0.out _ Bl_0.out.le S_0.out.it.2).mono ?_
  rintro e w1 ⟨rfl, hb⟩
  have hs_1 : w.heap.size ≤ w1.heap.size := by have := hb.size; (try simp only [World.size_alloc] at this); omega
  have S_1 := Lib.hid (S_0.out.step hb)
  clear S_0
  have Bl_1 := Lib.hid (Bl_0.out.step hb)
  clear Bl_0
  clear  hb
  go_wp2_with fail
  refine (laws_toIntS A0 n0 c0 xs0 _ w.heap.size Bl_1.out.le HN0.out S_1.out.it.1 (by omega)).mono ?_
  rintro e w2 ⟨rfl, hown, hb⟩
  try simp only [World.size_alloc] at hown
  have hs_2 : w1.heap.size ≤ w2.heap.size := by have := hb.size; (try simp only [World.size_alloc] at this); omega
  have S_2 := Lib.hid (S_1.out.step hb)
  clear S_1
  have Bl_2 := Lib.hid (Bl_1.out.step hb)
  clear Bl_1
  have X0_2 := Lib.hid (row_start hown)
  clear hown hb
  go_wp2_with fail
  refine (laws_toChangeS A1 n1 c1 ac1 _ w.heap.size Bl_2.out.le HN1.out S_2.out.it.2 (by omega)).mono ?_
  rintro e w3 ⟨rfl, hown, hb⟩
  try simp only [World.size_alloc] at hown
  have hs_3 : w2.heap.size ≤ w3.heap.size := by have := hb.size; (try simp only [World.size_alloc] at this); omega
  have S_3 := Lib.hid (S_2.out.step hb)
  clear S_2
  have Bl_3 := Lib.hid (Bl_2.out.step hb)
  clear Bl_2
  have X0_3 := Lib.hid (X0_2.out.step hb)
  clear X0_2
  have X1_3 := Lib.hid (row_start hown)
  clear hown hb
  go_wp2_with fail
  refine (HSP.out _ n0 _ (some ⟨w2.heap.size, 0, none⟩) n1 n1 _ HN0.out (Nat.le_refl _) X0_3.out.ints HN1.out (Nat.le_refl _) X1_3.out.chgs).mono ?_
  rintro e w4 ⟨v4, rfl, hown0, hb⟩
  clear X0_3
  clear X1_3
  have hown := hown0
  unfold OwnI at hown
  rw [← HL0.out] at hown
  obtain ⟨B4, d4, rfl⟩ := own_form hown
  try simp only [World.size_alloc] at hown
  have hs_4 : w3.heap.size ≤ w4.heap.size := by have := hb.size; (try simp only [World.size_alloc] at this); omega
  have S_4 := Lib.hid (S_3.out.step hb)
  clear S_3
  have Bl_4 := Lib.hid (Bl_3.out.step hb)
  clear Bl_3
  have V_4 := Lib.hid (row_start hown)
  clear hown hown0
  clear hb
  go_wp2_with fail
  refine (laws_toIntS A0 n0 c0 xs0 _ w.heap.size Bl_4.out.le HN0.out S_4.out.it.1 (by omega)).mono ?_
  rintro e w5 ⟨rfl, hown, hb⟩
  try simp only [World.size_alloc] at hown
  have hs_5 : w4.heap.size ≤ w5.heap.size := by have := hb.size; (try simp only [World.size_alloc] at this); omega
  have S_5 := Lib.hid (S_4.out.step hb)
  clear S_4
  have Bl_5 := Lib.hid (Bl_4.out.step hb)
  clear Bl_4
  have V_5 := Lib.hid (V_4.out.step hb)
  clear V_4
  have X0_5 := Lib.hid (row_start hown)
  clear hown hb
  go_wp2_with fail
  refine (laws_toChangeS A1 n1 c1 ac1 _ w.heap.size Bl_5.out.le HN1.out S_5.out.it.2 (by omega)).mono ?_
  rintro e w6 ⟨rfl, hown, hb⟩
  try simp only [World.size_alloc] at hown
  have hs_6 : w5.heap.size ≤ w6.heap.size := by have := hb.size; (try simp only [World.size_alloc] at this); omega
  have S_6 := Lib.hid (S_5.out.step hb)
  clear S_5
  have Bl_6 := Lib.hid (Bl_5.out.step hb)
  clear Bl_5
  have V_6 := Lib.hid (V_5.out.step hb)
  clear V_5
  have X0_6 := Lib.hid (X0_5.out.step hb)
  clear X0_5
  have X1_6 := Lib.hid (row_start hown)
  clear hown hb
  go_wp2_with fail
  refine (HIM.out _ n0 _ (some ⟨w5.heap.size, 0, none⟩) n1 n1 _ HN0.out (Nat.le_refl _) X0_6.out.ints HN1.out (Nat.le_refl _) X1_6.out.chgs).mono ?_
  rintro e w7 ⟨v7, rfl, hown0, hb⟩
  have hown := hown0
  unfold OwnI at hown
  rw [← HL0.out] at hown
  obtain ⟨B7, d7, rfl⟩ := own_form hown
  try simp only [World.size_alloc] at hown
  have hs_7 : w6.heap.size ≤ w7.heap.size := by have := hb.size; (try simp only [World.size_alloc] at this); omega
  have S_7 := Lib.hid (S_6.out.step hb)
  clear S_6
  have Bl_7 := Lib.hid (Bl_6.out.step hb)
  clear Bl_6
  have V_7 := Lib.hid (V_6.out.step hb)
  clear V_6
  have X0_7 := Lib.hid (X0_6.out.step hb)
  clear X0_6
  have X1_7 := Lib.hid (X1_6.out.step hb)
  clear X1_6
  have G_7 := Lib.hid (row_start hown)
  clear hown hown0
  clear hb
  go_wp2_with fail
  refine (laws_eqIntS _ _ r0 r0 _ _ F0 F0 _ w7.heap.size (Nat.le_refl _) HL0.out HL0.out G_7.out.ints V_7.out.ints (by omega) (by omega)).mono ?_
  rintro e w8 ⟨rfl, hb⟩
  have S_8 := Lib.hid (S_7.out.step hb)
  clear S_7
  have Bl_8 := Lib.hid (Bl_7.out.step hb)
  clear Bl_7
  have V_8 := Lib.hid (V_7.out.step hb)
  clear V_7
  have X0_8 := Lib.hid (X0_7.out.step hb)
  clear X0_7
  have X1_8 := Lib.hid (X1_7.out.step hb)
  clear X1_7
  have G_8 := Lib.hid (G_7.out.step hb)
  clear G_7
  clear hb
  go_wp2_with fail
  refine (laws_toIntS A0 n0 c0 xs0 _ w.heap.size Bl_8.out.le HN0.out S_8.out.it.1 (by omega)).mono ?_
  rintro e w9 ⟨rfl, hown, hb⟩
  have Z := Lib.hid (IS.of_own hown)
  have S_9 := Lib.hid (S_8.out.step hb)
  clear S_8
  have Bl_9 := Lib.hid (Bl_8.out.step hb)
  clear Bl_8
  have V_9 := Lib.hid (V_8.out.step hb)
  clear V_8
  have X0_9 := Lib.hid (X0_8.out.step hb)
  clear X0_8
  have X1_9 := Lib.hid (X1_8.out.step hb)
  clear X1_8
  have G_9 := Lib.hid (G_8.out.step hb)
  clear G_8
  clear hown hb
  go_wp2_with fail
  refine (laws_eqIntS _ _ n0 n0 _ _ xs0 xs0 _ w9.heap.size (Nat.le_refl _) HN0.out HN0.out X0_9.out.ints Z.out (by omega) (by omega)).mono ?_
  rintro e w10 ⟨rfl, hb⟩
  have S_10 := Lib.hid (S_9.out.step hb)
  clear S_9
  have Bl_10 := Lib.hid (Bl_9.out.step hb)
  clear Bl_9
  have V_10 := Lib.hid (V_9.out.step hb)
  clear V_9
  have X0_10 := Lib.hid (X0_9.out.step hb)
  clear X0_9
  have X1_10 := Lib.hid (X1_9.out.step hb)
  clear X1_9
  have G_10 := Lib.hid (G_9.out.step hb)
  clear G_9
  clear hb Z
  go_wp2_with fail
  refine (laws_toChangeS A1 n1 c1 ac1 _ w.heap.size Bl_10.out.le HN1.out S_10.out.it.2 (by omega)).mono ?_
  rintro e w11 ⟨rfl, hown, hb⟩
  have Z := Lib.hid (CS.of_own hown)
  have S_11 := Lib.hid (S_10.out.step hb)
  clear S_10
  have Bl_11 := Lib.hid (Bl_10.out.step hb)
  clear Bl_10
  have V_11 := Lib.hid (V_10.out.step hb)
  clear V_10
  have X0_11 := Lib.hid (X0_10.out.step hb)
  clear X0_10
  have X1_11 := Lib.hid (X1_10.out.step hb)
  clear X1_10
  have G_11 := Lib.hid (G_10.out.step hb)
  clear G_10
  clear hown hb
  go_wp2_with fail
  refine (laws_eqChangeS _ _ n1 n1 _ _ ac1 ac1 _ w11.heap.size (Nat.le_refl _) HN1.out HN1.out X1_11.out.chgs Z.out (by omega) (by omega)).mono ?_
  rintro e w12 ⟨rfl, hb⟩
  have S_12 := Lib.hid (S_11.out.step hb)
  clear S_11
  have Bl_12 := Lib.hid (Bl_11.out.step hb)
  clear Bl_11
  have V_12 := Lib.hid (V_11.out.step hb)
  clear V_11
  have X0_12 := Lib.hid (X0_11.out.step hb)
  clear X0_11
  have X1_12 := Lib.hid (X1_11.out.step hb)
  clear X1_11
  have G_12 := Lib.hid (G_11.out.step hb)
  clear G_11
  clear hb Z
  go_wp2_with fail
  refine (markw_ints _ _ _ _ _ 1 _ X0_12.out (by omega) (by omega) (by first | omega | (have := HN0.out; have := HN0.out; omega))).mono ?_
  rintro e w13 ⟨k0, rfl, hk0a, hk0b, ht⟩
  have S_13 := Lib.hid (S_12.out.turn ht (by omega))
  clear S_12
  have Bl_13 := Lib.hid (Bl_12.out.turn ht (by omega))
  clear Bl_12
  have V_13 := Lib.hid (V_12.out.turn ht (by omega))
  clear V_12
  clear X0_12
  have X1_13 := Lib.hid (X1_12.out.turn ht (by omega))
  clear X1_12
  have G_13 := Lib.hid (G_12.out.turn ht (by omega))
  clear G_12
  clear ht
  go_wp2_with fail
  refine (markw_chgs _ _ _ _ _ k0 _ X1_13.out (by omega) (by omega) (by first | omega | (have := HN1.out; have := HN1.out; omega))).mono ?_
  rintro e w14 ⟨k1, rfl, hk1a, hk1b, ht⟩
  have S_14 := Lib.hid (S_13.out.turn ht (by omega))
  clear S_13
  have Bl_14 := Lib.hid (Bl_13.out.turn ht (by omega))
  clear Bl_13
  have V_14 := Lib.hid (V_13.out.turn ht (by omega))
  clear V_13
  clear X1_13
  have G_14 := Lib.hid (G_13.out.turn ht (by omega))
  clear G_13
  clear ht
  go_wp2_with fail
  refine (laws_eqIntS _ _ r0 r0 _ _ F0 F0 _ w14.heap.size (Nat.le_refl _) HL0.out HL0.out G_14.out.ints V_14.out.ints (by omega) (by omega)).mono ?_
  rintro e w15 ⟨rfl, hb⟩
  have S_15 := Lib.hid (S_14.out.step hb)
  clear S_14
  have Bl_15 := Lib.hid (Bl_14.out.step hb)
  clear Bl_14
  have V_15 := Lib.hid (V_14.out.step hb)
  clear V_14
  have G_15 := Lib.hid (G_14.out.step hb)
  clear G_14
  clear hb
  go_wp2_with fail
  refine (mark_ints _ _ r0 _ _ 1 _ G_15.out (by omega) (by omega) (by omega)).mono ?_
  rintro e w16 ⟨he, hg, ht⟩
  subst he
  have S_16 := Lib.hid (S_15.out.turn ht (by omega))
  clear S_15
  have Bl_16 := Lib.hid (Bl_15.out.turn ht (by omega))
  clear Bl_15
  have V_16 := Lib.hid (V_15.out.turn ht (by omega))
  clear V_15
  have G_16 := Lib.hid hg
  clear G_15
  clear ht hg
  go_wp2_with fail
  refine (held_ints _ _ r0 _ 1 _ G_16.out (by omega) (by omega) (by omega)).mono ?_
  rintro e w17 ⟨he, hb⟩
  subst he
  have S_17 := Lib.hid (S_16.out.step hb)
  clear S_16
  have Bl_17 := Lib.hid (Bl_16.out.step hb)
  clear Bl_16
  have V_17 := Lib.hid (V_16.out.step hb)
  clear V_16
  have G_17 := Lib.hid (G_16.out.step hb)
  clear G_16
  clear hb
  have hnn : ((1 : Int) + (r0 : Int) != 1 + (r0 : Int)) = false := by simp
  go_wp2_with fail
  refine (laws_toIntS A0 n0 c0 xs0 _ w.heap.size Bl_17.out.le HN0.out S_17.out.it.1 (by omega)).mono ?_
  rintro e w18 ⟨rfl, hown, hb⟩
  have S_18 := Lib.hid (S_17.out.step hb)
  clear S_17
  have Bl_18 := Lib.hid (Bl_17.out.step hb)
  clear Bl_17
  have V_18 := Lib.hid (V_17.out.step hb)
  clear V_17
  have G_18 := Lib.hid (G_17.out.step hb)
  clear G_17
  have Y0_18 := Lib.hid (row_start hown)
  clear hown hb
  go_wp2_with fail
  refine (laws_toChangeS A1 n1 c1 ac1 _ w.heap.size Bl_18.out.le HN1.out S_18.out.it.2 (by omega)).mono ?_
  rintro e w19 ⟨rfl, hown, hb⟩
  have S_19 := Lib.hid (S_18.out.step hb)
  clear S_18
  have Bl_19 := Lib.hid (Bl_18.out.step hb)
  clear Bl_18
  have V_19 := Lib.hid (V_18.out.step hb)
  clear V_18
  have G_19 := Lib.hid (G_18.out.step hb)
  clear G_18
  have Y0_19 := Lib.hid (Y0_18.out.step hb)
  clear Y0_18
  have Y1_19 := Lib.hid (row_start hown)
  clear hown hb
  go_wp2_with fail
  refine (HIM.out _ n0 _ _ n1 n1 _ HN0.out (Nat.le_refl _) Y0_19.out.ints HN1.out (Nat.le_refl _) Y1_19.out.chgs).mono ?_
  rintro e w20 ⟨v20, rfl, hown0, hb⟩
  clear Y0_19
  clear Y1_19
  have hown := hown0
  unfold OwnI at hown
  rw [← HL0.out] at hown
  obtain ⟨B20, d20, rfl⟩ := own_form hown
  have Z := Lib.hid (IS.of_own hown)
  have S_20 := Lib.hid (S_19.out.step hb)
  clear S_19
  have Bl_20 := Lib.hid (Bl_19.out.step hb)
  clear Bl_19
  have V_20 := Lib.hid (V_19.out.step hb)
  clear V_19
  have G_20 := Lib.hid (G_19.out.step hb)
  clear G_19
  clear hown hown0 hb
  go_wp2_with fail
  refine (laws_eqIntS _ _ r0 r0 _ _ F0 F0 _ w20.heap.size (Nat.le_refl _) HL0.out HL0.out Z.out V_20.out.ints (by omega) (by omega)).mono ?_
  rintro e w21 ⟨rfl, hb⟩
  have S_21 := Lib.hid (S_20.out.step hb)
  clear S_20
  have Bl_21 := Lib.hid (Bl_20.out.step hb)
  clear Bl_20
  have V_21 := Lib.hid (V_20.out.step hb)
  clear V_20
  have G_21 := Lib.hid (G_20.out.step hb)
  clear G_20
  clear hb Z
  go_wp2_with fail
  refine (held_ints _ _ r0 _ 1 _ G_21.out (by omega) (by omega) (by omega)).mono ?_
  rintro e w22 ⟨he, hb⟩
  subst he
  have S_22 := Lib.hid (S_21.out.step hb)
  clear S_21
  have Bl_22 := Lib.hid (Bl_21.out.step hb)
  clear Bl_21
  have V_22 := Lib.hid (V_21.out.step hb)
  clear V_21
  have G_22 := Lib.hid (G_21.out.step hb)
  clear G_21
  clear hb
  go_wp2
  go_ret
  exact ⟨rfl, Bl_22.out⟩
end Go.Proofs.Ytlbomopjldhmeaa
