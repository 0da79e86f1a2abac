/- laws.FnExactLabelsOf returns true for all arguments, and writes nothing that was there. (Made by genlaw.py.) -/
import Derived.Test.YtkfglodjnnlbkaaT17a
import Derived.Deep.RegionWith
import Derived.Test.YtkfglodjnnlbkaaV33

namespace Go.Proofs.Ytkfglodjnnlbkaa
set_option linter.unusedSimpArgs false
set_option linter.unusedVariables false
open Go.RowKit

set_option maxRecDepth 100000 in
set_option maxHeartbeats 3200000 in
theorem law_LabelsOf (A0 : Option Addr) (n0 c0 : Nat) (ds0 : List On) (x1 : Int) (w : World) (hn0 : n0 = ds0.length) (h0 : OS w w.heap.size A0 ds0) (hm0 : n0 ≤ 9223372036854775807) (hp0 : ∀ j, (ds0.getD j default).cl.length ≤ 9223372036854775807 ∧ (ds0.getD j default).cx.length ≤ 9223372036854775807) :
    Calls Try.prog 11 #[.slice A0 n0 c0, .int .i64 x1] w fun e w' => e = .returned (.bool true) ∧ Below w.heap.size w w' := by
  obtain ⟨l0, hl0⟩ : ∃ l0 : Int, l0 = 1048576 := ⟨_, rfl⟩
  have HC0 := Lib.hid fun (w' : World) (hB : w.heap.size ≤ w'.heap.size) (h : OS w' w.heap.size A0 ds0) => laws_szOwnerS A0 n0 c0 ds0 l0 w' w.heap.size hB hn0 h (by omega) (by omega) hm0 hp0
  by_cases hz0 : ((osz ds0 : Nat) : Int) ≤ l0
  case neg =>
    rw [leftOf_no hz0] at HC0
    subst hl0
    have S_0 : Hid (As 0 w.heap.size (fun wk => OS wk w.heap.size A0 ds0) w) := ⟨h0, Nat.le_refl _, (OS.loc _ _ _)⟩
    have Bl_0 : Hid (Bl w w) := Bl.refl w
    clear hn0 h0 hp0 hz0
    go_enter Try.func11, Try.ntmps11
    go_wp2_with fail
    refine (HC0.out _ Bl_0.out.le S_0.out.it).mono ?_
    rintro e w1 ⟨rfl, hb⟩
    have S_1 := Lib.hid (S_0.out.step hb)
    clear S_0
    have Bl_1 := Lib.hid (Bl_0.out.step hb)
    clear Bl_0
    clear  hb
    go_wp2
    go_ret
    exact ⟨rfl, Bl_1.out⟩
  rw [leftOf_ok hz0] at HC0
  obtain ⟨l1, hl1⟩ : ∃ l1 : Int, l1 = l0 - ((osz ds0 : Nat) : Int) := ⟨_, rfl⟩
  rw [← hl1] at HC0
  have hge1 : 0 ≤ l1 := by omega
  have hle1 : l1 ≤ 1048576 := by omega
  have hG0 : OB ds0 := OB.of_osz (by omega)
  have HSP := Lib.hid (top_spec_LabelsOf ds0 x1 hG0)
  have HIM := Lib.hid (top_impl_LabelsOf ds0 x1 hG0)
  have hlen0 := rerL_len ds0 x1
  generalize rerL ds0 x1 = F0 at *
  obtain ⟨r0, hr0⟩ : ∃ r0 : Nat, r0 = F0.length := ⟨_, rfl⟩
  have hrb0 : r0 ≤ 2000000 := by omega
  have HL0 := Lib.hid hr0
  clear hr0 hlen0
  have ht0 : decide (F0 = F0) = true := by simp
  have HN0 := Lib.hid hn0
  have HG0 := Lib.hid hG0
  have hx0 : decide (ds0 = ds0) = true := by simp
  have hnb0 : n0 ≤ 1048576 := by rw [hn0]; exact hG0.1
  have S_0 : Hid (As 0 w.heap.size (fun wk => OS wk w.heap.size A0 ds0) w) := ⟨h0, Nat.le_refl _, (OS.loc _ _ _)⟩
  have Bl_0 : Hid (Bl w w) := Bl.refl w
  have HLS := Lib.hid hl0
  subst hl0
  clear HLS hn0 h0 hp0 hl1 hz0 hG0
  go_enter Try.func11, Try.ntmps11
  go_wp2_with fail
  refine (HC0.out _ Bl_0.out.le S_0.out.it).mono ?_
  rintro e w1 ⟨rfl, hb⟩
  have hs_1 : w.heap.size ≤ w1.heap.size := by have := hb.size; (try simp only [World.size_alloc] at this); omega
  have S_1 := Lib.hid (S_0.out.step hb)
  clear S_0
  have Bl_1 := Lib.hid (Bl_0.out.step hb)
  clear Bl_0
  clear  hb
  go_wp2_with fail
  refine (laws_toOwnerS A0 n0 c0 ds0 _ w.heap.size Bl_1.out.le HN0.out S_1.out.it HG0.out).mono ?_
  rintro e w2 ⟨rfl, hown, hb⟩
  try simp only [World.size_alloc] at hown
  have hs_2 : w1.heap.size ≤ w2.heap.size := by have := hb.size; (try simp only [World.size_alloc] at this); omega
  have S_2 := Lib.hid (S_1.out.step hb)
  clear S_1
  have Bl_2 := Lib.hid (Bl_1.out.step hb)
  clear Bl_1
  have X0_2 := Lib.hid (owners_start hown)
  clear hown hb
  go_wp2_with fail
  refine (HSP.out (some ⟨w1.heap.size, 0, none⟩) n0 n0 _ HN0.out (Nat.le_refl _) X0_2.out.owners).mono ?_
  rintro e w3 ⟨v3, rfl, hown0, hb⟩
  clear X0_2
  have hown := hown0
  unfold OwnI at hown
  rw [← HL0.out] at hown
  obtain ⟨B3, d3, rfl⟩ := own_form hown
  try simp only [World.size_alloc] at hown
  have hs_3 : w2.heap.size ≤ w3.heap.size := by have := hb.size; (try simp only [World.size_alloc] at this); omega
  have S_3 := Lib.hid (S_2.out.step hb)
  clear S_2
  have Bl_3 := Lib.hid (Bl_2.out.step hb)
  clear Bl_2
  have V_3 := Lib.hid (row_start hown)
  clear hown hown0
  clear hb
  go_wp2_with fail
  refine (laws_toOwnerS A0 n0 c0 ds0 _ w.heap.size Bl_3.out.le HN0.out S_3.out.it HG0.out).mono ?_
  rintro e w4 ⟨rfl, hown, hb⟩
  try simp only [World.size_alloc] at hown
  have hs_4 : w3.heap.size ≤ w4.heap.size := by have := hb.size; (try simp only [World.size_alloc] at this); omega
  have S_4 := Lib.hid (S_3.out.step hb)
  clear S_3
  have Bl_4 := Lib.hid (Bl_3.out.step hb)
  clear Bl_3
  have V_4 := Lib.hid (V_3.out.step hb)
  clear V_3
  have X0_4 := Lib.hid (owners_start hown)
  clear hown hb
  go_wp2_with fail
  refine (HIM.out (some ⟨w3.heap.size, 0, none⟩) n0 n0 _ HN0.out (Nat.le_refl _) X0_4.out.owners).mono ?_
  rintro e w5 ⟨v5, rfl, hown0, hb⟩
  have hown := hown0
  unfold OwnI at hown
  rw [← HL0.out] at hown
  obtain ⟨B5, d5, rfl⟩ := own_form hown
  try simp only [World.size_alloc] at hown
  have hs_5 : w4.heap.size ≤ w5.heap.size := by have := hb.size; (try simp only [World.size_alloc] at this); omega
  have S_5 := Lib.hid (S_4.out.step hb)
  clear S_4
  have Bl_5 := Lib.hid (Bl_4.out.step hb)
  clear Bl_4
  have V_5 := Lib.hid (V_4.out.step hb)
  clear V_4
  have X0_5 := Lib.hid (X0_4.out.step hb)
  clear X0_4
  have G_5 := Lib.hid (row_start hown)
  clear hown hown0
  clear hb
  go_wp2_with fail
  refine (laws_eqIntS _ _ r0 r0 _ _ F0 F0 _ w5.heap.size (Nat.le_refl _) HL0.out HL0.out G_5.out.ints V_5.out.ints (by omega) (by omega)).mono ?_
  rintro e w6 ⟨rfl, hb⟩
  have S_6 := Lib.hid (S_5.out.step hb)
  clear S_5
  have Bl_6 := Lib.hid (Bl_5.out.step hb)
  clear Bl_5
  have V_6 := Lib.hid (V_5.out.step hb)
  clear V_5
  have X0_6 := Lib.hid (X0_5.out.step hb)
  clear X0_5
  have G_6 := Lib.hid (G_5.out.step hb)
  clear G_5
  clear hb
  go_wp2_with fail
  refine (laws_toOwnerS A0 n0 c0 ds0 _ w.heap.size Bl_6.out.le HN0.out S_6.out.it HG0.out).mono ?_
  rintro e w7 ⟨rfl, hown, hb⟩
  have Z := Lib.hid (OwO.owners hown)
  have S_7 := Lib.hid (S_6.out.step hb)
  clear S_6
  have Bl_7 := Lib.hid (Bl_6.out.step hb)
  clear Bl_6
  have V_7 := Lib.hid (V_6.out.step hb)
  clear V_6
  have X0_7 := Lib.hid (X0_6.out.step hb)
  clear X0_6
  have G_7 := Lib.hid (G_6.out.step hb)
  clear G_6
  clear hown hb
  go_wp2_with fail
  refine (laws_eqOwnerS _ _ n0 n0 _ _ ds0 ds0 _ w7.heap.size (Nat.le_refl _) HN0.out HN0.out X0_7.out.owners Z.out HG0.out HG0.out).mono ?_
  rintro e w8 ⟨rfl, hb⟩
  have S_8 := Lib.hid (S_7.out.step hb)
  clear S_7
  have Bl_8 := Lib.hid (Bl_7.out.step hb)
  clear Bl_7
  have V_8 := Lib.hid (V_7.out.step hb)
  clear V_7
  have X0_8 := Lib.hid (X0_7.out.step hb)
  clear X0_7
  have G_8 := Lib.hid (G_7.out.step hb)
  clear G_7
  clear hb Z
  go_wp2_with fail
  refine (markw_owners _ _ _ _ ds0 1 _ X0_8.out HG0.out (by omega) (by omega)).mono ?_
  rintro e w9 ⟨k0, rfl, hk0a, hk0b, ht⟩
  have S_9 := Lib.hid (S_8.out.turn ht (by omega))
  clear S_8
  have Bl_9 := Lib.hid (Bl_8.out.turn ht (by omega))
  clear Bl_8
  have V_9 := Lib.hid (V_8.out.turn ht (by omega))
  clear V_8
  clear X0_8
  have G_9 := Lib.hid (G_8.out.turn ht (by omega))
  clear G_8
  clear ht
  go_wp2_with fail
  refine (laws_eqIntS _ _ r0 r0 _ _ F0 F0 _ w9.heap.size (Nat.le_refl _) HL0.out HL0.out G_9.out.ints V_9.out.ints (by omega) (by omega)).mono ?_
  rintro e w10 ⟨rfl, hb⟩
  have S_10 := Lib.hid (S_9.out.step hb)
  clear S_9
  have Bl_10 := Lib.hid (Bl_9.out.step hb)
  clear Bl_9
  have V_10 := Lib.hid (V_9.out.step hb)
  clear V_9
  have G_10 := Lib.hid (G_9.out.step hb)
  clear G_9
  clear hb
  go_wp2_with fail
  refine (mark_ints _ _ r0 _ _ 1 _ G_10.out (by omega) (by omega) (by omega)).mono ?_
  rintro e w11 ⟨he, hg, ht⟩
  subst he
  have S_11 := Lib.hid (S_10.out.turn ht (by omega))
  clear S_10
  have Bl_11 := Lib.hid (Bl_10.out.turn ht (by omega))
  clear Bl_10
  have V_11 := Lib.hid (V_10.out.turn ht (by omega))
  clear V_10
  have G_11 := Lib.hid hg
  clear G_10
  clear ht hg
  go_wp2_with fail
  refine (held_ints _ _ r0 _ 1 _ G_11.out (by omega) (by omega) (by omega)).mono ?_
  rintro e w12 ⟨he, hb⟩
  subst he
  have S_12 := Lib.hid (S_11.out.step hb)
  clear S_11
  have Bl_12 := Lib.hid (Bl_11.out.step hb)
  clear Bl_11
  have V_12 := Lib.hid (V_11.out.step hb)
  clear V_11
  have G_12 := Lib.hid (G_11.out.step hb)
  clear G_11
  clear hb
  have hnn : ((1 : Int) + (r0 : Int) != 1 + (r0 : Int)) = false := by simp
  go_wp2_with fail
  refine (laws_toOwnerS A0 n0 c0 ds0 _ w.heap.size Bl_12.out.le HN0.out S_12.out.it HG0.out).mono ?_
  rintro e w13 ⟨rfl, hown, hb⟩
  have S_13 := Lib.hid (S_12.out.step hb)
  clear S_12
  have Bl_13 := Lib.hid (Bl_12.out.step hb)
  clear Bl_12
  have V_13 := Lib.hid (V_12.out.step hb)
  clear V_12
  have G_13 := Lib.hid (G_12.out.step hb)
  clear G_12
  have Y0_13 := Lib.hid (owners_start hown)
  clear hown hb
  go_wp2_with fail
  refine (HIM.out _ n0 n0 _ HN0.out (Nat.le_refl _) Y0_13.out.owners).mono ?_
  rintro e w14 ⟨v14, rfl, hown0, hb⟩
  clear Y0_13
  have hown := hown0
  unfold OwnI at hown
  rw [← HL0.out] at hown
  obtain ⟨B14, d14, rfl⟩ := own_form hown
  have Z := Lib.hid (IS.of_own hown)
  have S_14 := Lib.hid (S_13.out.step hb)
  clear S_13
  have Bl_14 := Lib.hid (Bl_13.out.step hb)
  clear Bl_13
  have V_14 := Lib.hid (V_13.out.step hb)
  clear V_13
  have G_14 := Lib.hid (G_13.out.step hb)
  clear G_13
  clear hown hown0 hb
  go_wp2_with fail
  refine (laws_eqIntS _ _ r0 r0 _ _ F0 F0 _ w14.heap.size (Nat.le_refl _) HL0.out HL0.out Z.out V_14.out.ints (by omega) (by omega)).mono ?_
  rintro e w15 ⟨rfl, hb⟩
  have S_15 := Lib.hid (S_14.out.step hb)
  clear S_14
  have Bl_15 := Lib.hid (Bl_14.out.step hb)
  clear Bl_14
  have V_15 := Lib.hid (V_14.out.step hb)
  clear V_14
  have G_15 := Lib.hid (G_14.out.step hb)
  clear G_14
  clear hb Z
  go_wp2_with fail
  refine (held_ints _ _ r0 _ 1 _ G_15.out (by omega) (by omega) (by omega)).mono ?_
  rintro e w16 ⟨he, hb⟩
  subst he
  have S_16 := Lib.hid (S_15.out.step hb)
  clear S_15
  have Bl_16 := Lib.hid (Bl_15.out.step hb)
  clear Bl_15
  have V_16 := Lib.hid (V_15.out.step hb)
  clear V_15
  have G_16 := Lib.hid (G_15.out.step hb)
  clear G_15
  clear hb
  go_wp2
  go_ret
  exact ⟨rfl, Bl_16.out⟩
end Go.Proofs.Ytkfglodjnnlbkaa
