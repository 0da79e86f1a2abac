/- laws.FnExactReachOf returns true for all arguments, and writes nothing that was there. (Made by genlaw.py.) -/
import Derived.Test.YtcfiondggnbnoaaS10
import Derived.Deep.RegionWith
import Derived.Test.YtcfiondggnbnoaaN9

namespace Go.Proofs.Ytcfiondggnbnoaa
set_option linter.unusedSimpArgs false
set_option linter.unusedVariables false
open Go.RowKit

set_option maxRecDepth 100000 in
set_option maxHeartbeats 3200000 in
theorem law_ReachOf (A0 : Option Addr) (n0 c0 : Nat) (gs0 : List Nd) (x1 : Int) (w : World) (hn0 : n0 = gs0.length) (h0 : GS w w.heap.size A0 gs0) (hm0 : n0 ≤ 9223372036854775807) (hp0 : ∀ j, (gs0.getD j default).ps.length ≤ 9223372036854775807) :
    Calls Try.prog 4 #[.agg #[.slice A0 n0 c0], .int .i64 x1] w fun e w' => e = .returned (.bool true) ∧ Below w.heap.size w w' := by
  obtain ⟨l0, hl0⟩ : ∃ l0 : Int, l0 = 1048576 := ⟨_, rfl⟩
  have HC0 := Lib.hid fun (w' : World) (hB : w.heap.size ≤ w'.heap.size) (h : GS w' w.heap.size A0 gs0) => laws_szGraph A0 n0 c0 gs0 l0 w' w.heap.size hB hn0 h (by omega) (by omega) hm0 hp0
  by_cases hz0 : ((gsz gs0 : Nat) : Int) ≤ l0
  case neg =>
    rw [leftOf_no hz0] at HC0
    subst hl0
    have S_0 : Hid (As 0 w.heap.size (fun wk => GS wk w.heap.size A0 gs0) w) := ⟨h0, Nat.le_refl _, (GS.loc _ _ _)⟩
    have Bl_0 : Hid (Bl w w) := Bl.refl w
    have S_1 := Lib.hid (S_0.out.alloc (.cells #[.slice A0 n0 c0] 24))
    clear S_0
    have Bl_1 := Lib.hid (Bl_0.out.alloc (.cells #[.slice A0 n0 c0] 24))
    clear Bl_0
    have bx := box_new w (.slice A0 n0 c0) 24
    have BX0_1 := Lib.hid bx
    clear bx
    clear hn0 h0 hp0 hz0
    go_enter Try.func4, Try.ntmps4
    have q := BX0_1.out.it
    go_wp2_with fail
    refine (HC0.out _ Bl_1.out.le S_1.out.it).mono ?_
    rintro e w2 ⟨rfl, hb⟩
    have S_2 := Lib.hid (S_1.out.step hb)
    clear S_1
    have Bl_2 := Lib.hid (Bl_1.out.step hb)
    clear Bl_1
    have BX0_2 := Lib.hid (BX0_1.out.step hb)
    clear BX0_1
    clear q hb
    go_wp2
    go_ret
    exact ⟨rfl, Bl_2.out⟩
  rw [leftOf_ok hz0] at HC0
  obtain ⟨l1, hl1⟩ : ∃ l1 : Int, l1 = l0 - ((gsz gs0 : Nat) : Int) := ⟨_, rfl⟩
  rw [← hl1] at HC0
  have hge1 : 0 ≤ l1 := by omega
  have hle1 : l1 ≤ 1048576 := by omega
  have hG0 : GB gs0 := GB.of_gsz (by omega)
  have HSP := Lib.hid (top_spec_ReachOf gs0 x1 hG0)
  have HIM := Lib.hid (top_impl_ReachOf gs0 x1 hG0)
  have hlen0 := reachF_len gs0 x1
  generalize reachF gs0 x1 = F0 at *
  obtain ⟨r0, hr0⟩ : ∃ r0 : Nat, r0 = F0.length := ⟨_, rfl⟩
  have hrb0 : r0 ≤ 2000000 := by omega
  have HL0 := Lib.hid hr0
  clear hr0 hlen0
  have ht0 : decide (F0 = F0) = true := by simp
  have HN0 := Lib.hid hn0
  have HG0 := Lib.hid hG0
  have hx0 : decide (gs0 = gs0) = true := by simp
  have hnb0 : n0 ≤ 1048576 := by rw [hn0]; exact hG0.1
  have S_0 : Hid (As 0 w.heap.size (fun wk => GS wk w.heap.size A0 gs0) w) := ⟨h0, Nat.le_refl _, (GS.loc _ _ _)⟩
  have Bl_0 : Hid (Bl w w) := Bl.refl w
  have S_1 := Lib.hid (S_0.out.alloc (.cells #[.slice A0 n0 c0] 24))
  clear S_0
  have Bl_1 := Lib.hid (Bl_0.out.alloc (.cells #[.slice A0 n0 c0] 24))
  clear Bl_0
  have bx := box_new w (.slice A0 n0 c0) 24
  have BX0_1 := Lib.hid bx
  clear bx
  have HLS := Lib.hid hl0
  subst hl0
  clear HLS hn0 h0 hp0 hl1 hz0 hG0
  go_enter Try.func4, Try.ntmps4
  have q := BX0_1.out.it
  go_wp2_with fail
  refine (HC0.out _ Bl_1.out.le S_1.out.it).mono ?_
  rintro e w2 ⟨rfl, hb⟩
  have hs_2 : w.heap.size + 1 ≤ w2.heap.size := by have := hb.size; (try simp only [World.size_alloc] at this); omega
  have S_2 := Lib.hid (S_1.out.step hb)
  clear S_1
  have Bl_2 := Lib.hid (Bl_1.out.step hb)
  clear Bl_1
  have BX0_2 := Lib.hid (BX0_1.out.step hb)
  clear BX0_1
  clear q hb
  have q := BX0_2.out.it
  go_wp2_with fail
  refine (laws_toGraph A0 n0 c0 gs0 _ w.heap.size Bl_2.out.le HN0.out S_2.out.it HG0.out).mono ?_
  rintro e w3 ⟨B3, m3, d3, rfl, hn, hown, hb⟩
  try simp only [World.size_alloc] at hown
  have hs_3 : w2.heap.size ≤ w3.heap.size := by have := hb.size; (try simp only [World.size_alloc] at this); omega
  have M3 := Lib.hid hn
  have NC3 := Lib.hid hown.ncap
  have S_3 := Lib.hid (S_2.out.step hb)
  clear S_2
  have Bl_3 := Lib.hid (Bl_2.out.step hb)
  clear Bl_2
  have BX0_3 := Lib.hid (BX0_2.out.step hb)
  clear BX0_2
  have X0_3 := Lib.hid (graph_start hown)
  clear q hn hown hb
  go_wp2_with fail
  refine (HSP.out B3 m3 d3 _ M3.out NC3.out X0_3.out.graph).mono ?_
  rintro e w4 ⟨v4, rfl, hown0, hb⟩
  clear X0_3
  have hown := hown0
  unfold OwnI at hown
  rw [← HL0.out] at hown
  obtain ⟨B4, d4, rfl⟩ := own_form hown
  try simp only [World.size_alloc] at hown
  have hs_4 : w3.heap.size ≤ w4.heap.size := by have := hb.size; (try simp only [World.size_alloc] at this); omega
  have S_4 := Lib.hid (S_3.out.step hb)
  clear S_3
  have Bl_4 := Lib.hid (Bl_3.out.step hb)
  clear Bl_3
  have BX0_4 := Lib.hid (BX0_3.out.step hb)
  clear BX0_3
  have V_4 := Lib.hid (row_start hown)
  clear hown hown0
  clear hb
  have q := BX0_4.out.it
  go_wp2_with fail
  refine (laws_toGraph A0 n0 c0 gs0 _ w.heap.size Bl_4.out.le HN0.out S_4.out.it HG0.out).mono ?_
  rintro e w5 ⟨B5, m5, d5, rfl, hn, hown, hb⟩
  try simp only [World.size_alloc] at hown
  have hs_5 : w4.heap.size ≤ w5.heap.size := by have := hb.size; (try simp only [World.size_alloc] at this); omega
  have M5 := Lib.hid hn
  have NC5 := Lib.hid hown.ncap
  have S_5 := Lib.hid ((S_4.out.step hb).alloc (.cells #[.slice B5 m5 d5] 30))
  clear S_4
  have Bl_5 := Lib.hid ((Bl_4.out.step hb).alloc (.cells #[.slice B5 m5 d5] 30))
  clear Bl_4
  have BX0_5 := Lib.hid ((BX0_4.out.step hb).alloc (.cells #[.slice B5 m5 d5] 30))
  clear BX0_4
  have V_5 := Lib.hid ((V_4.out.step hb).alloc (.cells #[.slice B5 m5 d5] 30))
  clear V_4
  have X0_5 := Lib.hid ((graph_start hown).alloc (.cells #[.slice B5 m5 d5] 30))
  have XB0_5 := Lib.hid (box_new w5 (.slice B5 m5 d5) 30)
  clear q hn hown hb
  have q0 := XB0_5.out.it
  go_wp2_with fail
  refine (HIM.out B5 m5 d5 _ M5.out NC5.out X0_5.out.graph).mono ?_
  rintro e w6 ⟨v6, rfl, hown0, hb⟩
  have hown := hown0
  unfold OwnI at hown
  rw [← HL0.out] at hown
  obtain ⟨B6, d6, rfl⟩ := own_form hown
  try simp only [World.size_alloc] at hown
  have hs_6 : w5.heap.size + 1 ≤ w6.heap.size := by have := hb.size; (try simp only [World.size_alloc] at this); omega
  have S_6 := Lib.hid (S_5.out.step hb)
  clear S_5
  have Bl_6 := Lib.hid (Bl_5.out.step hb)
  clear Bl_5
  have BX0_6 := Lib.hid (BX0_5.out.step hb)
  clear BX0_5
  have V_6 := Lib.hid (V_5.out.step hb)
  clear V_5
  have X0_6 := Lib.hid (X0_5.out.step hb)
  clear X0_5
  have XB0_6 := Lib.hid (XB0_5.out.step hb)
  clear XB0_5
  have G_6 := Lib.hid (row_start hown)
  clear hown hown0
  clear hb
  clear q0
  go_wp2_with fail
  refine (laws_eqIntS _ _ r0 r0 _ _ F0 F0 _ w6.heap.size (Nat.le_refl _) HL0.out HL0.out G_6.out.ints V_6.out.ints (by omega) (by omega)).mono ?_
  rintro e w7 ⟨rfl, hb⟩
  have S_7 := Lib.hid (S_6.out.step hb)
  clear S_6
  have Bl_7 := Lib.hid (Bl_6.out.step hb)
  clear Bl_6
  have BX0_7 := Lib.hid (BX0_6.out.step hb)
  clear BX0_6
  have V_7 := Lib.hid (V_6.out.step hb)
  clear V_6
  have X0_7 := Lib.hid (X0_6.out.step hb)
  clear X0_6
  have XB0_7 := Lib.hid (XB0_6.out.step hb)
  clear XB0_6
  have G_7 := Lib.hid (G_6.out.step hb)
  clear G_6
  clear hb
  have q := XB0_7.out.it
  have r := BX0_7.out.it
  have hle := Bl_7.out.le
  go_wp2
  go_region_with (first
    | (go_at_call 10; refine (laws_toGraph A0 n0 c0 gs0 _ w.heap.size ?_ HN0.out ?_ HG0.out).mono ?_; (exact hle); exact S_7.out.it; rintro e w8 ⟨B8, m8, d8, rfl, hn, hown, hb'⟩; have hb : Below w7.heap.size w7 w8 := below_of_drew hb'; have M8 := Lib.hid hn; have C8 := Lib.hid (hown.nodes); have S_8 := Lib.hid (S_7.out.step hb); have Bl_8 := Lib.hid (Bl_7.out.step hb); have BX0_8 := Lib.hid (BX0_7.out.step hb); have V_8 := Lib.hid (V_7.out.step hb); have X0_8 := Lib.hid (X0_7.out.step hb); have XB0_8 := Lib.hid (XB0_7.out.step hb); have G_8 := Lib.hid (G_7.out.step hb); have q2 := XB0_8.out.it; have r2 := BX0_8.out.it; clear hn hown hb' hb)
    | (go_at_call 13; refine (laws_eqGraph B5 B8 m5 m8 d5 d8 gs0 gs0 _ w8.heap.size (Nat.le_refl _) M5.out M8.out X0_8.out.graph C8.out HG0.out HG0.out).mono ?_; rintro e w9 ⟨rfl, hb⟩; have S_9 := Lib.hid (S_8.out.step hb); have Bl_9 := Lib.hid (Bl_8.out.step hb); have BX0_9 := Lib.hid (BX0_8.out.step hb); have V_9 := Lib.hid (V_8.out.step hb); have X0_9 := Lib.hid (X0_8.out.step hb); have XB0_9 := Lib.hid (XB0_8.out.step hb); have G_9 := Lib.hid (G_8.out.step hb)))
  all_goals
    clear hb q r q2 r2 hle M8 C8 S_8 Bl_8 BX0_8 V_8 X0_8 XB0_8 G_8 S_7 Bl_7 BX0_7 V_7 X0_7 XB0_7 G_7
    have q := XB0_9.out.it
    go_wp2_with fail
    refine (markw_graph _ _ _ _ _ gs0 1 _ X0_9.out HG0.out (by omega) (by omega)).mono ?_
    rintro e w10 ⟨k0, rfl, hk0a, hk0b, ht⟩
    have S_10 := Lib.hid (S_9.out.turn ht (by omega))
    clear S_9
    have Bl_10 := Lib.hid (Bl_9.out.turn ht (by omega))
    clear Bl_9
    have BX0_10 := Lib.hid (BX0_9.out.turn ht (by omega))
    clear BX0_9
    have V_10 := Lib.hid (V_9.out.turn ht (by omega))
    clear V_9
    clear X0_9
    have XB0_10 := Lib.hid (XB0_9.out.turn ht (by omega))
    clear XB0_9
    have G_10 := Lib.hid (G_9.out.turn ht (by omega))
    clear G_9
    clear ht q
    go_wp2_with fail
    refine (laws_eqIntS _ _ r0 r0 _ _ F0 F0 _ w10.heap.size (Nat.le_refl _) HL0.out HL0.out G_10.out.ints V_10.out.ints (by omega) (by omega)).mono ?_
    rintro e w11 ⟨rfl, hb⟩
    have S_11 := Lib.hid (S_10.out.step hb)
    clear S_10
    have Bl_11 := Lib.hid (Bl_10.out.step hb)
    clear Bl_10
    have BX0_11 := Lib.hid (BX0_10.out.step hb)
    clear BX0_10
    have V_11 := Lib.hid (V_10.out.step hb)
    clear V_10
    have XB0_11 := Lib.hid (XB0_10.out.step hb)
    clear XB0_10
    have G_11 := Lib.hid (G_10.out.step hb)
    clear G_10
    clear hb
    go_wp2_with fail
    refine (mark_ints _ _ r0 _ _ 1 _ G_11.out (by omega) (by omega) (by omega)).mono ?_
    rintro e w12 ⟨he, hg, ht⟩
    subst he
    have S_12 := Lib.hid (S_11.out.turn ht (by omega))
    clear S_11
    have Bl_12 := Lib.hid (Bl_11.out.turn ht (by omega))
    clear Bl_11
    have BX0_12 := Lib.hid (BX0_11.out.turn ht (by omega))
    clear BX0_11
    have V_12 := Lib.hid (V_11.out.turn ht (by omega))
    clear V_11
    have XB0_12 := Lib.hid (XB0_11.out.turn ht (by omega))
    clear XB0_11
    have G_12 := Lib.hid hg
    clear G_11
    clear ht hg
    go_wp2_with fail
    refine (held_ints _ _ r0 _ 1 _ G_12.out (by omega) (by omega) (by omega)).mono ?_
    rintro e w13 ⟨he, hb⟩
    subst he
    have S_13 := Lib.hid (S_12.out.step hb)
    clear S_12
    have Bl_13 := Lib.hid (Bl_12.out.step hb)
    clear Bl_12
    have BX0_13 := Lib.hid (BX0_12.out.step hb)
    clear BX0_12
    have V_13 := Lib.hid (V_12.out.step hb)
    clear V_12
    have XB0_13 := Lib.hid (XB0_12.out.step hb)
    clear XB0_12
    have G_13 := Lib.hid (G_12.out.step hb)
    clear G_12
    clear hb
    have hnn : ((1 : Int) + (r0 : Int) != 1 + (r0 : Int)) = false := by simp
    have q := BX0_13.out.it
    go_wp2_with fail
    refine (laws_toGraph A0 n0 c0 gs0 _ w.heap.size Bl_13.out.le HN0.out S_13.out.it HG0.out).mono ?_
    rintro e w14 ⟨B14, m14, d14, rfl, hn, hown, hb⟩
    have M14 := Lib.hid hn
    have NC14 := Lib.hid hown.ncap
    have S_14 := Lib.hid (S_13.out.step hb)
    clear S_13
    have Bl_14 := Lib.hid (Bl_13.out.step hb)
    clear Bl_13
    have BX0_14 := Lib.hid (BX0_13.out.step hb)
    clear BX0_13
    have V_14 := Lib.hid (V_13.out.step hb)
    clear V_13
    have XB0_14 := Lib.hid (XB0_13.out.step hb)
    clear XB0_13
    have G_14 := Lib.hid (G_13.out.step hb)
    clear G_13
    have Y0_14 := Lib.hid (graph_start hown)
    clear q hn hown hb
    go_wp2_with fail
    refine (HIM.out B14 m14 d14 _ M14.out NC14.out Y0_14.out.graph).mono ?_
    rintro e w15 ⟨v15, rfl, hown0, hb⟩
    clear Y0_14
    have hown := hown0
    unfold OwnI at hown
    rw [← HL0.out] at hown
    obtain ⟨B15, d15, rfl⟩ := own_form hown
    have Z := Lib.hid (IS.of_own hown)
    have S_15 := Lib.hid (S_14.out.step hb)
    clear S_14
    have Bl_15 := Lib.hid (Bl_14.out.step hb)
    clear Bl_14
    have BX0_15 := Lib.hid (BX0_14.out.step hb)
    clear BX0_14
    have V_15 := Lib.hid (V_14.out.step hb)
    clear V_14
    have XB0_15 := Lib.hid (XB0_14.out.step hb)
    clear XB0_14
    have G_15 := Lib.hid (G_14.out.step hb)
    clear G_14
    clear hown hown0 hb
    go_wp2_with fail
    refine (laws_eqIntS _ _ r0 r0 _ _ F0 F0 _ w15.heap.size (Nat.le_refl _) HL0.out HL0.out Z.out V_15.out.ints (by omega) (by omega)).mono ?_
    rintro e w16 ⟨rfl, hb⟩
    have S_16 := Lib.hid (S_15.out.step hb)
    clear S_15
    have Bl_16 := Lib.hid (Bl_15.out.step hb)
    clear Bl_15
    have BX0_16 := Lib.hid (BX0_15.out.step hb)
    clear BX0_15
    have V_16 := Lib.hid (V_15.out.step hb)
    clear V_15
    have XB0_16 := Lib.hid (XB0_15.out.step hb)
    clear XB0_15
    have G_16 := Lib.hid (G_15.out.step hb)
    clear G_15
    clear hb Z
    go_wp2_with fail
    refine (held_ints _ _ r0 _ 1 _ G_16.out (by omega) (by omega) (by omega)).mono ?_
    rintro e w17 ⟨he, hb⟩
    subst he
    have S_17 := Lib.hid (S_16.out.step hb)
    clear S_16
    have Bl_17 := Lib.hid (Bl_16.out.step hb)
    clear Bl_16
    have BX0_17 := Lib.hid (BX0_16.out.step hb)
    clear BX0_16
    have V_17 := Lib.hid (V_16.out.step hb)
    clear V_16
    have XB0_17 := Lib.hid (XB0_16.out.step hb)
    clear XB0_16
    have G_17 := Lib.hid (G_16.out.step hb)
    clear G_16
    clear hb
    go_wp2
    go_ret
    exact ⟨rfl, Bl_17.out⟩
end Go.Proofs.Ytcfiondggnbnoaa
