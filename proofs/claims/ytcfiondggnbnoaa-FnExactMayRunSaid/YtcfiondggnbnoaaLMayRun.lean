/- laws.FnExactMayRun returns true for all arguments, and writes nothing that was there. (Made by genlaw.py.) -/
import Derived.Test.YtcfiondggnbnoaaS17
import Derived.Deep.RegionWith
import Derived.Test.YtcfiondggnbnoaaN14

namespace Go.Proofs.Ytcfiondggnbnoaa
set_option linter.unusedSimpArgs false
set_option linter.unusedVariables false
open Go.RowKit

set_option maxRecDepth 100000 in
set_option maxHeartbeats 3200000 in
theorem law_MayRun (A0 : Option Addr) (n0 c0 : Nat) (gs0 : List Nd) (A1 : Option Addr) (n1 c1 : Nat) (xs1 : List Int) (w : World) (hn0 : n0 = gs0.length) (h0 : GS w w.heap.size A0 gs0) (hm0 : n0 ≤ 9223372036854775807) (hp0 : ∀ j, (gs0.getD j default).ps.length ≤ 9223372036854775807) (hn1 : n1 = xs1.length) (h1 : IS w w.heap.size A1 xs1) (hm1 : n1 ≤ 9223372036854775807) :
    Calls Try.prog 7 #[.agg #[.slice A0 n0 c0], .slice A1 n1 c1] w fun e w' => e = .returned (.bool true) ∧ Below w.heap.size w w' := by
  by_cases hs1 : 1048576 < n1
  · clear hn0 h0 hp0 hn1 h1
    go_enter Try.func7, Try.ntmps7
    go_wp2
    go_ret
    exact ⟨rfl, (Below.refl _ _).alloc (Nat.le_refl _) _⟩
  obtain ⟨l0, hl0⟩ : ∃ l0 : Int, l0 = 1048576 := ⟨_, rfl⟩
  have HC0 := Lib.hid fun (w' : World) (hB : w.heap.size ≤ w'.heap.size) (h : GS w' w.heap.size A0 gs0) => laws_szGraph A0 n0 c0 gs0 l0 w' w.heap.size hB hn0 h (by omega) (by omega) hm0 hp0
  by_cases hz0 : ((gsz gs0 : Nat) : Int) ≤ l0
  case neg =>
    rw [leftOf_no hz0] at HC0
    subst hl0
    have S_0 : Hid (As 0 w.heap.size (fun wk => GS wk w.heap.size A0 gs0 ∧ IS wk w.heap.size A1 xs1) w) := ⟨⟨h0, h1⟩, Nat.le_refl _, ((GS.loc _ _ _).and (IS.loc _ _ _))⟩
    have Bl_0 : Hid (Bl w w) := Bl.refl w
    have S_1 := Lib.hid (S_0.out.alloc (.cells #[.slice A0 n0 c0] 24))
    clear S_0
    have Bl_1 := Lib.hid (Bl_0.out.alloc (.cells #[.slice A0 n0 c0] 24))
    clear Bl_0
    have bx := box_new w (.slice A0 n0 c0) 24
    have BX0_1 := Lib.hid bx
    clear bx
    clear hn0 h0 hp0 hn1 h1 hz0
    go_enter Try.func7, Try.ntmps7
    have q := BX0_1.out.it
    go_wp2_with fail
    refine (HC0.out _ Bl_1.out.le S_1.out.it.1).mono ?_
    rintro e w2 ⟨rfl, hb⟩
    have S_2 := Lib.hid (S_1.out.step hb)
    clear S_1
    have Bl_2 := Lib.hid (Bl_1.out.step hb)
    clear Bl_1
    have BX0_2 := Lib.hid (BX0_1.out.step hb)
    clear BX0_1
    clear q hb
    go_wp2
    go_ret
    exact ⟨rfl, Bl_2.out⟩
  rw [leftOf_ok hz0] at HC0
  obtain ⟨l1, hl1⟩ : ∃ l1 : Int, l1 = l0 - ((gsz gs0 : Nat) : Int) := ⟨_, rfl⟩
  rw [← hl1] at HC0
  have hge1 : 0 ≤ l1 := by omega
  have hle1 : l1 ≤ 1048576 := by omega
  have hG0 : GB gs0 := GB.of_gsz (by omega)
  have HSP := Lib.hid (top_spec_MayRun gs0 xs1 hG0 (by omega))
  have HIM := Lib.hid (top_impl_MayRun gs0 xs1 hG0 (by omega))
  have hlen0 := mrF_len gs0 xs1
  generalize mrF gs0 xs1 = F0 at *
  obtain ⟨r0, hr0⟩ : ∃ r0 : Nat, r0 = F0.length := ⟨_, rfl⟩
  have hrb0 : r0 ≤ 2000000 := by omega
  have HL0 := Lib.hid hr0
  clear hr0 hlen0
  have ht0 : decide (F0 = F0) = true := by simp
  have HN0 := Lib.hid hn0
  have HG0 := Lib.hid hG0
  have hx0 : decide (gs0 = gs0) = true := by simp
  have hnb0 : n0 ≤ 1048576 := by rw [hn0]; exact hG0.1
  have HN1 := Lib.hid hn1
  have hx1 : decide (xs1 = xs1) = true := by simp
  have hnb1 : n1 ≤ 1048576 := by omega
  have S_0 : Hid (As 0 w.heap.size (fun wk => GS wk w.heap.size A0 gs0 ∧ IS wk w.heap.size A1 xs1) w) := ⟨⟨h0, h1⟩, Nat.le_refl _, ((GS.loc _ _ _).and (IS.loc _ _ _))⟩
  have Bl_0 : Hid (Bl w w) := Bl.refl w
  have S_1 := Lib.hid (S_0.out.alloc (.cells #[.slice A0 n0 c0] 24))
  clear S_0
  have Bl_1 := Lib.hid (Bl_0.out.alloc (.cells #[.slice A0 n0 c0] 24))
  clear Bl_0
  have bx := box_new w (.slice A0 n0 c0) 24
  have BX0_1 := Lib.hid bx
  clear bx
  have HLS := Lib.hid hl0
  subst hl0
  clear HLS hn0 h0 hp0 hn1 h1 hl1 hz0 hG0
  go_enter Try.func7, Try.ntmps7
  have q := BX0_1.out.it
  go_wp2_with fail
  refine (HC0.out _ Bl_1.out.le S_1.out.it.1).mono ?_
  rintro e w2 ⟨rfl, hb⟩
  have hs_2 : w.heap.size + 1 ≤ w2.heap.size := by have := hb.size; (try simp only [World.size_alloc] at this); omega
  have S_2 := Lib.hid (S_1.out.step hb)
  clear S_1
  have Bl_2 := Lib.hid (Bl_1.out.step hb)
  clear Bl_1
  have BX0_2 := Lib.hid (BX0_1.out.step hb)
  clear BX0_1
  clear q hb
  have q := BX0_2.out.it
  go_wp2_with fail
  refine (laws_toGraph A0 n0 c0 gs0 _ w.heap.size Bl_2.out.le HN0.out S_2.out.it.1 HG0.out).mono ?_
  rintro e w3 ⟨B3, m3, d3, rfl, hn, hown, hb⟩
  try simp only [World.size_alloc] at hown
  have hs_3 : w2.heap.size ≤ w3.heap.size := by have := hb.size; (try simp only [World.size_alloc] at this); omega
  have M3 := Lib.hid hn
  have NC3 := Lib.hid hown.ncap
  have S_3 := Lib.hid (S_2.out.step hb)
  clear S_2
  have Bl_3 := Lib.hid (Bl_2.out.step hb)
  clear Bl_2
  have BX0_3 := Lib.hid (BX0_2.out.step hb)
  clear BX0_2
  have X0_3 := Lib.hid (graph_start hown)
  clear q hn hown hb
  go_wp2_with fail
  refine (laws_toIntS A1 n1 c1 xs1 _ w.heap.size Bl_3.out.le HN1.out S_3.out.it.2 (by omega)).mono ?_
  rintro e w4 ⟨rfl, hown, hb⟩
  try simp only [World.size_alloc] at hown
  have hs_4 : w3.heap.size ≤ w4.heap.size := by have := hb.size; (try simp only [World.size_alloc] at this); omega
  have S_4 := Lib.hid (S_3.out.step hb)
  clear S_3
  have Bl_4 := Lib.hid (Bl_3.out.step hb)
  clear Bl_3
  have BX0_4 := Lib.hid (BX0_3.out.step hb)
  clear BX0_3
  have X0_4 := Lib.hid (X0_3.out.step hb)
  clear X0_3
  have X1_4 := Lib.hid (row_start hown)
  clear hown hb
  go_wp2_with fail
  refine (HSP.out B3 m3 d3 _ n1 _ _ M3.out NC3.out X0_4.out.graph HN1.out (Nat.le_refl _) X1_4.out.ints).mono ?_
  rintro e w5 ⟨v5, rfl, hown0, hb⟩
  clear X0_4
  clear X1_4
  have hown := hown0
  unfold OwnI at hown
  rw [← HL0.out] at hown
  obtain ⟨B5, d5, rfl⟩ := own_form hown
  try simp only [World.size_alloc] at hown
  have hs_5 : w4.heap.size ≤ w5.heap.size := by have := hb.size; (try simp only [World.size_alloc] at this); omega
  have S_5 := Lib.hid (S_4.out.step hb)
  clear S_4
  have Bl_5 := Lib.hid (Bl_4.out.step hb)
  clear Bl_4
  have BX0_5 := Lib.hid (BX0_4.out.step hb)
  clear BX0_4
  have V_5 := Lib.hid (row_start hown)
  clear hown hown0
  clear hb
  have q := BX0_5.out.it
  go_wp2_with fail
  refine (laws_toGraph A0 n0 c0 gs0 _ w.heap.size Bl_5.out.le HN0.out S_5.out.it.1 HG0.out).mono ?_
  rintro e w6 ⟨B6, m6, d6, rfl, hn, hown, hb⟩
  try simp only [World.size_alloc] at hown
  have hs_6 : w5.heap.size ≤ w6.heap.size := by have := hb.size; (try simp only [World.size_alloc] at this); omega
  have M6 := Lib.hid hn
  have NC6 := Lib.hid hown.ncap
  have S_6 := Lib.hid ((S_5.out.step hb).alloc (.cells #[.slice B6 m6 d6] 30))
  clear S_5
  have Bl_6 := Lib.hid ((Bl_5.out.step hb).alloc (.cells #[.slice B6 m6 d6] 30))
  clear Bl_5
  have BX0_6 := Lib.hid ((BX0_5.out.step hb).alloc (.cells #[.slice B6 m6 d6] 30))
  clear BX0_5
  have V_6 := Lib.hid ((V_5.out.step hb).alloc (.cells #[.slice B6 m6 d6] 30))
  clear V_5
  have X0_6 := Lib.hid ((graph_start hown).alloc (.cells #[.slice B6 m6 d6] 30))
  have XB0_6 := Lib.hid (box_new w6 (.slice B6 m6 d6) 30)
  clear q hn hown hb
  go_wp2_with fail
  refine (laws_toIntS A1 n1 c1 xs1 _ w.heap.size Bl_6.out.le HN1.out S_6.out.it.2 (by omega)).mono ?_
  rintro e w7 ⟨rfl, hown, hb⟩
  try simp only [World.size_alloc] at hown
  have hs_7 : w6.heap.size + 1 ≤ w7.heap.size := by have := hb.size; (try simp only [World.size_alloc] at this); omega
  have S_7 := Lib.hid (S_6.out.step hb)
  clear S_6
  have Bl_7 := Lib.hid (Bl_6.out.step hb)
  clear Bl_6
  have BX0_7 := Lib.hid (BX0_6.out.step hb)
  clear BX0_6
  have V_7 := Lib.hid (V_6.out.step hb)
  clear V_6
  have X0_7 := Lib.hid (X0_6.out.step hb)
  clear X0_6
  have XB0_7 := Lib.hid (XB0_6.out.step hb)
  clear XB0_6
  have X1_7 := Lib.hid (row_start hown)
  clear hown hb
  have q0 := XB0_7.out.it
  go_wp2_with fail
  refine (HIM.out B6 m6 d6 _ n1 _ _ M6.out NC6.out X0_7.out.graph HN1.out (Nat.le_refl _) X1_7.out.ints).mono ?_
  rintro e w8 ⟨v8, rfl, hown0, hb⟩
  have hown := hown0
  unfold OwnI at hown
  rw [← HL0.out] at hown
  obtain ⟨B8, d8, rfl⟩ := own_form hown
  try simp only [World.size_alloc] at hown
  have hs_8 : w7.heap.size ≤ w8.heap.size := by have := hb.size; (try simp only [World.size_alloc] at this); omega
  have S_8 := Lib.hid (S_7.out.step hb)
  clear S_7
  have Bl_8 := Lib.hid (Bl_7.out.step hb)
  clear Bl_7
  have BX0_8 := Lib.hid (BX0_7.out.step hb)
  clear BX0_7
  have V_8 := Lib.hid (V_7.out.step hb)
  clear V_7
  have X0_8 := Lib.hid (X0_7.out.step hb)
  clear X0_7
  have XB0_8 := Lib.hid (XB0_7.out.step hb)
  clear XB0_7
  have X1_8 := Lib.hid (X1_7.out.step hb)
  clear X1_7
  have G_8 := Lib.hid (row_start hown)
  clear hown hown0
  clear hb
  clear q0
  go_wp2_with fail
  refine (laws_eqIntS _ _ r0 r0 _ _ F0 F0 _ w8.heap.size (Nat.le_refl _) HL0.out HL0.out G_8.out.ints V_8.out.ints (by omega) (by omega)).mono ?_
  rintro e w9 ⟨rfl, hb⟩
  have S_9 := Lib.hid (S_8.out.step hb)
  clear S_8
  have Bl_9 := Lib.hid (Bl_8.out.step hb)
  clear Bl_8
  have BX0_9 := Lib.hid (BX0_8.out.step hb)
  clear BX0_8
  have V_9 := Lib.hid (V_8.out.step hb)
  clear V_8
  have X0_9 := Lib.hid (X0_8.out.step hb)
  clear X0_8
  have XB0_9 := Lib.hid (XB0_8.out.step hb)
  clear XB0_8
  have X1_9 := Lib.hid (X1_8.out.step hb)
  clear X1_8
  have G_9 := Lib.hid (G_8.out.step hb)
  clear G_8
  clear hb
  have q := XB0_9.out.it
  have r := BX0_9.out.it
  have hle := Bl_9.out.le
  go_wp2
  go_region_with (first
    | (go_at_call 10; refine (laws_toGraph A0 n0 c0 gs0 _ w.heap.size ?_ HN0.out ?_ HG0.out).mono ?_; (exact hle); exact S_9.out.it.1; rintro e w10 ⟨B10, m10, d10, rfl, hn, hown, hb'⟩; have hb : Below w9.heap.size w9 w10 := below_of_drew hb'; have M10 := Lib.hid hn; have C10 := Lib.hid (hown.nodes); have S_10 := Lib.hid (S_9.out.step hb); have Bl_10 := Lib.hid (Bl_9.out.step hb); have BX0_10 := Lib.hid (BX0_9.out.step hb); have V_10 := Lib.hid (V_9.out.step hb); have X0_10 := Lib.hid (X0_9.out.step hb); have XB0_10 := Lib.hid (XB0_9.out.step hb); have X1_10 := Lib.hid (X1_9.out.step hb); have G_10 := Lib.hid (G_9.out.step hb); have q2 := XB0_10.out.it; have r2 := BX0_10.out.it; clear hn hown hb' hb)
    | (go_at_call 13; refine (laws_eqGraph B6 B10 m6 m10 d6 d10 gs0 gs0 _ w10.heap.size (Nat.le_refl _) M6.out M10.out X0_10.out.graph C10.out HG0.out HG0.out).mono ?_; rintro e w11 ⟨rfl, hb⟩; have S_11 := Lib.hid (S_10.out.step hb); have Bl_11 := Lib.hid (Bl_10.out.step hb); have BX0_11 := Lib.hid (BX0_10.out.step hb); have V_11 := Lib.hid (V_10.out.step hb); have X0_11 := Lib.hid (X0_10.out.step hb); have XB0_11 := Lib.hid (XB0_10.out.step hb); have X1_11 := Lib.hid (X1_10.out.step hb); have G_11 := Lib.hid (G_10.out.step hb)))
  all_goals
    clear hb q r q2 r2 hle M10 C10 S_10 Bl_10 BX0_10 V_10 X0_10 XB0_10 X1_10 G_10 S_9 Bl_9 BX0_9 V_9 X0_9 XB0_9 X1_9 G_9
    go_wp2_with fail
    refine (laws_toIntS A1 n1 c1 xs1 _ w.heap.size Bl_11.out.le HN1.out S_11.out.it.2 (by omega)).mono ?_
    rintro e w12 ⟨rfl, hown, hb⟩
    have Z := Lib.hid (IS.of_own hown)
    have S_12 := Lib.hid (S_11.out.step hb)
    clear S_11
    have Bl_12 := Lib.hid (Bl_11.out.step hb)
    clear Bl_11
    have BX0_12 := Lib.hid (BX0_11.out.step hb)
    clear BX0_11
    have V_12 := Lib.hid (V_11.out.step hb)
    clear V_11
    have X0_12 := Lib.hid (X0_11.out.step hb)
    clear X0_11
    have XB0_12 := Lib.hid (XB0_11.out.step hb)
    clear XB0_11
    have X1_12 := Lib.hid (X1_11.out.step hb)
    clear X1_11
    have G_12 := Lib.hid (G_11.out.step hb)
    clear G_11
    clear hown hb
    go_wp2_with fail
    refine (laws_eqIntS _ _ n1 n1 _ _ xs1 xs1 _ w12.heap.size (Nat.le_refl _) HN1.out HN1.out X1_12.out.ints Z.out (by omega) (by omega)).mono ?_
    rintro e w13 ⟨rfl, hb⟩
    have S_13 := Lib.hid (S_12.out.step hb)
    clear S_12
    have Bl_13 := Lib.hid (Bl_12.out.step hb)
    clear Bl_12
    have BX0_13 := Lib.hid (BX0_12.out.step hb)
    clear BX0_12
    have V_13 := Lib.hid (V_12.out.step hb)
    clear V_12
    have X0_13 := Lib.hid (X0_12.out.step hb)
    clear X0_12
    have XB0_13 := Lib.hid (XB0_12.out.step hb)
    clear XB0_12
    have X1_13 := Lib.hid (X1_12.out.step hb)
    clear X1_12
    have G_13 := Lib.hid (G_12.out.step hb)
    clear G_12
    clear hb Z
    have q := XB0_13.out.it
    go_wp2_with fail
    refine (markw_graph _ _ _ _ _ gs0 1 _ X0_13.out HG0.out (by omega) (by omega)).mono ?_
    rintro e w14 ⟨k0, rfl, hk0a, hk0b, ht⟩
    have S_14 := Lib.hid (S_13.out.turn ht (by omega))
    clear S_13
    have Bl_14 := Lib.hid (Bl_13.out.turn ht (by omega))
    clear Bl_13
    have BX0_14 := Lib.hid (BX0_13.out.turn ht (by omega))
    clear BX0_13
    have V_14 := Lib.hid (V_13.out.turn ht (by omega))
    clear V_13
    clear X0_13
    have XB0_14 := Lib.hid (XB0_13.out.turn ht (by omega))
    clear XB0_13
    have X1_14 := Lib.hid (X1_13.out.turn ht (by omega))
    clear X1_13
    have G_14 := Lib.hid (G_13.out.turn ht (by omega))
    clear G_13
    clear ht q
    go_wp2_with fail
    refine (markw_ints _ _ _ _ _ k0 _ X1_14.out (by omega) (by omega) (by first | omega | (have := HN1.out; have := HN1.out; omega))).mono ?_
    rintro e w15 ⟨k1, rfl, hk1a, hk1b, ht⟩
    have S_15 := Lib.hid (S_14.out.turn ht (by omega))
    clear S_14
    have Bl_15 := Lib.hid (Bl_14.out.turn ht (by omega))
    clear Bl_14
    have BX0_15 := Lib.hid (BX0_14.out.turn ht (by omega))
    clear BX0_14
    have V_15 := Lib.hid (V_14.out.turn ht (by omega))
    clear V_14
    have XB0_15 := Lib.hid (XB0_14.out.turn ht (by omega))
    clear XB0_14
    clear X1_14
    have G_15 := Lib.hid (G_14.out.turn ht (by omega))
    clear G_14
    clear ht
    go_wp2_with fail
    refine (laws_eqIntS _ _ r0 r0 _ _ F0 F0 _ w15.heap.size (Nat.le_refl _) HL0.out HL0.out G_15.out.ints V_15.out.ints (by omega) (by omega)).mono ?_
    rintro e w16 ⟨rfl, hb⟩
    have S_16 := Lib.hid (S_15.out.step hb)
    clear S_15
    have Bl_16 := Lib.hid (Bl_15.out.step hb)
    clear Bl_15
    have BX0_16 := Lib.hid (BX0_15.out.step hb)
    clear BX0_15
    have V_16 := Lib.hid (V_15.out.step hb)
    clear V_15
    have XB0_16 := Lib.hid (XB0_15.out.step hb)
    clear XB0_15
    have G_16 := Lib.hid (G_15.out.step hb)
    clear G_15
    clear hb
    go_wp2_with fail
    refine (mark_ints _ _ r0 _ _ 1 _ G_16.out (by omega) (by omega) (by omega)).mono ?_
    rintro e w17 ⟨he, hg, ht⟩
    subst he
    have S_17 := Lib.hid (S_16.out.turn ht (by omega))
    clear S_16
    have Bl_17 := Lib.hid (Bl_16.out.turn ht (by omega))
    clear Bl_16
    have BX0_17 := Lib.hid (BX0_16.out.turn ht (by omega))
    clear BX0_16
    have V_17 := Lib.hid (V_16.out.turn ht (by omega))
    clear V_16
    have XB0_17 := Lib.hid (XB0_16.out.turn ht (by omega))
    clear XB0_16
    have G_17 := Lib.hid hg
    clear G_16
    clear ht hg
    go_wp2_with fail
    refine (held_ints _ _ r0 _ 1 _ G_17.out (by omega) (by omega) (by omega)).mono ?_
    rintro e w18 ⟨he, hb⟩
    subst he
    have S_18 := Lib.hid (S_17.out.step hb)
    clear S_17
    have Bl_18 := Lib.hid (Bl_17.out.step hb)
    clear Bl_17
    have BX0_18 := Lib.hid (BX0_17.out.step hb)
    clear BX0_17
    have V_18 := Lib.hid (V_17.out.step hb)
    clear V_17
    have XB0_18 := Lib.hid (XB0_17.out.step hb)
    clear XB0_17
    have G_18 := Lib.hid (G_17.out.step hb)
    clear G_17
    clear hb
    have hnn : ((1 : Int) + (r0 : Int) != 1 + (r0 : Int)) = false := by simp
    have q := BX0_18.out.it
    go_wp2_with fail
    refine (laws_toGraph A0 n0 c0 gs0 _ w.heap.size Bl_18.out.le HN0.out S_18.out.it.1 HG0.out).mono ?_
    rintro e w19 ⟨B19, m19, d19, rfl, hn, hown, hb⟩
    have M19 := Lib.hid hn
    have NC19 := Lib.hid hown.ncap
    have S_19 := Lib.hid (S_18.out.step hb)
    clear S_18
    have Bl_19 := Lib.hid (Bl_18.out.step hb)
    clear Bl_18
    have BX0_19 := Lib.hid (BX0_18.out.step hb)
    clear BX0_18
    have V_19 := Lib.hid (V_18.out.step hb)
    clear V_18
    have XB0_19 := Lib.hid (XB0_18.out.step hb)
    clear XB0_18
    have G_19 := Lib.hid (G_18.out.step hb)
    clear G_18
    have Y0_19 := Lib.hid (graph_start hown)
    clear q hn hown hb
    go_wp2_with fail
    refine (laws_toIntS A1 n1 c1 xs1 _ w.heap.size Bl_19.out.le HN1.out S_19.out.it.2 (by omega)).mono ?_
    rintro e w20 ⟨rfl, hown, hb⟩
    have S_20 := Lib.hid (S_19.out.step hb)
    clear S_19
    have Bl_20 := Lib.hid (Bl_19.out.step hb)
    clear Bl_19
    have BX0_20 := Lib.hid (BX0_19.out.step hb)
    clear BX0_19
    have V_20 := Lib.hid (V_19.out.step hb)
    clear V_19
    have XB0_20 := Lib.hid (XB0_19.out.step hb)
    clear XB0_19
    have G_20 := Lib.hid (G_19.out.step hb)
    clear G_19
    have Y0_20 := Lib.hid (Y0_19.out.step hb)
    clear Y0_19
    have Y1_20 := Lib.hid (row_start hown)
    clear hown hb
    go_wp2_with fail
    refine (HIM.out B19 m19 d19 _ n1 _ _ M19.out NC19.out Y0_20.out.graph HN1.out (Nat.le_refl _) Y1_20.out.ints).mono ?_
    rintro e w21 ⟨v21, rfl, hown0, hb⟩
    clear Y0_20
    clear Y1_20
    have hown := hown0
    unfold OwnI at hown
    rw [← HL0.out] at hown
    obtain ⟨B21, d21, rfl⟩ := own_form hown
    have Z := Lib.hid (IS.of_own hown)
    have S_21 := Lib.hid (S_20.out.step hb)
    clear S_20
    have Bl_21 := Lib.hid (Bl_20.out.step hb)
    clear Bl_20
    have BX0_21 := Lib.hid (BX0_20.out.step hb)
    clear BX0_20
    have V_21 := Lib.hid (V_20.out.step hb)
    clear V_20
    have XB0_21 := Lib.hid (XB0_20.out.step hb)
    clear XB0_20
    have G_21 := Lib.hid (G_20.out.step hb)
    clear G_20
    clear hown hown0 hb
    go_wp2_with fail
    refine (laws_eqIntS _ _ r0 r0 _ _ F0 F0 _ w21.heap.size (Nat.le_refl _) HL0.out HL0.out Z.out V_21.out.ints (by omega) (by omega)).mono ?_
    rintro e w22 ⟨rfl, hb⟩
    have S_22 := Lib.hid (S_21.out.step hb)
    clear S_21
    have Bl_22 := Lib.hid (Bl_21.out.step hb)
    clear Bl_21
    have BX0_22 := Lib.hid (BX0_21.out.step hb)
    clear BX0_21
    have V_22 := Lib.hid (V_21.out.step hb)
    clear V_21
    have XB0_22 := Lib.hid (XB0_21.out.step hb)
    clear XB0_21
    have G_22 := Lib.hid (G_21.out.step hb)
    clear G_21
    clear hb Z
    go_wp2_with fail
    refine (held_ints _ _ r0 _ 1 _ G_22.out (by omega) (by omega) (by omega)).mono ?_
    rintro e w23 ⟨he, hb⟩
    subst he
    have S_23 := Lib.hid (S_22.out.step hb)
    clear S_22
    have Bl_23 := Lib.hid (Bl_22.out.step hb)
    clear Bl_22
    have BX0_23 := Lib.hid (BX0_22.out.step hb)
    clear BX0_22
    have V_23 := Lib.hid (V_22.out.step hb)
    clear V_22
    have XB0_23 := Lib.hid (XB0_22.out.step hb)
    clear XB0_22
    have G_23 := Lib.hid (G_22.out.step hb)
    clear G_22
    clear hb
    go_wp2
    go_ret
    exact ⟨rfl, Bl_23.out⟩
end Go.Proofs.Ytcfiondggnbnoaa
