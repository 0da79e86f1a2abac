/- laws.FnExactBatchAll returns true for all arguments, and writes nothing that was there. (Made by genlaw.py.) -/
import Derived.Test.YtkmhpiojbocjkaaG7
import Derived.Deep.RegionWith
import Derived.Test.YtkmhpiojbocjkaaC1
import Derived.Test.YtkmhpiojbocjkaaT32
namespace Go.Proofs.Ytkmhpiojbocjkaa
set_option linter.unusedSimpArgs false
set_option linter.unusedVariables false
open Go.RowKit

set_option maxRecDepth 100000 in
set_option maxHeartbeats 3200000 in
theorem law_BatchAll (A0 : Option Addr) (n0 c0 : Nat) (gs0 : List Nd) (A1 : Option Addr) (n1 c1 : Nat) (ac1 : List Ac) (w : World) (hn0 : n0 = gs0.length) (h0 : GS w w.heap.size A0 gs0) (hm0 : n0 ≤ 9223372036854775807) (hp0 : ∀ j, (gs0.getD j default).ps.length ≤ 9223372036854775807) (hn1 : n1 = ac1.length) (h1 : CS w w.heap.size A1 ac1) (hm1 : n1 ≤ 9223372036854775807) :
    Calls Try.prog 5 #[.agg #[.slice A0 n0 c0], .slice A1 n1 c1] w fun e w' => e = .returned (.bool true) ∧ Below w.heap.size w w' := by
  obtain ⟨l0, hl0⟩ : ∃ l0 : Int, l0 = 1048576 := ⟨_, rfl⟩
  have HC0 := Lib.hid fun (w' : World) (hB : w.heap.size ≤ w'.heap.size) (h : GS w' w.heap.size A0 gs0) => laws_szGraph A0 n0 c0 gs0 l0 w' w.heap.size hB hn0 h (by omega) (by omega) hm0 hp0
  by_cases hz0 : ((gsz gs0 : Nat) : Int) ≤ l0
  case neg =>
    rw [leftOf_no hz0] at HC0
    subst hl0
    have S_0 : Hid (As 0 w.heap.size (fun wk => GS wk w.heap.size A0 gs0 ∧ CS wk w.heap.size A1 ac1) w) := ⟨⟨h0, h1⟩, Nat.le_refl _, ((GS.loc _ _ _).and (CS.loc _ _ _))⟩
    have Bl_0 : Hid (Bl w w) := Bl.refl w
    have S_1 := Lib.hid (S_0.out.alloc (.cells #[.slice A0 n0 c0] 24))
    clear S_0
    have Bl_1 := Lib.hid (Bl_0.out.alloc (.cells #[.slice A0 n0 c0] 24))
    clear Bl_0
    have bx := box_new w (.slice A0 n0 c0) 24
    have BX0_1 := Lib.hid bx
    clear bx
    clear hn0 h0 hp0 hn1 h1 hz0
    go_enter Try.func5, Try.ntmps5
    have q := BX0_1.out.it
    go_wp2_with fail
    refine (HC0.out _ Bl_1.out.le S_1.out.it.1).mono ?_
    rintro e w2 ⟨rfl, hb⟩
    have S_2 := Lib.hid (S_1.out.step hb)
    clear S_1
    have Bl_2 := Lib.hid (Bl_1.out.step hb)
    clear Bl_1
    have BX0_2 := Lib.hid (BX0_1.out.step hb)
    clear BX0_1
    clear q hb
    go_wp2
    go_ret
    exact ⟨rfl, Bl_2.out⟩
  rw [leftOf_ok hz0] at HC0
  obtain ⟨l1, hl1⟩ : ∃ l1 : Int, l1 = l0 - ((gsz gs0 : Nat) : Int) := ⟨_, rfl⟩
  rw [← hl1] at HC0
  have hge1 : 0 ≤ l1 := by omega
  have hle1 : l1 ≤ 1048576 := by omega
  have HC1 := Lib.hid fun (w' : World) (hB : w.heap.size ≤ w'.heap.size) (h : CS w' w.heap.size A1 ac1) => sz_acts A1 n1 c1 ac1 l1 w' hn1 (by omega) (by omega) hm1
  by_cases hz1 : ((ac1.length : Nat) : Int) ≤ l1
  case neg =>
    rw [leftOf_no hz1] at HC1
    subst hl0
    have S_0 : Hid (As 0 w.heap.size (fun wk => GS wk w.heap.size A0 gs0 ∧ CS wk w.heap.size A1 ac1) w) := ⟨⟨h0, h1⟩, Nat.le_refl _, ((GS.loc _ _ _).and (CS.loc _ _ _))⟩
    have Bl_0 : Hid (Bl w w) := Bl.refl w
    have S_1 := Lib.hid (S_0.out.alloc (.cells #[.slice A0 n0 c0] 24))
    clear S_0
    have Bl_1 := Lib.hid (Bl_0.out.alloc (.cells #[.slice A0 n0 c0] 24))
    clear Bl_0
    have bx := box_new w (.slice A0 n0 c0) 24
    have BX0_1 := Lib.hid bx
    clear bx
    clear hn0 h0 hp0 hn1 h1 hz1 hl1 hz0
    go_enter Try.func5, Try.ntmps5
    have q := BX0_1.out.it
    go_wp2_with fail
    refine (HC0.out _ Bl_1.out.le S_1.out.it.1).mono ?_
    rintro e w2 ⟨rfl, hb⟩
    have S_2 := Lib.hid (S_1.out.step hb)
    clear S_1
    have Bl_2 := Lib.hid (Bl_1.out.step hb)
    clear Bl_1
    have BX0_2 := Lib.hid (BX0_1.out.step hb)
    clear BX0_1
    clear q hb
    go_wp2_with fail
    refine (HC1.out _ Bl_2.out.le S_2.out.it.2).mono ?_
    rintro e w3 ⟨rfl, hb⟩
    have S_3 := Lib.hid (S_2.out.step hb)
    clear S_2
    have Bl_3 := Lib.hid (Bl_2.out.step hb)
    clear Bl_2
    have BX0_3 := Lib.hid (BX0_2.out.step hb)
    clear BX0_2
    clear  hb
    go_wp2
    go_ret
    exact ⟨rfl, Bl_3.out⟩
  rw [leftOf_ok hz1] at HC1
  obtain ⟨l2, hl2⟩ : ∃ l2 : Int, l2 = l1 - ((ac1.length : Nat) : Int) := ⟨_, rfl⟩
  rw [← hl2] at HC1
  have hge2 : 0 ≤ l2 := by omega
  have hle2 : l2 ≤ 1048576 := by omega
  have hG0 : GB gs0 := GB.of_gsz (by omega)
  have HSP := Lib.hid (top_spec_BatchAll gs0 ac1 hG0 (by omega))
  have HIM := Lib.hid (top_impl_BatchAll gs0 ac1 hG0 (by omega))
  have hlen0 := batchF_len gs0 ac1
  generalize batchF gs0 ac1 = F0 at *
  obtain ⟨r0, hr0⟩ : ∃ r0 : Nat, r0 = F0.length := ⟨_, rfl⟩
  have hrb0 : r0 ≤ 2000000 := by omega
  have HL0 := Lib.hid hr0
  clear hr0 hlen0
  have ht0 : decide (F0 = F0) = true := by simp
  have HN0 := Lib.hid hn0
  have HG0 := Lib.hid hG0
  have hx0 : decide (gs0 = gs0) = true := by simp
  have hnb0 : n0 ≤ 1048576 := by rw [hn0]; exact hG0.1
  have HN1 := Lib.hid hn1
  have hx1 : decide (ac1 = ac1) = true := by simp
  have hnb1 : n1 ≤ 1048576 := by omega
  have S_0 : Hid (As 0 w.heap.size (fun wk => GS wk w.heap.size A0 gs0 ∧ CS wk w.heap.size A1 ac1) w) := ⟨⟨h0, h1⟩, Nat.le_refl _, ((GS.loc _ _ _).and (CS.loc _ _ _))⟩
  have Bl_0 : Hid (Bl w w) := Bl.refl w
  have S_1 := Lib.hid (S_0.out.alloc (.cells #[.slice A0 n0 c0] 24))
  clear S_0
  have Bl_1 := Lib.hid (Bl_0.out.alloc (.cells #[.slice A0 n0 c0] 24))
  clear Bl_0
  have bx := box_new w (.slice A0 n0 c0) 24
  have BX0_1 := Lib.hid bx
  clear bx
  have HLS := Lib.hid hl0
  subst hl0
  clear HLS hn0 h0 hp0 hn1 h1 hl1 hl2 hz0 hz1 hG0
  go_enter Try.func5, Try.ntmps5
  have q := BX0_1.out.it
  go_wp2_with fail
  refine (HC0.out _ Bl_1.out.le S_1.out.it.1).mono ?_
  rintro e w2 ⟨rfl, hb⟩
  have hs_2 : w.heap.size + 1 ≤ w2.heap.size := by have := hb.size; (try simp only [World.size_alloc] at this); omega
  have S_2 := Lib.hid (S_1.out.step hb)
  clear S_1
  have Bl_2 := Lib.hid (Bl_1.out.step hb)
  clear Bl_1
  have BX0_2 := Lib.hid (BX0_1.out.step hb)
  clear BX0_1
  clear q hb
  go_wp2_with fail
  refine (HC1.out _ Bl_2.out.le S_2.out.it.2).mono ?_
  rintro e w3 ⟨rfl, hb⟩
  have hs_3 : w2.heap.size ≤ w3.heap.size := by have := hb.size; (try simp only [World.size_alloc] at this); omega
  have S_3 := Lib.hid (S_2.out.step hb)
  clear S_2
  have Bl_3 := Lib.hid (Bl_2.out.step hb)
  clear Bl_2
  have BX0_3 := Lib.hid (BX0_2.out.step hb)
  clear BX0_2
  clear  hb
  have q := BX0_3.out.it
  go_wp2_with fail
  refine (laws_toGraph A0 n0 c0 gs0 _ w.heap.size Bl_3.out.le HN0.out S_3.out.it.1 HG0.out).mono ?_
  rintro e w4 ⟨B4, m4, d4, rfl, hn, hown, hb⟩
  try simp only [World.size_alloc] at hown
  have hs_4 : w3.heap.size ≤ w4.heap.size := by have := hb.size; (try simp only [World.size_alloc] at this); omega
  have M4 := Lib.hid hn
  have NC4 := Lib.hid hown.ncap
  have S_4 := Lib.hid (S_3.out.step hb)
  clear S_3
  have Bl_4 := Lib.hid (Bl_3.out.step hb)
  clear Bl_3
  have BX0_4 := Lib.hid (BX0_3.out.step hb)
  clear BX0_3
  have X0_4 := Lib.hid (graph_start hown)
  clear q hn hown hb
  go_wp2_with fail
  refine (laws_toActS A1 n1 c1 ac1 _ w.heap.size Bl_4.out.le HN1.out S_4.out.it.2 (by omega)).mono ?_
  rintro e w5 ⟨rfl, hown, hb⟩
  try simp only [World.size_alloc] at hown
  have hs_5 : w4.heap.size ≤ w5.heap.size := by have := hb.size; (try simp only [World.size_alloc] at this); omega
  have S_5 := Lib.hid (S_4.out.step hb)
  clear S_4
  have Bl_5 := Lib.hid (Bl_4.out.step hb)
  clear Bl_4
  have BX0_5 := Lib.hid (BX0_4.out.step hb)
  clear BX0_4
  have X0_5 := Lib.hid (X0_4.out.step hb)
  clear X0_4
  have X1_5 := Lib.hid (row_start hown)
  clear hown hb
  go_wp2_with fail
  refine (HSP.out B4 m4 d4 (some ⟨w4.heap.size, 0, none⟩) n1 n1 _ M4.out NC4.out X0_5.out.graph HN1.out X1_5.out.acts).mono ?_
  rintro e w6 ⟨v6, rfl, hown0, hb⟩
  clear X0_5
  clear X1_5
  have hown := hown0
  unfold OwnA at hown
  rw [← HL0.out] at hown
  obtain ⟨B6, d6, rfl⟩ := own_form hown
  try simp only [World.size_alloc] at hown
  have hs_6 : w5.heap.size ≤ w6.heap.size := by have := hb.size; (try simp only [World.size_alloc] at this); omega
  have S_6 := Lib.hid (S_5.out.step hb)
  clear S_5
  have Bl_6 := Lib.hid (Bl_5.out.step hb)
  clear Bl_5
  have BX0_6 := Lib.hid (BX0_5.out.step hb)
  clear BX0_5
  have V_6 := Lib.hid (row_start hown)
  clear hown hown0
  clear hb
  have q := BX0_6.out.it
  go_wp2_with fail
  refine (laws_toGraph A0 n0 c0 gs0 _ w.heap.size Bl_6.out.le HN0.out S_6.out.it.1 HG0.out).mono ?_
  rintro e w7 ⟨B7, m7, d7, rfl, hn, hown, hb⟩
  try simp only [World.size_alloc] at hown
  have hs_7 : w6.heap.size ≤ w7.heap.size := by have := hb.size; (try simp only [World.size_alloc] at this); omega
  have M7 := Lib.hid hn
  have NC7 := Lib.hid hown.ncap
  have S_7 := Lib.hid ((S_6.out.step hb).alloc (.cells #[.slice B7 m7 d7] 31))
  clear S_6
  have Bl_7 := Lib.hid ((Bl_6.out.step hb).alloc (.cells #[.slice B7 m7 d7] 31))
  clear Bl_6
  have BX0_7 := Lib.hid ((BX0_6.out.step hb).alloc (.cells #[.slice B7 m7 d7] 31))
  clear BX0_6
  have V_7 := Lib.hid ((V_6.out.step hb).alloc (.cells #[.slice B7 m7 d7] 31))
  clear V_6
  have X0_7 := Lib.hid ((graph_start hown).alloc (.cells #[.slice B7 m7 d7] 31))
  have XB0_7 := Lib.hid (box_new w7 (.slice B7 m7 d7) 31)
  clear q hn hown hb
  go_wp2_with fail
  refine (laws_toActS A1 n1 c1 ac1 _ w.heap.size Bl_7.out.le HN1.out S_7.out.it.2 (by omega)).mono ?_
  rintro e w8 ⟨rfl, hown, hb⟩
  try simp only [World.size_alloc] at hown
  have hs_8 : w7.heap.size + 1 ≤ w8.heap.size := by have := hb.size; (try simp only [World.size_alloc] at this); omega
  have S_8 := Lib.hid (S_7.out.step hb)
  clear S_7
  have Bl_8 := Lib.hid (Bl_7.out.step hb)
  clear Bl_7
  have BX0_8 := Lib.hid (BX0_7.out.step hb)
  clear BX0_7
  have V_8 := Lib.hid (V_7.out.step hb)
  clear V_7
  have X0_8 := Lib.hid (X0_7.out.step hb)
  clear X0_7
  have XB0_8 := Lib.hid (XB0_7.out.step hb)
  clear XB0_7
  have X1_8 := Lib.hid (row_start hown)
  clear hown hb
  have q0 := XB0_8.out.it
  go_wp2_with fail
  refine (HIM.out B7 m7 d7 (some ⟨w7.heap.size + 1, 0, none⟩) n1 n1 _ M7.out NC7.out X0_8.out.graph HN1.out X1_8.out.acts).mono ?_
  rintro e w9 ⟨v9, rfl, hown0, hb⟩
  have hown := hown0
  unfold OwnA at hown
  rw [← HL0.out] at hown
  obtain ⟨B9, d9, rfl⟩ := own_form hown
  try simp only [World.size_alloc] at hown
  have hs_9 : w8.heap.size ≤ w9.heap.size := by have := hb.size; (try simp only [World.size_alloc] at this); omega
  have S_9 := Lib.hid (S_8.out.step hb)
  clear S_8
  have Bl_9 := Lib.hid (Bl_8.out.step hb)
  clear Bl_8
  have BX0_9 := Lib.hid (BX0_8.out.step hb)
  clear BX0_8
  have V_9 := Lib.hid (V_8.out.step hb)
  clear V_8
  have X0_9 := Lib.hid (X0_8.out.step hb)
  clear X0_8
  have XB0_9 := Lib.hid (XB0_8.out.step hb)
  clear XB0_8
  have X1_9 := Lib.hid (X1_8.out.step hb)
  clear X1_8
  have G_9 := Lib.hid (row_start hown)
  clear hown hown0
  clear hb
  clear q0
  go_wp2_with fail
  refine (laws_eqActS _ _ r0 r0 _ _ F0 F0 _ w9.heap.size (Nat.le_refl _) HL0.out HL0.out G_9.out.acts V_9.out.acts (by omega) (by omega)).mono ?_
  rintro e w10 ⟨rfl, hb⟩
  have S_10 := Lib.hid (S_9.out.step hb)
  clear S_9
  have Bl_10 := Lib.hid (Bl_9.out.step hb)
  clear Bl_9
  have BX0_10 := Lib.hid (BX0_9.out.step hb)
  clear BX0_9
  have V_10 := Lib.hid (V_9.out.step hb)
  clear V_9
  have X0_10 := Lib.hid (X0_9.out.step hb)
  clear X0_9
  have XB0_10 := Lib.hid (XB0_9.out.step hb)
  clear XB0_9
  have X1_10 := Lib.hid (X1_9.out.step hb)
  clear X1_9
  have G_10 := Lib.hid (G_9.out.step hb)
  clear G_9
  clear hb
  have q := XB0_10.out.it
  have r := BX0_10.out.it
  have hle := Bl_10.out.le
  go_wp2
  go_region_with (first
    | (go_at_call 9; refine (laws_toGraph A0 n0 c0 gs0 _ w.heap.size ?_ HN0.out ?_ HG0.out).mono ?_; (exact hle); exact S_10.out.it.1; rintro e w11 ⟨B11, m11, d11, rfl, hn, hown, hb'⟩; have hb : Below w10.heap.size w10 w11 := below_of_drew hb'; have M11 := Lib.hid hn; have C11 := Lib.hid (hown.nodes); have S_11 := Lib.hid (S_10.out.step hb); have Bl_11 := Lib.hid (Bl_10.out.step hb); have BX0_11 := Lib.hid (BX0_10.out.step hb); have V_11 := Lib.hid (V_10.out.step hb); have X0_11 := Lib.hid (X0_10.out.step hb); have XB0_11 := Lib.hid (XB0_10.out.step hb); have X1_11 := Lib.hid (X1_10.out.step hb); have G_11 := Lib.hid (G_10.out.step hb); have q2 := XB0_11.out.it; have r2 := BX0_11.out.it; clear hn hown hb' hb)
    | (go_at_call 12; refine (laws_eqGraph B7 B11 m7 m11 d7 d11 gs0 gs0 _ w11.heap.size (Nat.le_refl _) M7.out M11.out X0_11.out.graph C11.out HG0.out HG0.out).mono ?_; rintro e w12 ⟨rfl, hb⟩; have S_12 := Lib.hid (S_11.out.step hb); have Bl_12 := Lib.hid (Bl_11.out.step hb); have BX0_12 := Lib.hid (BX0_11.out.step hb); have V_12 := Lib.hid (V_11.out.step hb); have X0_12 := Lib.hid (X0_11.out.step hb); have XB0_12 := Lib.hid (XB0_11.out.step hb); have X1_12 := Lib.hid (X1_11.out.step hb); have G_12 := Lib.hid (G_11.out.step hb)))
  all_goals
    clear hb q r q2 r2 hle M11 C11 S_11 Bl_11 BX0_11 V_11 X0_11 XB0_11 X1_11 G_11 S_10 Bl_10 BX0_10 V_10 X0_10 XB0_10 X1_10 G_10
    go_wp2_with fail
    refine (laws_toActS A1 n1 c1 ac1 _ w.heap.size Bl_12.out.le HN1.out S_12.out.it.2 (by omega)).mono ?_
    rintro e w13 ⟨rfl, hown, hb⟩
    have Z := Lib.hid (CS.of_own hown)
    have S_13 := Lib.hid (S_12.out.step hb)
    clear S_12
    have Bl_13 := Lib.hid (Bl_12.out.step hb)
    clear Bl_12
    have BX0_13 := Lib.hid (BX0_12.out.step hb)
    clear BX0_12
    have V_13 := Lib.hid (V_12.out.step hb)
    clear V_12
    have X0_13 := Lib.hid (X0_12.out.step hb)
    clear X0_12
    have XB0_13 := Lib.hid (XB0_12.out.step hb)
    clear XB0_12
    have X1_13 := Lib.hid (X1_12.out.step hb)
    clear X1_12
    have G_13 := Lib.hid (G_12.out.step hb)
    clear G_12
    clear hown hb
    go_wp2_with fail
    refine (laws_eqActS _ _ n1 n1 _ _ ac1 ac1 _ w13.heap.size (Nat.le_refl _) HN1.out HN1.out X1_13.out.acts Z.out (by omega) (by omega)).mono ?_
    rintro e w14 ⟨rfl, hb⟩
    have S_14 := Lib.hid (S_13.out.step hb)
    clear S_13
    have Bl_14 := Lib.hid (Bl_13.out.step hb)
    clear Bl_13
    have BX0_14 := Lib.hid (BX0_13.out.step hb)
    clear BX0_13
    have V_14 := Lib.hid (V_13.out.step hb)
    clear V_13
    have X0_14 := Lib.hid (X0_13.out.step hb)
    clear X0_13
    have XB0_14 := Lib.hid (XB0_13.out.step hb)
    clear XB0_13
    have X1_14 := Lib.hid (X1_13.out.step hb)
    clear X1_13
    have G_14 := Lib.hid (G_13.out.step hb)
    clear G_13
    clear hb Z
    have q := XB0_14.out.it
    go_wp2_with fail
    refine (markw_graph _ _ _ _ _ gs0 1 _ X0_14.out HG0.out (by omega) (by omega)).mono ?_
    rintro e w15 ⟨k0, rfl, hk0a, hk0b, ht⟩
    have S_15 := Lib.hid (S_14.out.turn ht (by omega))
    clear S_14
    have Bl_15 := Lib.hid (Bl_14.out.turn ht (by omega))
    clear Bl_14
    have BX0_15 := Lib.hid (BX0_14.out.turn ht (by omega))
    clear BX0_14
    have V_15 := Lib.hid (V_14.out.turn ht (by omega))
    clear V_14
    clear X0_14
    have XB0_15 := Lib.hid (XB0_14.out.turn ht (by omega))
    clear XB0_14
    have X1_15 := Lib.hid (X1_14.out.turn ht (by omega))
    clear X1_14
    have G_15 := Lib.hid (G_14.out.turn ht (by omega))
    clear G_14
    clear ht q
    go_wp2_with fail
    refine (markw_acts _ _ _ _ _ k0 _ X1_15.out (by omega) (by omega) (by first | omega | (have := HN1.out; have := HN1.out; omega))).mono ?_
    rintro e w16 ⟨k1, rfl, hk1a, hk1b, ht⟩
    have S_16 := Lib.hid (S_15.out.turn ht (by omega))
    clear S_15
    have Bl_16 := Lib.hid (Bl_15.out.turn ht (by omega))
    clear Bl_15
    have BX0_16 := Lib.hid (BX0_15.out.turn ht (by omega))
    clear BX0_15
    have V_16 := Lib.hid (V_15.out.turn ht (by omega))
    clear V_15
    have XB0_16 := Lib.hid (XB0_15.out.turn ht (by omega))
    clear XB0_15
    clear X1_15
    have G_16 := Lib.hid (G_15.out.turn ht (by omega))
    clear G_15
    clear ht
    go_wp2_with fail
    refine (laws_eqActS _ _ r0 r0 _ _ F0 F0 _ w16.heap.size (Nat.le_refl _) HL0.out HL0.out G_16.out.acts V_16.out.acts (by omega) (by omega)).mono ?_
    rintro e w17 ⟨rfl, hb⟩
    have S_17 := Lib.hid (S_16.out.step hb)
    clear S_16
    have Bl_17 := Lib.hid (Bl_16.out.step hb)
    clear Bl_16
    have BX0_17 := Lib.hid (BX0_16.out.step hb)
    clear BX0_16
    have V_17 := Lib.hid (V_16.out.step hb)
    clear V_16
    have XB0_17 := Lib.hid (XB0_16.out.step hb)
    clear XB0_16
    have G_17 := Lib.hid (G_16.out.step hb)
    clear G_16
    clear hb
    go_wp2_with fail
    refine (mark_acts _ _ r0 _ _ 1 _ G_17.out (by omega) (by omega) (by omega)).mono ?_
    rintro e w18 ⟨he, hg, ht⟩
    subst he
    have S_18 := Lib.hid (S_17.out.turn ht (by omega))
    clear S_17
    have Bl_18 := Lib.hid (Bl_17.out.turn ht (by omega))
    clear Bl_17
    have BX0_18 := Lib.hid (BX0_17.out.turn ht (by omega))
    clear BX0_17
    have V_18 := Lib.hid (V_17.out.turn ht (by omega))
    clear V_17
    have XB0_18 := Lib.hid (XB0_17.out.turn ht (by omega))
    clear XB0_17
    have G_18 := Lib.hid hg
    clear G_17
    clear ht hg
    go_wp2_with fail
    refine (held_acts _ _ r0 _ 1 _ G_18.out (by omega) (by omega) (by omega)).mono ?_
    rintro e w19 ⟨he, hb⟩
    subst he
    have S_19 := Lib.hid (S_18.out.step hb)
    clear S_18
    have Bl_19 := Lib.hid (Bl_18.out.step hb)
    clear Bl_18
    have BX0_19 := Lib.hid (BX0_18.out.step hb)
    clear BX0_18
    have V_19 := Lib.hid (V_18.out.step hb)
    clear V_18
    have XB0_19 := Lib.hid (XB0_18.out.step hb)
    clear XB0_18
    have G_19 := Lib.hid (G_18.out.step hb)
    clear G_18
    clear hb
    have hnn : ((1 : Int) + (((r0 * 3 : Nat) : Int) : Int) != 1 + (((r0 * 3 : Nat) : Int) : Int)) = false := by simp
    have q := BX0_19.out.it
    go_wp2_with fail
    refine (laws_toGraph A0 n0 c0 gs0 _ w.heap.size Bl_19.out.le HN0.out S_19.out.it.1 HG0.out).mono ?_
    rintro e w20 ⟨B20, m20, d20, rfl, hn, hown, hb⟩
    have M20 := Lib.hid hn
    have NC20 := Lib.hid hown.ncap
    have S_20 := Lib.hid (S_19.out.step hb)
    clear S_19
    have Bl_20 := Lib.hid (Bl_19.out.step hb)
    clear Bl_19
    have BX0_20 := Lib.hid (BX0_19.out.step hb)
    clear BX0_19
    have V_20 := Lib.hid (V_19.out.step hb)
    clear V_19
    have XB0_20 := Lib.hid (XB0_19.out.step hb)
    clear XB0_19
    have G_20 := Lib.hid (G_19.out.step hb)
    clear G_19
    have Y0_20 := Lib.hid (graph_start hown)
    clear q hn hown hb
    go_wp2_with fail
    refine (laws_toActS A1 n1 c1 ac1 _ w.heap.size Bl_20.out.le HN1.out S_20.out.it.2 (by omega)).mono ?_
    rintro e w21 ⟨rfl, hown, hb⟩
    have S_21 := Lib.hid (S_20.out.step hb)
    clear S_20
    have Bl_21 := Lib.hid (Bl_20.out.step hb)
    clear Bl_20
    have BX0_21 := Lib.hid (BX0_20.out.step hb)
    clear BX0_20
    have V_21 := Lib.hid (V_20.out.step hb)
    clear V_20
    have XB0_21 := Lib.hid (XB0_20.out.step hb)
    clear XB0_20
    have G_21 := Lib.hid (G_20.out.step hb)
    clear G_20
    have Y0_21 := Lib.hid (Y0_20.out.step hb)
    clear Y0_20
    have Y1_21 := Lib.hid (row_start hown)
    clear hown hb
    go_wp2_with fail
    refine (HIM.out B20 m20 d20 _ n1 n1 _ M20.out NC20.out Y0_21.out.graph HN1.out Y1_21.out.acts).mono ?_
    rintro e w22 ⟨v22, rfl, hown0, hb⟩
    clear Y0_21
    clear Y1_21
    have hown := hown0
    unfold OwnA at hown
    rw [← HL0.out] at hown
    obtain ⟨B22, d22, rfl⟩ := own_form hown
    have Z := Lib.hid (CS.of_own hown)
    have S_22 := Lib.hid (S_21.out.step hb)
    clear S_21
    have Bl_22 := Lib.hid (Bl_21.out.step hb)
    clear Bl_21
    have BX0_22 := Lib.hid (BX0_21.out.step hb)
    clear BX0_21
    have V_22 := Lib.hid (V_21.out.step hb)
    clear V_21
    have XB0_22 := Lib.hid (XB0_21.out.step hb)
    clear XB0_21
    have G_22 := Lib.hid (G_21.out.step hb)
    clear G_21
    clear hown hown0 hb
    go_wp2_with fail
    refine (laws_eqActS _ _ r0 r0 _ _ F0 F0 _ w22.heap.size (Nat.le_refl _) HL0.out HL0.out Z.out V_22.out.acts (by omega) (by omega)).mono ?_
    rintro e w23 ⟨rfl, hb⟩
    have S_23 := Lib.hid (S_22.out.step hb)
    clear S_22
    have Bl_23 := Lib.hid (Bl_22.out.step hb)
    clear Bl_22
    have BX0_23 := Lib.hid (BX0_22.out.step hb)
    clear BX0_22
    have V_23 := Lib.hid (V_22.out.step hb)
    clear V_22
    have XB0_23 := Lib.hid (XB0_22.out.step hb)
    clear XB0_22
    have G_23 := Lib.hid (G_22.out.step hb)
    clear G_22
    clear hb Z
    go_wp2_with fail
    refine (held_acts _ _ r0 _ 1 _ G_23.out (by omega) (by omega) (by omega)).mono ?_
    rintro e w24 ⟨he, hb⟩
    subst he
    have S_24 := Lib.hid (S_23.out.step hb)
    clear S_23
    have Bl_24 := Lib.hid (Bl_23.out.step hb)
    clear Bl_23
    have BX0_24 := Lib.hid (BX0_23.out.step hb)
    clear BX0_23
    have V_24 := Lib.hid (V_23.out.step hb)
    clear V_23
    have XB0_24 := Lib.hid (XB0_23.out.step hb)
    clear XB0_23
    have G_24 := Lib.hid (G_23.out.step hb)
    clear G_23
    clear hb
    go_wp2
    go_ret
    exact ⟨rfl, Bl_24.out⟩
end Go.Proofs.Ytkmhpiojbocjkaa
