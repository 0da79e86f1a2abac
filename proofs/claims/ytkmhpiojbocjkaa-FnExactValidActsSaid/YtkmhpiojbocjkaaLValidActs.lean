/- laws.FnExactValidActs returns true for all arguments, and writes nothing that was there. (Made by genlaw.py.) -/
import Derived.Test.YtkmhpiojbocjkaaG7
import Derived.Deep.RegionWith
import Derived.Test.YtkmhpiojbocjkaaC1
import Derived.Test.YtkmhpiojbocjkaaT32
namespace Go.Proofs.Ytkmhpiojbocjkaa
set_option linter.unusedSimpArgs false
set_option linter.unusedVariables false
open Go.RowKit

set_option maxRecDepth 100000 in
set_option maxHeartbeats 3200000 in
theorem law_ValidActs (A0 : Option Addr) (n0 c0 : Nat) (gs0 : List Nd) (A1 : Option Addr) (n1 c1 : Nat) (ac1 : List Ac) (w : World) (hn0 : n0 = gs0.length) (h0 : GS w w.heap.size A0 gs0) (hm0 : n0 ≤ 9223372036854775807) (hp0 : ∀ j, (gs0.getD j default).ps.length ≤ 9223372036854775807) (hn1 : n1 = ac1.length) (h1 : CS w w.heap.size A1 ac1) (hm1 : n1 ≤ 9223372036854775807) :
    Calls Try.prog 3 #[.agg #[.slice A0 n0 c0], .slice A1 n1 c1] w fun e w' => e = .returned (.bool true) ∧ Below w.heap.size w w' := by
  obtain ⟨l0, hl0⟩ : ∃ l0 : Int, l0 = 1048576 := ⟨_, rfl⟩
  have HC0 := Lib.hid fun (w' : World) (hB : w.heap.size ≤ w'.heap.size) (h : GS w' w.heap.size A0 gs0) => laws_szGraph A0 n0 c0 gs0 l0 w' w.heap.size hB hn0 h (by omega) (by omega) hm0 hp0
  by_cases hz0 : ((gsz gs0 : Nat) : Int) ≤ l0
  case neg =>
    rw [leftOf_no hz0] at HC0
    subst hl0
    have S_0 : Hid (As 0 w.heap.size (fun wk => GS wk w.heap.size A0 gs0 ∧ CS wk w.heap.size A1 ac1) w) := ⟨⟨h0, h1⟩, Nat.le_refl _, ((GS.loc _ _ _).and (CS.loc _ _ _))⟩
    have Bl_0 : Hid (Bl w w) := Bl.refl w
    have S_1 := Lib.hid (S_0.out.alloc (.cells #[.slice A0 n0 c0] 24))
    clear S_0
    have Bl_1 := Lib.hid (Bl_0.out.alloc (.cells #[.slice A0 n0 c0] 24))
    clear Bl_0
    have bx := box_new w (.slice A0 n0 c0) 24
    have BX0_1 := Lib.hid bx
    clear bx
    clear hn0 h0 hp0 hn1 h1 hz0
    go_enter Try.func3, Try.ntmps3
    have q := BX0_1.out.it
    go_wp2_with fail
    refine (HC0.out _ Bl_1.out.le S_1.out.it.1).mono ?_
    rintro e w2 ⟨rfl, hb⟩
    have S_2 := Lib.hid (S_1.out.step hb)
    clear S_1
    have Bl_2 := Lib.hid (Bl_1.out.step hb)
    clear Bl_1
    have BX0_2 := Lib.hid (BX0_1.out.step hb)
    clear BX0_1
    clear q hb
    go_wp2
    go_ret
    exact ⟨rfl, Bl_2.out⟩
  rw [leftOf_ok hz0] at HC0
  obtain ⟨l1, hl1⟩ : ∃ l1 : Int, l1 = l0 - ((gsz gs0 : Nat) : Int) := ⟨_, rfl⟩
  rw [← hl1] at HC0
  have hge1 : 0 ≤ l1 := by omega
  have hle1 : l1 ≤ 1048576 := by omega
  have HC1 := Lib.hid fun (w' : World) (hB : w.heap.size ≤ w'.heap.size) (h : CS w' w.heap.size A1 ac1) => sz_acts A1 n1 c1 ac1 l1 w' hn1 (by omega) (by omega) hm1
  by_cases hz1 : ((ac1.length : Nat) : Int) ≤ l1
  case neg =>
    rw [leftOf_no hz1] at HC1
    subst hl0
    have S_0 : Hid (As 0 w.heap.size (fun wk => GS wk w.heap.size A0 gs0 ∧ CS wk w.heap.size A1 ac1) w) := ⟨⟨h0, h1⟩, Nat.le_refl _, ((GS.loc _ _ _).and (CS.loc _ _ _))⟩
    have Bl_0 : Hid (Bl w w) := Bl.refl w
    have S_1 := Lib.hid (S_0.out.alloc (.cells #[.slice A0 n0 c0] 24))
    clear S_0
    have Bl_1 := Lib.hid (Bl_0.out.alloc (.cells #[.slice A0 n0 c0] 24))
    clear Bl_0
    have bx := box_new w (.slice A0 n0 c0) 24
    have BX0_1 := Lib.hid bx
    clear bx
    clear hn0 h0 hp0 hn1 h1 hz1 hl1 hz0
    go_enter Try.func3, Try.ntmps3
    have q := BX0_1.out.it
    go_wp2_with fail
    refine (HC0.out _ Bl_1.out.le S_1.out.it.1).mono ?_
    rintro e w2 ⟨rfl, hb⟩
    have S_2 := Lib.hid (S_1.out.step hb)
    clear S_1
    have Bl_2 := Lib.hid (Bl_1.out.step hb)
    clear Bl_1
    have BX0_2 := Lib.hid (BX0_1.out.step hb)
    clear BX0_1
    clear q hb
    go_wp2_with fail
    refine (HC1.out _ Bl_2.out.le S_2.out.it.2).mono ?_
    rintro e w3 ⟨rfl, hb⟩
    have S_3 := Lib.hid (S_2.out.step hb)
    clear S_2
    have Bl_3 := Lib.hid (Bl_2.out.step hb)
    clear Bl_2
    have BX0_3 := Lib.hid (BX0_2.out.step hb)
    clear BX0_2
    clear  hb
    go_wp2
    go_ret
    exact ⟨rfl, Bl_3.out⟩
  rw [leftOf_ok hz1] at HC1
  obtain ⟨l2, hl2⟩ : ∃ l2 : Int, l2 = l1 - ((ac1.length : Nat) : Int) := ⟨_, rfl⟩
  rw [← hl2] at HC1
  have hge2 : 0 ≤ l2 := by omega
  have hle2 : l2 ≤ 1048576 := by omega
  have hG0 : GB gs0 := GB.of_gsz (by omega)
  have HSP := Lib.hid (top_spec_ValidActs gs0 ac1 hG0 (by omega))
  have HIM := Lib.hid (top_impl_ValidActs gs0 ac1 hG0 (by omega))
  generalize validA gs0 ac1 = F0 at *
  have hf0 : (F0 != F0) = false := by simp
  have HN0 := Lib.hid hn0
  have HG0 := Lib.hid hG0
  have hx0 : decide (gs0 = gs0) = true := by simp
  have hnb0 : n0 ≤ 1048576 := by rw [hn0]; exact hG0.1
  have HN1 := Lib.hid hn1
  have hx1 : decide (ac1 = ac1) = true := by simp
  have hnb1 : n1 ≤ 1048576 := by omega
  have S_0 : Hid (As 0 w.heap.size (fun wk => GS wk w.heap.size A0 gs0 ∧ CS wk w.heap.size A1 ac1) w) := ⟨⟨h0, h1⟩, Nat.le_refl _, ((GS.loc _ _ _).and (CS.loc _ _ _))⟩
  have Bl_0 : Hid (Bl w w) := Bl.refl w
  have S_1 := Lib.hid (S_0.out.alloc (.cells #[.slice A0 n0 c0] 24))
  clear S_0
  have Bl_1 := Lib.hid (Bl_0.out.alloc (.cells #[.slice A0 n0 c0] 24))
  clear Bl_0
  have bx := box_new w (.slice A0 n0 c0) 24
  have BX0_1 := Lib.hid bx
  clear bx
  have HLS := Lib.hid hl0
  subst hl0
  clear HLS hn0 h0 hp0 hn1 h1 hl1 hl2 hz0 hz1 hG0
  go_enter Try.func3, Try.ntmps3
  have q := BX0_1.out.it
  go_wp2_with fail
  refine (HC0.out _ Bl_1.out.le S_1.out.it.1).mono ?_
  rintro e w2 ⟨rfl, hb⟩
  have hs_2 : w.heap.size + 1 ≤ w2.heap.size := by have := hb.size; (try simp only [World.size_alloc] at this); omega
  have S_2 := Lib.hid (S_1.out.step hb)
  clear S_1
  have Bl_2 := Lib.hid (Bl_1.out.step hb)
  clear Bl_1
  have BX0_2 := Lib.hid (BX0_1.out.step hb)
  clear BX0_1
  clear q hb
  go_wp2_with fail
  refine (HC1.out _ Bl_2.out.le S_2.out.it.2).mono ?_
  rintro e w3 ⟨rfl, hb⟩
  have hs_3 : w2.heap.size ≤ w3.heap.size := by have := hb.size; (try simp only [World.size_alloc] at this); omega
  have S_3 := Lib.hid (S_2.out.step hb)
  clear S_2
  have Bl_3 := Lib.hid (Bl_2.out.step hb)
  clear Bl_2
  have BX0_3 := Lib.hid (BX0_2.out.step hb)
  clear BX0_2
  clear  hb
  have q := BX0_3.out.it
  go_wp2_with fail
  refine (laws_toGraph A0 n0 c0 gs0 _ w.heap.size Bl_3.out.le HN0.out S_3.out.it.1 HG0.out).mono ?_
  rintro e w4 ⟨B4, m4, d4, rfl, hn, hown, hb⟩
  try simp only [World.size_alloc] at hown
  have hs_4 : w3.heap.size ≤ w4.heap.size := by have := hb.size; (try simp only [World.size_alloc] at this); omega
  have M4 := Lib.hid hn
  have NC4 := Lib.hid hown.ncap
  have S_4 := Lib.hid (S_3.out.step hb)
  clear S_3
  have Bl_4 := Lib.hid (Bl_3.out.step hb)
  clear Bl_3
  have BX0_4 := Lib.hid (BX0_3.out.step hb)
  clear BX0_3
  have X0_4 := Lib.hid (graph_start hown)
  clear q hn hown hb
  go_wp2_with fail
  refine (laws_toActS A1 n1 c1 ac1 _ w.heap.size Bl_4.out.le HN1.out S_4.out.it.2 (by omega)).mono ?_
  rintro e w5 ⟨rfl, hown, hb⟩
  try simp only [World.size_alloc] at hown
  have hs_5 : w4.heap.size ≤ w5.heap.size := by have := hb.size; (try simp only [World.size_alloc] at this); omega
  have S_5 := Lib.hid (S_4.out.step hb)
  clear S_4
  have Bl_5 := Lib.hid (Bl_4.out.step hb)
  clear Bl_4
  have BX0_5 := Lib.hid (BX0_4.out.step hb)
  clear BX0_4
  have X0_5 := Lib.hid (X0_4.out.step hb)
  clear X0_4
  have X1_5 := Lib.hid (row_start hown)
  clear hown hb
  go_wp2_with fail
  refine (HSP.out B4 m4 d4 (some ⟨w4.heap.size, 0, none⟩) n1 n1 _ M4.out NC4.out X0_5.out.graph HN1.out X1_5.out.acts).mono ?_
  rintro e w6 ⟨rfl, hb⟩
  clear X0_5
  clear X1_5
  have hs_6 : w5.heap.size ≤ w6.heap.size := by have := hb.size; (try simp only [World.size_alloc] at this); omega
  have S_6 := Lib.hid (S_5.out.step hb)
  clear S_5
  have Bl_6 := Lib.hid (Bl_5.out.step hb)
  clear Bl_5
  have BX0_6 := Lib.hid (BX0_5.out.step hb)
  clear BX0_5
  clear hb
  have q := BX0_6.out.it
  go_wp2_with fail
  refine (laws_toGraph A0 n0 c0 gs0 _ w.heap.size Bl_6.out.le HN0.out S_6.out.it.1 HG0.out).mono ?_
  rintro e w7 ⟨B7, m7, d7, rfl, hn, hown, hb⟩
  try simp only [World.size_alloc] at hown
  have hs_7 : w6.heap.size ≤ w7.heap.size := by have := hb.size; (try simp only [World.size_alloc] at this); omega
  have M7 := Lib.hid hn
  have NC7 := Lib.hid hown.ncap
  have S_7 := Lib.hid ((S_6.out.step hb).alloc (.cells #[.slice B7 m7 d7] 31))
  clear S_6
  have Bl_7 := Lib.hid ((Bl_6.out.step hb).alloc (.cells #[.slice B7 m7 d7] 31))
  clear Bl_6
  have BX0_7 := Lib.hid ((BX0_6.out.step hb).alloc (.cells #[.slice B7 m7 d7] 31))
  clear BX0_6
  have X0_7 := Lib.hid ((graph_start hown).alloc (.cells #[.slice B7 m7 d7] 31))
  have XB0_7 := Lib.hid (box_new w7 (.slice B7 m7 d7) 31)
  clear q hn hown hb
  go_wp2_with fail
  refine (laws_toActS A1 n1 c1 ac1 _ w.heap.size Bl_7.out.le HN1.out S_7.out.it.2 (by omega)).mono ?_
  rintro e w8 ⟨rfl, hown, hb⟩
  try simp only [World.size_alloc] at hown
  have hs_8 : w7.heap.size + 1 ≤ w8.heap.size := by have := hb.size; (try simp only [World.size_alloc] at this); omega
  have S_8 := Lib.hid (S_7.out.step hb)
  clear S_7
  have Bl_8 := Lib.hid (Bl_7.out.step hb)
  clear Bl_7
  have BX0_8 := Lib.hid (BX0_7.out.step hb)
  clear BX0_7
  have X0_8 := Lib.hid (X0_7.out.step hb)
  clear X0_7
  have XB0_8 := Lib.hid (XB0_7.out.step hb)
  clear XB0_7
  have X1_8 := Lib.hid (row_start hown)
  clear hown hb
  have q0 := XB0_8.out.it
  go_wp2_with fail
  refine (HIM.out B7 m7 d7 (some ⟨w7.heap.size + 1, 0, none⟩) n1 n1 _ M7.out NC7.out X0_8.out.graph HN1.out X1_8.out.acts).mono ?_
  rintro e w9 ⟨rfl, hb⟩
  have hs_9 : w8.heap.size ≤ w9.heap.size := by have := hb.size; (try simp only [World.size_alloc] at this); omega
  have S_9 := Lib.hid (S_8.out.step hb)
  clear S_8
  have Bl_9 := Lib.hid (Bl_8.out.step hb)
  clear Bl_8
  have BX0_9 := Lib.hid (BX0_8.out.step hb)
  clear BX0_8
  have X0_9 := Lib.hid (X0_8.out.step hb)
  clear X0_8
  have XB0_9 := Lib.hid (XB0_8.out.step hb)
  clear XB0_8
  have X1_9 := Lib.hid (X1_8.out.step hb)
  clear X1_8
  clear hb
  clear q0
  have q := XB0_9.out.it
  have r := BX0_9.out.it
  have hle := Bl_9.out.le
  go_wp2
  go_region_with (first
    | (go_at_call 9; refine (laws_toGraph A0 n0 c0 gs0 _ w.heap.size ?_ HN0.out ?_ HG0.out).mono ?_; (exact hle); exact S_9.out.it.1; rintro e w10 ⟨B10, m10, d10, rfl, hn, hown, hb'⟩; have hb : Below w9.heap.size w9 w10 := below_of_drew hb'; have M10 := Lib.hid hn; have C10 := Lib.hid (hown.nodes); have S_10 := Lib.hid (S_9.out.step hb); have Bl_10 := Lib.hid (Bl_9.out.step hb); have BX0_10 := Lib.hid (BX0_9.out.step hb); have X0_10 := Lib.hid (X0_9.out.step hb); have XB0_10 := Lib.hid (XB0_9.out.step hb); have X1_10 := Lib.hid (X1_9.out.step hb); have q2 := XB0_10.out.it; have r2 := BX0_10.out.it; clear hn hown hb' hb)
    | (go_at_call 12; refine (laws_eqGraph B7 B10 m7 m10 d7 d10 gs0 gs0 _ w10.heap.size (Nat.le_refl _) M7.out M10.out X0_10.out.graph C10.out HG0.out HG0.out).mono ?_; rintro e w11 ⟨rfl, hb⟩; have S_11 := Lib.hid (S_10.out.step hb); have Bl_11 := Lib.hid (Bl_10.out.step hb); have BX0_11 := Lib.hid (BX0_10.out.step hb); have X0_11 := Lib.hid (X0_10.out.step hb); have XB0_11 := Lib.hid (XB0_10.out.step hb); have X1_11 := Lib.hid (X1_10.out.step hb)))
  all_goals
    clear hb q r q2 r2 hle M10 C10 S_10 Bl_10 BX0_10 X0_10 XB0_10 X1_10 S_9 Bl_9 BX0_9 X0_9 XB0_9 X1_9
    go_wp2_with fail
    refine (laws_toActS A1 n1 c1 ac1 _ w.heap.size Bl_11.out.le HN1.out S_11.out.it.2 (by omega)).mono ?_
    rintro e w12 ⟨rfl, hown, hb⟩
    have Z := Lib.hid (CS.of_own hown)
    have S_12 := Lib.hid (S_11.out.step hb)
    clear S_11
    have Bl_12 := Lib.hid (Bl_11.out.step hb)
    clear Bl_11
    have BX0_12 := Lib.hid (BX0_11.out.step hb)
    clear BX0_11
    have X0_12 := Lib.hid (X0_11.out.step hb)
    clear X0_11
    have XB0_12 := Lib.hid (XB0_11.out.step hb)
    clear XB0_11
    have X1_12 := Lib.hid (X1_11.out.step hb)
    clear X1_11
    clear hown hb
    go_wp2_with fail
    refine (laws_eqActS _ _ n1 n1 _ _ ac1 ac1 _ w12.heap.size (Nat.le_refl _) HN1.out HN1.out X1_12.out.acts Z.out (by omega) (by omega)).mono ?_
    rintro e w13 ⟨rfl, hb⟩
    have S_13 := Lib.hid (S_12.out.step hb)
    clear S_12
    have Bl_13 := Lib.hid (Bl_12.out.step hb)
    clear Bl_12
    have BX0_13 := Lib.hid (BX0_12.out.step hb)
    clear BX0_12
    have X0_13 := Lib.hid (X0_12.out.step hb)
    clear X0_12
    have XB0_13 := Lib.hid (XB0_12.out.step hb)
    clear XB0_12
    have X1_13 := Lib.hid (X1_12.out.step hb)
    clear X1_12
    clear hb Z
    go_wp2
    go_ret
    exact ⟨rfl, Bl_13.out⟩
end Go.Proofs.Ytkmhpiojbocjkaa
