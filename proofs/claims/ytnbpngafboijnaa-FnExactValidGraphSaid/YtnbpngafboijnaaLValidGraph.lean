/- laws.FnExactValidGraph returns true for all arguments, and writes nothing that was there. (Made by genlaw.py.) -/
import Derived.Test.YtnbpngafboijnaaG7
import Derived.Deep.RegionWith
import Derived.Test.YtnbpngafboijnaaT1
namespace Go.Proofs.Ytnbpngafboijnaa
set_option linter.unusedSimpArgs false
set_option linter.unusedVariables false
open Go.RowKit

set_option maxRecDepth 100000 in
set_option maxHeartbeats 12800000 in
theorem law_ValidGraph (A0 : Option Addr) (n0 c0 : Nat) (gs0 : List Nd) (w : World) (hn0 : n0 = gs0.length) (h0 : GS w w.heap.size A0 gs0) (hm0 : n0 ≤ 9223372036854775807) (hp0 : ∀ j, (gs0.getD j default).ps.length ≤ 9223372036854775807) :
    Calls Try.prog 4 #[.agg #[.slice A0 n0 c0]] w fun e w' => e = .returned (.bool true) ∧ Below w.heap.size w w' := by
  obtain ⟨l0, hl0⟩ : ∃ l0 : Int, l0 = 1048576 := ⟨_, rfl⟩
  have HC0 := Lib.hid fun (w' : World) (hB : w.heap.size ≤ w'.heap.size) (h : GS w' w.heap.size A0 gs0) => laws_szGraph A0 n0 c0 gs0 l0 w' w.heap.size hB hn0 h (by omega) (by omega) hm0 hp0
  by_cases hz0 : ((gsz gs0 : Nat) : Int) ≤ l0
  case neg =>
    rw [leftOf_no hz0] at HC0
    subst hl0
    have S_0 : Hid (As 0 w.heap.size (fun wk => GS wk w.heap.size A0 gs0) w) := ⟨h0, Nat.le_refl _, (GS.loc _ _ _)⟩
    have Bl_0 : Hid (Bl w w) := Bl.refl w
    have S_1 := Lib.hid (S_0.out.alloc (.cells #[.slice A0 n0 c0] 36))
    clear S_0
    have Bl_1 := Lib.hid (Bl_0.out.alloc (.cells #[.slice A0 n0 c0] 36))
    clear Bl_0
    have bx := box_new w (.slice A0 n0 c0) 36
    have BX0_1 := Lib.hid bx
    clear bx
    clear hn0 h0 hp0 hz0
    go_enter Try.func4, Try.ntmps4
    have q := BX0_1.out.it
    go_wp2_with fail
    refine (HC0.out _ Bl_1.out.le S_1.out.it).mono ?_
    rintro e w2 ⟨rfl, hb⟩
    have S_2 := Lib.hid (S_1.out.step hb)
    clear S_1
    have Bl_2 := Lib.hid (Bl_1.out.step hb)
    clear Bl_1
    have BX0_2 := Lib.hid (BX0_1.out.step hb)
    clear BX0_1
    clear q hb
    go_wp2
    go_ret
    exact ⟨rfl, Bl_2.out⟩
  rw [leftOf_ok hz0] at HC0
  obtain ⟨l1, hl1⟩ : ∃ l1 : Int, l1 = l0 - ((gsz gs0 : Nat) : Int) := ⟨_, rfl⟩
  rw [← hl1] at HC0
  have hge1 : 0 ≤ l1 := by omega
  have hle1 : l1 ≤ 1048576 := by omega
  have hG0 : GB gs0 := GB.of_gsz (by omega)
  have HSP := Lib.hid (top_spec_ValidGraph gs0 hG0)
  have HIM := Lib.hid (top_impl_ValidGraph gs0 hG0)
  generalize validG gs0 = F0 at *
  have hf0 : (F0 != F0) = false := by simp
  have HN0 := Lib.hid hn0
  have HG0 := Lib.hid hG0
  have hx0 : decide (gs0 = gs0) = true := by simp
  have hnb0 : n0 ≤ 1048576 := by rw [hn0]; exact hG0.1
  have S_0 : Hid (As 0 w.heap.size (fun wk => GS wk w.heap.size A0 gs0) w) := ⟨h0, Nat.le_refl _, (GS.loc _ _ _)⟩
  have Bl_0 : Hid (Bl w w) := Bl.refl w
  have S_1 := Lib.hid (S_0.out.alloc (.cells #[.slice A0 n0 c0] 36))
  clear S_0
  have Bl_1 := Lib.hid (Bl_0.out.alloc (.cells #[.slice A0 n0 c0] 36))
  clear Bl_0
  have bx := box_new w (.slice A0 n0 c0) 36
  have BX0_1 := Lib.hid bx
  clear bx
  have HLS := Lib.hid hl0
  subst hl0
  clear HLS hn0 h0 hp0 hl1 hz0 hG0
  go_enter Try.func4, Try.ntmps4
  have q := BX0_1.out.it
  go_wp2_with fail
  refine (HC0.out _ Bl_1.out.le S_1.out.it).mono ?_
  rintro e w2 ⟨rfl, hb⟩
  have hs_2 : w.heap.size + 1 ≤ w2.heap.size := by have := hb.size; (try simp only [World.size_alloc] at this); omega
  have S_2 := Lib.hid (S_1.out.step hb)
  clear S_1
  have Bl_2 := Lib.hid (Bl_1.out.step hb)
  clear Bl_1
  have BX0_2 := Lib.hid (BX0_1.out.step hb)
  clear BX0_1
  clear q hb
  have q := BX0_2.out.it
  go_wp2_with fail
  refine (laws_toGraph A0 n0 c0 gs0 _ w.heap.size Bl_2.out.le HN0.out S_2.out.it HG0.out).mono ?_
  rintro e w3 ⟨B3, m3, d3, rfl, hn, hown, hb⟩
  try simp only [World.size_alloc] at hown
  have hs_3 : w2.heap.size ≤ w3.heap.size := by have := hb.size; (try simp only [World.size_alloc] at this); omega
  have M3 := Lib.hid hn
  have NC3 := Lib.hid hown.ncap
  have S_3 := Lib.hid (S_2.out.step hb)
  clear S_2
  have Bl_3 := Lib.hid (Bl_2.out.step hb)
  clear Bl_2
  have BX0_3 := Lib.hid (BX0_2.out.step hb)
  clear BX0_2
  have X0_3 := Lib.hid (graph_start hown)
  clear q hn hown hb
  go_wp2_with fail
  refine (HSP.out B3 m3 d3 _ M3.out NC3.out X0_3.out.graph).mono ?_
  rintro e w4 ⟨rfl, hb⟩
  clear X0_3
  have hs_4 : w3.heap.size ≤ w4.heap.size := by have := hb.size; (try simp only [World.size_alloc] at this); omega
  have S_4 := Lib.hid (S_3.out.step hb)
  clear S_3
  have Bl_4 := Lib.hid (Bl_3.out.step hb)
  clear Bl_3
  have BX0_4 := Lib.hid (BX0_3.out.step hb)
  clear BX0_3
  clear hb
  have q := BX0_4.out.it
  go_wp2_with fail
  refine (laws_toGraph A0 n0 c0 gs0 _ w.heap.size Bl_4.out.le HN0.out S_4.out.it HG0.out).mono ?_
  rintro e w5 ⟨B5, m5, d5, rfl, hn, hown, hb⟩
  try simp only [World.size_alloc] at hown
  have hs_5 : w4.heap.size ≤ w5.heap.size := by have := hb.size; (try simp only [World.size_alloc] at this); omega
  have M5 := Lib.hid hn
  have NC5 := Lib.hid hown.ncap
  have S_5 := Lib.hid ((S_4.out.step hb).alloc (.cells #[.slice B5 m5 d5] 41))
  clear S_4
  have Bl_5 := Lib.hid ((Bl_4.out.step hb).alloc (.cells #[.slice B5 m5 d5] 41))
  clear Bl_4
  have BX0_5 := Lib.hid ((BX0_4.out.step hb).alloc (.cells #[.slice B5 m5 d5] 41))
  clear BX0_4
  have X0_5 := Lib.hid ((graph_start hown).alloc (.cells #[.slice B5 m5 d5] 41))
  have XB0_5 := Lib.hid (box_new w5 (.slice B5 m5 d5) 41)
  clear q hn hown hb
  have q0 := XB0_5.out.it
  go_wp2_with fail
  refine (HIM.out B5 m5 d5 _ M5.out NC5.out X0_5.out.graph).mono ?_
  rintro e w6 ⟨rfl, hb⟩
  have hs_6 : w5.heap.size + 1 ≤ w6.heap.size := by have := hb.size; (try simp only [World.size_alloc] at this); omega
  have S_6 := Lib.hid (S_5.out.step hb)
  clear S_5
  have Bl_6 := Lib.hid (Bl_5.out.step hb)
  clear Bl_5
  have BX0_6 := Lib.hid (BX0_5.out.step hb)
  clear BX0_5
  have X0_6 := Lib.hid (X0_5.out.step hb)
  clear X0_5
  have XB0_6 := Lib.hid (XB0_5.out.step hb)
  clear XB0_5
  clear hb
  clear q0
  have q := XB0_6.out.it
  have r := BX0_6.out.it
  have hle := Bl_6.out.le
  go_wp2
  go_region_with (first
    | (go_at_call 24; refine (laws_toGraph A0 n0 c0 gs0 _ w.heap.size ?_ HN0.out ?_ HG0.out).mono ?_; (exact hle); exact S_6.out.it; rintro e w7 ⟨B7, m7, d7, rfl, hn, hown, hb'⟩; have hb : Below w6.heap.size w6 w7 := below_of_drew hb'; have M7 := Lib.hid hn; have C7 := Lib.hid (hown.nodes); have S_7 := Lib.hid (S_6.out.step hb); have Bl_7 := Lib.hid (Bl_6.out.step hb); have BX0_7 := Lib.hid (BX0_6.out.step hb); have X0_7 := Lib.hid (X0_6.out.step hb); have XB0_7 := Lib.hid (XB0_6.out.step hb); have q2 := XB0_7.out.it; have r2 := BX0_7.out.it; clear hn hown hb' hb)
    | (go_at_call 26; refine (laws_eqGraph B5 B7 m5 m7 d5 d7 gs0 gs0 _ w7.heap.size (Nat.le_refl _) M5.out M7.out X0_7.out.graph C7.out HG0.out HG0.out).mono ?_; rintro e w8 ⟨rfl, hb⟩; have S_8 := Lib.hid (S_7.out.step hb); have Bl_8 := Lib.hid (Bl_7.out.step hb); have BX0_8 := Lib.hid (BX0_7.out.step hb); have X0_8 := Lib.hid (X0_7.out.step hb); have XB0_8 := Lib.hid (XB0_7.out.step hb)))
  all_goals
    clear hb q r q2 r2 hle M7 C7 S_7 Bl_7 BX0_7 X0_7 XB0_7 S_6 Bl_6 BX0_6 X0_6 XB0_6
    go_wp2
    go_ret
    exact ⟨rfl, Bl_8.out⟩
end Go.Proofs.Ytnbpngafboijnaa
