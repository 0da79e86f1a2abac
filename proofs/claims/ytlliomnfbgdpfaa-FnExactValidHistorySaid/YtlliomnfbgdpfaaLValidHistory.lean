/- laws.FnExactValidHistory returns true for all arguments, and writes nothing that was there. (Made by genlaw.py.) -/
import Derived.Test.YtlliomnfbgdpfaaS2
import Derived.Deep.RegionWith
import Derived.Test.YtlliomnfbgdpfaaJ2

namespace Go.Proofs.Ytlliomnfbgdpfaa
set_option linter.unusedSimpArgs false
set_option linter.unusedVariables false
open Go.RowKit

set_option maxRecDepth 100000 in
set_option maxHeartbeats 3200000 in
theorem law_ValidHistory (A0 : Option Addr) (n0 c0 : Nat) (gs0 : List Nd) (A1 : Option Addr) (n1 c1 : Nat) (st1 : Hi) (w : World) (hn0 : n0 = gs0.length) (h0 : GS w w.heap.size A0 gs0) (hm0 : n0 ≤ 9223372036854775807) (hp0 : ∀ j, (gs0.getD j default).ps.length ≤ 9223372036854775807) (hn1 : n1 = st1.ss.length) (h1 : HiS w w.heap.size A1 st1) (hm1 : n1 ≤ 9223372036854775807) (hp1 : ∀ j, (st1.ss.getD j []).length ≤ 9223372036854775807) :
    Calls Try.prog 3 #[.agg #[.slice A0 n0 c0], .agg #[.slice A1 n1 c1, .int .i64 st1.ix]] w fun e w' => e = .returned (.bool true) ∧ Below w.heap.size w w' := by
  obtain ⟨l0, hl0⟩ : ∃ l0 : Int, l0 = 1048576 := ⟨_, rfl⟩
  have HC0 := Lib.hid fun (w' : World) (hB : w.heap.size ≤ w'.heap.size) (h : GS w' w.heap.size A0 gs0) => laws_szGraph A0 n0 c0 gs0 l0 w' w.heap.size hB hn0 h (by omega) (by omega) hm0 hp0
  by_cases hz0 : ((gsz gs0 : Nat) : Int) ≤ l0
  case neg =>
    rw [leftOf_no hz0] at HC0
    subst hl0
    have S_0 : Hid (As 0 w.heap.size (fun wk => GS wk w.heap.size A0 gs0 ∧ HiS wk w.heap.size A1 st1) w) := ⟨⟨h0, h1⟩, Nat.le_refl _, ((GS.loc _ _ _).and (HiS.loc _ _ _))⟩
    have Bl_0 : Hid (Bl w w) := Bl.refl w
    have S_1 := Lib.hid (S_0.out.alloc (.cells #[.slice A0 n0 c0] 24))
    clear S_0
    have Bl_1 := Lib.hid (Bl_0.out.alloc (.cells #[.slice A0 n0 c0] 24))
    clear Bl_0
    have bx := box_new w (.slice A0 n0 c0) 24
    have BX0_1 := Lib.hid bx
    clear bx
    have S_2 := Lib.hid (S_1.out.alloc (.cells #[.slice A1 n1 c1, .int .i64 st1.ix] 27))
    clear S_1
    have Bl_2 := Lib.hid (Bl_1.out.alloc (.cells #[.slice A1 n1 c1, .int .i64 st1.ix] 27))
    clear Bl_1
    have BX0_2 := Lib.hid (BX0_1.out.alloc (.cells #[.slice A1 n1 c1, .int .i64 st1.ix] 27))
    clear BX0_1
    have bx := box2_new (w.alloc (.cells #[.slice A0 n0 c0] 24)) (.slice A1 n1 c1) (.int .i64 st1.ix) 27
    simp only [World.size_alloc] at bx
    have BX1_2 := Lib.hid bx
    clear bx
    clear hn0 h0 hp0 hn1 h1 hp1 hz0
    go_enter Try.func3, Try.ntmps3
    have q := BX0_2.out.it
    go_wp2_with fail
    refine (HC0.out _ Bl_2.out.le S_2.out.it.1).mono ?_
    rintro e w3 ⟨rfl, hb⟩
    have S_3 := Lib.hid (S_2.out.step hb)
    clear S_2
    have Bl_3 := Lib.hid (Bl_2.out.step hb)
    clear Bl_2
    have BX0_3 := Lib.hid (BX0_2.out.step hb)
    clear BX0_2
    have BX1_3 := Lib.hid (BX1_2.out.step hb)
    clear BX1_2
    clear q hb
    go_wp2
    go_ret
    exact ⟨rfl, Bl_3.out⟩
  rw [leftOf_ok hz0] at HC0
  obtain ⟨l1, hl1⟩ : ∃ l1 : Int, l1 = l0 - ((gsz gs0 : Nat) : Int) := ⟨_, rfl⟩
  rw [← hl1] at HC0
  have hge1 : 0 ≤ l1 := by omega
  have hle1 : l1 ≤ 1048576 := by omega
  have HC1 := Lib.hid fun (w' : World) (hB : w.heap.size ≤ w'.heap.size) (h : HiS w' w.heap.size A1 st1) => laws_szHistory A1 n1 c1 st1 l1 w' w.heap.size hB hn1 h (by omega) (by omega) hm1 hp1
  by_cases hz1 : ((hsz st1 : Nat) : Int) ≤ l1
  case neg =>
    rw [leftOf_no hz1] at HC1
    subst hl0
    have S_0 : Hid (As 0 w.heap.size (fun wk => GS wk w.heap.size A0 gs0 ∧ HiS wk w.heap.size A1 st1) w) := ⟨⟨h0, h1⟩, Nat.le_refl _, ((GS.loc _ _ _).and (HiS.loc _ _ _))⟩
    have Bl_0 : Hid (Bl w w) := Bl.refl w
    have S_1 := Lib.hid (S_0.out.alloc (.cells #[.slice A0 n0 c0] 24))
    clear S_0
    have Bl_1 := Lib.hid (Bl_0.out.alloc (.cells #[.slice A0 n0 c0] 24))
    clear Bl_0
    have bx := box_new w (.slice A0 n0 c0) 24
    have BX0_1 := Lib.hid bx
    clear bx
    have S_2 := Lib.hid (S_1.out.alloc (.cells #[.slice A1 n1 c1, .int .i64 st1.ix] 27))
    clear S_1
    have Bl_2 := Lib.hid (Bl_1.out.alloc (.cells #[.slice A1 n1 c1, .int .i64 st1.ix] 27))
    clear Bl_1
    have BX0_2 := Lib.hid (BX0_1.out.alloc (.cells #[.slice A1 n1 c1, .int .i64 st1.ix] 27))
    clear BX0_1
    have bx := box2_new (w.alloc (.cells #[.slice A0 n0 c0] 24)) (.slice A1 n1 c1) (.int .i64 st1.ix) 27
    simp only [World.size_alloc] at bx
    have BX1_2 := Lib.hid bx
    clear bx
    clear hn0 h0 hp0 hn1 h1 hp1 hz1 hl1 hz0
    go_enter Try.func3, Try.ntmps3
    have q := BX0_2.out.it
    go_wp2_with fail
    refine (HC0.out _ Bl_2.out.le S_2.out.it.1).mono ?_
    rintro e w3 ⟨rfl, hb⟩
    have S_3 := Lib.hid (S_2.out.step hb)
    clear S_2
    have Bl_3 := Lib.hid (Bl_2.out.step hb)
    clear Bl_2
    have BX0_3 := Lib.hid (BX0_2.out.step hb)
    clear BX0_2
    have BX1_3 := Lib.hid (BX1_2.out.step hb)
    clear BX1_2
    clear q hb
    obtain ⟨q, qb⟩ := BX1_3.out.it
    go_wp2_with fail
    refine (HC1.out _ Bl_3.out.le S_3.out.it.2).mono ?_
    rintro e w4 ⟨rfl, hb⟩
    have S_4 := Lib.hid (S_3.out.step hb)
    clear S_3
    have Bl_4 := Lib.hid (Bl_3.out.step hb)
    clear Bl_3
    have BX0_4 := Lib.hid (BX0_3.out.step hb)
    clear BX0_3
    have BX1_4 := Lib.hid (BX1_3.out.step hb)
    clear BX1_3
    clear q qb hb
    go_wp2
    go_ret
    exact ⟨rfl, Bl_4.out⟩
  rw [leftOf_ok hz1] at HC1
  obtain ⟨l2, hl2⟩ : ∃ l2 : Int, l2 = l1 - ((hsz st1 : Nat) : Int) := ⟨_, rfl⟩
  rw [← hl2] at HC1
  have hge2 : 0 ≤ l2 := by omega
  have hle2 : l2 ≤ 1048576 := by omega
  have hG0 : GB gs0 := GB.of_gsz (by omega)
  have hEB1 : HiB st1 := HiB.of_hsz (by omega)
  have HSP := Lib.hid (top_spec_ValidHistory gs0 st1 hG0 hEB1)
  have HIM := Lib.hid (top_impl_ValidHistory gs0 st1 hG0 hEB1)
  generalize validHi gs0 st1 = F0 at *
  have hf0 : (F0 != F0) = false := by simp
  have HN0 := Lib.hid hn0
  have HG0 := Lib.hid hG0
  have hx0 : decide (gs0 = gs0) = true := by simp
  have hnb0 : n0 ≤ 1048576 := by rw [hn0]; exact hG0.1
  have HN1 := Lib.hid hn1
  have HEG1 := Lib.hid hEB1
  have hx1 : decide (st1 = st1) = true := by simp
  have hnb1 : n1 ≤ 1048576 := by rw [hn1]; exact hEB1.1
  have S_0 : Hid (As 0 w.heap.size (fun wk => GS wk w.heap.size A0 gs0 ∧ HiS wk w.heap.size A1 st1) w) := ⟨⟨h0, h1⟩, Nat.le_refl _, ((GS.loc _ _ _).and (HiS.loc _ _ _))⟩
  have Bl_0 : Hid (Bl w w) := Bl.refl w
  have S_1 := Lib.hid (S_0.out.alloc (.cells #[.slice A0 n0 c0] 24))
  clear S_0
  have Bl_1 := Lib.hid (Bl_0.out.alloc (.cells #[.slice A0 n0 c0] 24))
  clear Bl_0
  have bx := box_new w (.slice A0 n0 c0) 24
  have BX0_1 := Lib.hid bx
  clear bx
  have S_2 := Lib.hid (S_1.out.alloc (.cells #[.slice A1 n1 c1, .int .i64 st1.ix] 27))
  clear S_1
  have Bl_2 := Lib.hid (Bl_1.out.alloc (.cells #[.slice A1 n1 c1, .int .i64 st1.ix] 27))
  clear Bl_1
  have BX0_2 := Lib.hid (BX0_1.out.alloc (.cells #[.slice A1 n1 c1, .int .i64 st1.ix] 27))
  clear BX0_1
  have bx := box2_new (w.alloc (.cells #[.slice A0 n0 c0] 24)) (.slice A1 n1 c1) (.int .i64 st1.ix) 27
  simp only [World.size_alloc] at bx
  have BX1_2 := Lib.hid bx
  clear bx
  have HLS := Lib.hid hl0
  subst hl0
  clear HLS hn0 h0 hp0 hn1 h1 hp1 hl1 hl2 hz0 hz1 hG0 hEB1
  go_enter Try.func3, Try.ntmps3
  have q := BX0_2.out.it
  go_wp2_with fail
  refine (HC0.out _ Bl_2.out.le S_2.out.it.1).mono ?_
  rintro e w3 ⟨rfl, hb⟩
  have hs_3 : w.heap.size + 2 ≤ w3.heap.size := by have := hb.size; (try simp only [World.size_alloc] at this); omega
  have S_3 := Lib.hid (S_2.out.step hb)
  clear S_2
  have Bl_3 := Lib.hid (Bl_2.out.step hb)
  clear Bl_2
  have BX0_3 := Lib.hid (BX0_2.out.step hb)
  clear BX0_2
  have BX1_3 := Lib.hid (BX1_2.out.step hb)
  clear BX1_2
  clear q hb
  obtain ⟨q, qb⟩ := BX1_3.out.it
  go_wp2_with fail
  refine (HC1.out _ Bl_3.out.le S_3.out.it.2).mono ?_
  rintro e w4 ⟨rfl, hb⟩
  have hs_4 : w3.heap.size ≤ w4.heap.size := by have := hb.size; (try simp only [World.size_alloc] at this); omega
  have S_4 := Lib.hid (S_3.out.step hb)
  clear S_3
  have Bl_4 := Lib.hid (Bl_3.out.step hb)
  clear Bl_3
  have BX0_4 := Lib.hid (BX0_3.out.step hb)
  clear BX0_3
  have BX1_4 := Lib.hid (BX1_3.out.step hb)
  clear BX1_3
  clear q qb hb
  have z0_4 := BX0_4.out.it
  obtain ⟨z1_4, z1_4b⟩ := BX1_4.out.it
  have hle4 := Bl_4.out.le
  go_wp2
  go_region_held3 (fun w' => w'.cell? ⟨w.heap.size, 0, none⟩ = some (.slice A0 n0 c0) ∧ w'.cell? ⟨w.heap.size + 1, 0, none⟩ = some (.slice A1 n1 c1) ∧ w'.cell? ⟨w.heap.size + 1, 1, none⟩ = some (.int .i64 st1.ix)) (first | exact ⟨z0_4, z1_4, z1_4b⟩ | exact ⟨z0_5, z1_5, z1_5b⟩ | exact ⟨z0_6, z1_6, z1_6b⟩ | exact ⟨z0_7, z1_7, z1_7b⟩ | go_keep)
    (first
      | (go_at_call 11; refine (laws_toGraph A0 n0 c0 gs0 _ w.heap.size ?_ HN0.out ?_ HG0.out).mono ?_; (exact hle4); exact S_4.out.it.1; rintro e w5 ⟨B5, m5, d5, rfl, hn, hown, hb'⟩; have hb5 : Below w4.heap.size w4 w5 := (by first | exact hb' | exact below_of_drew hb'); have hs_5 : w4.heap.size ≤ w5.heap.size := (by have := hb5.size; (try simp only [World.size_alloc] at this); omega); have M5 := Lib.hid hn; have NC5 := Lib.hid hown.ncap; have S_5 := Lib.hid (S_4.out.step hb5); have Bl_5 := Lib.hid (Bl_4.out.step hb5); have BX0_5 := Lib.hid (BX0_4.out.step hb5); have BX1_5 := Lib.hid (BX1_4.out.step hb5); have X0_5 := Lib.hid (graph_start hown); have z0_5 := BX0_5.out.it; obtain ⟨z1_5, z1_5b⟩ := BX1_5.out.it; have hle5 := Bl_5.out.le; clear hown hb' hn)
      | (go_at_call 12; refine (laws_toHistory A1 n1 c1 st1 _ w.heap.size ?_ HN1.out ?_ HEG1.out).mono ?_; (exact hle5); exact S_5.out.it.2; rintro e w6 ⟨B6, m6, d6, rfl, hown, hb'⟩; have hn := hown.1; have hb6 : Below w5.heap.size w5 w6 := (by first | exact hb' | exact below_of_drew hb'); have hs_6 : w5.heap.size ≤ w6.heap.size := (by have := hb6.size; (try simp only [World.size_alloc] at this); omega); have M6 := Lib.hid hn; have S_6 := Lib.hid (S_5.out.step hb6); have Bl_6 := Lib.hid (Bl_5.out.step hb6); have BX0_6 := Lib.hid (BX0_5.out.step hb6); have BX1_6 := Lib.hid (BX1_5.out.step hb6); have X0_6 := Lib.hid (X0_5.out.step hb6); have X1_6 := Lib.hid (hist_start hown); have z0_6 := BX0_6.out.it; obtain ⟨z1_6, z1_6b⟩ := BX1_6.out.it; have hle6 := Bl_6.out.le; clear hown hb' hn)
      | (go_at_call 10; refine (HSP.out B5 m5 d5 B6 m6 d6 _ M5.out NC5.out X0_6.out.graph M6.out X1_6.out.hist).mono ?_; rintro e w7 ⟨rfl, hb⟩; have z0_7 := (BX0_6.out.step hb).it; obtain ⟨z1_7, z1_7b⟩ := (BX1_6.out.step hb).it))
  clear S_4 Bl_4 BX0_4 BX1_4 S_5 Bl_5 BX0_5 BX1_5 X0_5 hle4 hle5 hb5 hle6 hb6 z0_4 z1_4 z1_4b z0_5 z1_5 z1_5b z0_6 z1_6 z1_6b z0_7 z1_7 z1_7b
  clear X0_6
  clear X1_6
  have hs_7 : w6.heap.size ≤ w7.heap.size := by have := hb.size; (try simp only [World.size_alloc] at this); omega
  have S_7 := Lib.hid (S_6.out.step hb)
  clear S_6
  have Bl_7 := Lib.hid (Bl_6.out.step hb)
  clear Bl_6
  have BX0_7 := Lib.hid (BX0_6.out.step hb)
  clear BX0_6
  have BX1_7 := Lib.hid (BX1_6.out.step hb)
  clear BX1_6
  clear hb
  have q := BX0_7.out.it
  go_wp2_with fail
  refine (laws_toGraph A0 n0 c0 gs0 _ w.heap.size Bl_7.out.le HN0.out S_7.out.it.1 HG0.out).mono ?_
  rintro e w8 ⟨B8, m8, d8, rfl, hn, hown, hb⟩
  try simp only [World.size_alloc] at hown
  have hs_8 : w7.heap.size ≤ w8.heap.size := by have := hb.size; (try simp only [World.size_alloc] at this); omega
  have M8 := Lib.hid hn
  have NC8 := Lib.hid hown.ncap
  have S_8 := Lib.hid ((S_7.out.step hb).alloc (.cells #[.slice B8 m8 d8] 33))
  clear S_7
  have Bl_8 := Lib.hid ((Bl_7.out.step hb).alloc (.cells #[.slice B8 m8 d8] 33))
  clear Bl_7
  have BX0_8 := Lib.hid ((BX0_7.out.step hb).alloc (.cells #[.slice B8 m8 d8] 33))
  clear BX0_7
  have BX1_8 := Lib.hid ((BX1_7.out.step hb).alloc (.cells #[.slice B8 m8 d8] 33))
  clear BX1_7
  have X0_8 := Lib.hid ((graph_start hown).alloc (.cells #[.slice B8 m8 d8] 33))
  have XB0_8 := Lib.hid (box_new w8 (.slice B8 m8 d8) 33)
  clear q hn hown hb
  obtain ⟨q, qb⟩ := BX1_8.out.it
  go_wp2_with fail
  refine (laws_toHistory A1 n1 c1 st1 _ w.heap.size Bl_8.out.le HN1.out S_8.out.it.2 HEG1.out).mono ?_
  rintro e w9 ⟨B9, m9, d9, rfl, hown, hb⟩
  have hn := hown.1
  try simp only [World.size_alloc] at hown
  have hs_9 : w8.heap.size + 1 ≤ w9.heap.size := by have := hb.size; (try simp only [World.size_alloc] at this); omega
  have M9 := Lib.hid hn
  have S_9 := Lib.hid ((S_8.out.step hb).alloc (.cells #[.slice B9 m9 d9, .int .i64 st1.ix] 35))
  clear S_8
  have Bl_9 := Lib.hid ((Bl_8.out.step hb).alloc (.cells #[.slice B9 m9 d9, .int .i64 st1.ix] 35))
  clear Bl_8
  have BX0_9 := Lib.hid ((BX0_8.out.step hb).alloc (.cells #[.slice B9 m9 d9, .int .i64 st1.ix] 35))
  clear BX0_8
  have BX1_9 := Lib.hid ((BX1_8.out.step hb).alloc (.cells #[.slice B9 m9 d9, .int .i64 st1.ix] 35))
  clear BX1_8
  have X0_9 := Lib.hid ((X0_8.out.step hb).alloc (.cells #[.slice B9 m9 d9, .int .i64 st1.ix] 35))
  clear X0_8
  have XB0_9 := Lib.hid ((XB0_8.out.step hb).alloc (.cells #[.slice B9 m9 d9, .int .i64 st1.ix] 35))
  clear XB0_8
  have X1_9 := Lib.hid ((hist_start hown).alloc (.cells #[.slice B9 m9 d9, .int .i64 st1.ix] 35))
  have XB1_9 := Lib.hid (box2_new w9 (.slice B9 m9 d9) (.int .i64 st1.ix) 35)
  clear q qb hn hown hb
  have q0 := XB0_9.out.it
  obtain ⟨q1, q1b⟩ := XB1_9.out.it
  go_wp2_with fail
  refine (HIM.out B8 m8 d8 B9 m9 d9 _ M8.out NC8.out X0_9.out.graph M9.out X1_9.out.hist).mono ?_
  rintro e w10 ⟨rfl, hb⟩
  have hs_10 : w9.heap.size + 1 ≤ w10.heap.size := by have := hb.size; (try simp only [World.size_alloc] at this); omega
  have S_10 := Lib.hid (S_9.out.step hb)
  clear S_9
  have Bl_10 := Lib.hid (Bl_9.out.step hb)
  clear Bl_9
  have BX0_10 := Lib.hid (BX0_9.out.step hb)
  clear BX0_9
  have BX1_10 := Lib.hid (BX1_9.out.step hb)
  clear BX1_9
  have X0_10 := Lib.hid (X0_9.out.step hb)
  clear X0_9
  have XB0_10 := Lib.hid (XB0_9.out.step hb)
  clear XB0_9
  have X1_10 := Lib.hid (X1_9.out.step hb)
  clear X1_9
  have XB1_10 := Lib.hid (XB1_9.out.step hb)
  clear XB1_9
  clear hb
  clear q0 q1 q1b
  have q := XB0_10.out.it
  have r := BX0_10.out.it
  have hle := Bl_10.out.le
  go_wp2
  go_region_with (first
    | (go_at_call 11; refine (laws_toGraph A0 n0 c0 gs0 _ w.heap.size ?_ HN0.out ?_ HG0.out).mono ?_; (exact hle); exact S_10.out.it.1; rintro e w11 ⟨B11, m11, d11, rfl, hn, hown, hb'⟩; have hb : Below w10.heap.size w10 w11 := below_of_drew hb'; have M11 := Lib.hid hn; have C11 := Lib.hid (hown.nodes); have S_11 := Lib.hid (S_10.out.step hb); have Bl_11 := Lib.hid (Bl_10.out.step hb); have BX0_11 := Lib.hid (BX0_10.out.step hb); have BX1_11 := Lib.hid (BX1_10.out.step hb); have X0_11 := Lib.hid (X0_10.out.step hb); have XB0_11 := Lib.hid (XB0_10.out.step hb); have X1_11 := Lib.hid (X1_10.out.step hb); have XB1_11 := Lib.hid (XB1_10.out.step hb); have q2 := XB0_11.out.it; have r2 := BX0_11.out.it; clear hn hown hb' hb)
    | (go_at_call 14; refine (laws_eqGraph B8 B11 m8 m11 d8 d11 gs0 gs0 _ w11.heap.size (Nat.le_refl _) M8.out M11.out X0_11.out.graph C11.out HG0.out HG0.out).mono ?_; rintro e w12 ⟨rfl, hb⟩; have S_12 := Lib.hid (S_11.out.step hb); have Bl_12 := Lib.hid (Bl_11.out.step hb); have BX0_12 := Lib.hid (BX0_11.out.step hb); have BX1_12 := Lib.hid (BX1_11.out.step hb); have X0_12 := Lib.hid (X0_11.out.step hb); have XB0_12 := Lib.hid (XB0_11.out.step hb); have X1_12 := Lib.hid (X1_11.out.step hb); have XB1_12 := Lib.hid (XB1_11.out.step hb)))
  all_goals
    clear hb q r q2 r2 hle M11 C11 S_11 Bl_11 BX0_11 BX1_11 X0_11 XB0_11 X1_11 XB1_11 S_10 Bl_10 BX0_10 BX1_10 X0_10 XB0_10 X1_10 XB1_10
    obtain ⟨q, qb⟩ := XB1_12.out.it
    obtain ⟨r, rb⟩ := BX1_12.out.it
    have hle := Bl_12.out.le
    go_wp2
    go_region_with (first
      | (go_at_call 12; refine (laws_toHistory A1 n1 c1 st1 _ w.heap.size ?_ HN1.out ?_ HEG1.out).mono ?_; (exact hle); exact S_12.out.it.2; rintro e w13 ⟨B13, m13, d13, rfl, hown, hb'⟩; have hb : Below w12.heap.size w12 w13 := below_of_drew hb'; have hn := hown.1; have M13 := Lib.hid hown.1; have C13 := Lib.hid hown.hist; have S_13 := Lib.hid (S_12.out.step hb); have Bl_13 := Lib.hid (Bl_12.out.step hb); have BX0_13 := Lib.hid (BX0_12.out.step hb); have BX1_13 := Lib.hid (BX1_12.out.step hb); have X0_13 := Lib.hid (X0_12.out.step hb); have XB0_13 := Lib.hid (XB0_12.out.step hb); have X1_13 := Lib.hid (X1_12.out.step hb); have XB1_13 := Lib.hid (XB1_12.out.step hb); obtain ⟨q2, q2b⟩ := XB1_13.out.it; obtain ⟨r2, r2b⟩ := BX1_13.out.it; clear hn hown hb' hb)
      | (go_at_call 15; refine (laws_eqHistory B9 B13 m9 d9 m13 d13 st1 st1 _ w13.heap.size (Nat.le_refl _) M9.out M13.out X1_13.out.hist C13.out HEG1.out HEG1.out).mono ?_; rintro e w14 ⟨rfl, hb⟩; have S_14 := Lib.hid (S_13.out.step hb); have Bl_14 := Lib.hid (Bl_13.out.step hb); have BX0_14 := Lib.hid (BX0_13.out.step hb); have BX1_14 := Lib.hid (BX1_13.out.step hb); have X0_14 := Lib.hid (X0_13.out.step hb); have XB0_14 := Lib.hid (XB0_13.out.step hb); have X1_14 := Lib.hid (X1_13.out.step hb); have XB1_14 := Lib.hid (XB1_13.out.step hb)))
    all_goals
      clear hb q qb r rb q2 q2b r2 r2b hle M13 C13 S_13 Bl_13 BX0_13 BX1_13 X0_13 XB0_13 X1_13 XB1_13 S_12 Bl_12 BX0_12 BX1_12 X0_12 XB0_12 X1_12 XB1_12
      go_wp2
      go_ret
      exact ⟨rfl, Bl_14.out⟩
end Go.Proofs.Ytlliomnfbgdpfaa
