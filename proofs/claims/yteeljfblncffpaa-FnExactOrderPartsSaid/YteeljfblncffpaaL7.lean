/- laws.FnExactOrderParts returns true for every formula. -/
import Derived.Test.YteeljfblncffpaaLW
import Derived.Test.YteeljfblncffpaaLF
import Derived.Test.YteeljfblncffpaaA24
namespace Go.Proofs.Yteeljfblncffpaa
set_option linter.unusedSimpArgs false
set_option linter.unusedVariables false
open Go.RowKit

theorem orderF_len (ps : List Pt) : (orderF ps).length ≤ 1000000 := by
  unfold orderF
  cases hc : validF ps
  · simp
  · obtain ⟨_, _, h12⟩ := validF_good ps hc
    simp only [if_true]
    rw [Tm.post_len]
    exact size_whole ps h12

set_option maxRecDepth 100000 in
set_option maxHeartbeats 6400000 in
theorem law_OrderParts (A : Option Addr) (n c : Nat) (ps : List Pt) (w : World) (hn : n = ps.length) (h : PS w w.heap.size A ps) (hm : n ≤ 9223372036854775807) :
    Calls Try.prog 8 #[.agg #[.slice A n c]] w fun e w' => e = .returned (.bool true) ∧ Below w.heap.size w w' := by
  by_cases hs : 1048576 < n
  · have HC : ∀ w : World, Calls Try.prog 12 #[.agg #[.slice A n c], .int .i64 1048576] w fun e w' => e = .returned (.int .i64 (-1)) ∧ Below w.heap.size w w' := fun w => by
      have := laws_szFormula A n c 1048576 w (by omega) (by omega) hm
      rwa [if_pos (by omega)] at this
    have HH := Lib.hid HC
    clear HC h hn hs
    go_enter Try.func8, Try.ntmps8
    go_wp2_with fail
    refine (HH.out _).mono ?_
    rintro e w1 ⟨rfl, hb⟩
    go_wp2
    go_ret
    exact ⟨rfl, ((Below.refl _ _).alloc (Nat.le_refl _) _).trans (hb.mono (by simp))⟩
  have hl0 : (0 : Int) ≤ 1048576 - n := by omega
  have HC : ∀ w : World, Calls Try.prog 12 #[.agg #[.slice A n c], .int .i64 1048576] w fun e w' => e = .returned (.int .i64 (1048576 - n)) ∧ Below w.heap.size w w' := fun w => by
    have := laws_szFormula A n c 1048576 w (by omega) (by omega) hm
    rwa [if_neg (by omega)] at this
  have HH := Lib.hid HC
  have S0 := Lib.hid (LS.start (n := n) (c := c) h (IS.nil w w.heap.size none) 24)
  have HN := Lib.hid hn
  have hfl := orderF_len ps
  have HSP := Lib.hid (fun (A : Option Addr) (n c : Nat) (hn : n = ps.length) (hs : n ≤ 1999999) (w : World) (h : PS w w.heap.size A ps) => spec_OrderParts A n c ps w w.heap.size (Nat.le_refl _) hn h hs)
  have HIM := Lib.hid (fun (A : Option Addr) (n c : Nat) (hn : n = ps.length) (hs : n ≤ 1999999) (w : World) (h : PS w w.heap.size A ps) => impl_OrderParts A n c ps w w.heap.size (Nat.le_refl _) hn h hs)
  generalize orderF ps = F at *
  clear HC hn h
  go_enter Try.func8, Try.ntmps8
  go_wp2_with fail
  refine (HH.out _).mono ?_
  rintro e w1 ⟨rfl, hb1⟩
  have S1 := Lib.hid (S0.out.step hb1)
  have q1 := S1.out.box
  clear hb1 S0
  go_wp2_with fail
  refine (laws_toFormula A n c ps _ w.heap.size (Nat.le_of_lt S1.out.lt) HN.out S1.out.parts (by omega)).mono ?_
  rintro e w2 ⟨A2, n2, c2, rfl, hn2, hown2, hb2⟩
  have S2 := Lib.hid (S1.out.step hb2)
  have F2 := Lib.hid (PS.of_own hown2)
  have N2 := Lib.hid hn2
  clear hn2 hown2 hb2 q1 S1
  go_wp2_with fail
  refine (HSP.out A2 n2 c2 N2.out (by have := HN.out; have := N2.out; omega) w2 F2.out).mono ?_
  rintro e w3 ⟨v3, rfl, hown3, hb3⟩
  obtain ⟨A3, c3, rfl⟩ := own_form hown3
  have hs2 := S2.out.lt
  have hs23 := hb3.size
  have V3 := Lib.hid ((Ow.start hown3).alloc (.cells #[.slice A3 F.length c3] 29))
  have W3 := Lib.hid (Bx.start (v := .slice A3 F.length c3) (wk := w3) 29)
  have S3 := Lib.hid ((S2.out.step hb3).alloc (.cells #[.slice A3 F.length c3] 29))
  have q3 := S3.out.box
  clear hb3 S2 F2 hown3
  go_wp2_with fail
  refine (laws_toFormula A n c ps _ w.heap.size (Nat.le_of_lt S3.out.lt) HN.out S3.out.parts (by omega)).mono ?_
  rintro e w4 ⟨A4, n4, c4, rfl, hn4, hown4, hb4⟩
  have hs34 : w3.heap.size + 1 ≤ w4.heap.size := by have := hb4.size; simpa using this
  simp only [World.size_alloc] at hown4
  have S4 := Lib.hid ((S3.out.step hb4).alloc (.cells #[.slice A4 n4 c4] 29))
  have V4 := Lib.hid ((V3.out.step hb4).alloc (.cells #[.slice A4 n4 c4] 29))
  have W4 := Lib.hid ((W3.out.step hb4).step (below_new w4 (.cells #[.slice A4 n4 c4] 29)))
  have X4 := Lib.hid ((Ow.start hown4).alloc (.cells #[.slice A4 n4 c4] 29))
  have B4 := Lib.hid (Bx.start (v := .slice A4 n4 c4) (wk := w4) 29)
  have N4 := Lib.hid hn4
  clear hn4 hown4 hb4 q3 S3 V3 W3
  go_wp2_with fail
  refine (HIM.out A4 n4 c4 N4.out (by have := HN.out; have := N4.out; omega) _ X4.out.parts).mono ?_
  rintro e w5 ⟨v5, rfl, hown5, hb5⟩
  obtain ⟨A5, c5, rfl⟩ := own_form hown5
  simp only [World.size_alloc] at hown5
  have hs45 : w4.heap.size + 1 ≤ w5.heap.size := by have := hb5.size; simpa using this
  have M5 := Lib.hid (LF.mk ((S4.out.step hb5).alloc (.cells #[.slice A5 F.length c5] 29)) ((V4.out.step hb5).alloc (.cells #[.slice A5 F.length c5] 29)) ((W4.out.step hb5).step (below_new w5 (.cells #[.slice A5 F.length c5] 29))) ((X4.out.step hb5).alloc (.cells #[.slice A5 F.length c5] 29)) ((B4.out.step hb5).step (below_new w5 (.cells #[.slice A5 F.length c5] 29))) ((Ow.none (lo := w4.heap.size + 1) (hi := w4.heap.size + 1) hs45).alloc (.cells #[.slice A5 F.length c5] 29)) ((Ow.start hown5).alloc (.cells #[.slice A5 F.length c5] 29)) (Bx.start (v := .slice A5 F.length c5) (wk := w5) 29) ⟨hs2, hs23, hs34, Nat.lt_succ_self _, hs45⟩)
  clear hown5 hb5 S4 V4 X4 B4 W4
  generalize hl : F.length = l at *
  have HL := Lib.hid hl.symm
  clear hl
  have ht : decide (ps = ps) = true := by simp
  have ht3 : decide (F = F) = true := by simp
  have g5 := M5.out.BG.box
  have v5 := M5.out.BV.box
  go_wp2_with fail
  refine (laws_eqFormula _ _ l l _ _ F F _ _ (Nat.le_refl _) HL.out HL.out M5.out.G.parts M5.out.V.parts (by omega) (by omega)).mono ?_
  rintro e w6 ⟨rfl, hb6⟩
  have M6 := Lib.hid (M5.out.step hb6)
  have q6 := M6.out.B.box
  have r6 := M6.out.S.box
  have lt6 := M6.out.S.lt
  clear hb6 M5 g5 v5
  go_wp2
  go_region_with (first
    | (go_at_call 14; refine (laws_toFormula A n c ps _ w.heap.size ?_ HN.out ?_ ?_).mono ?_; (exact Nat.le_of_lt lt6); exact M6.out.S.parts; omega; rintro e w7 ⟨A7, n7, c7, rfl, hn7, hown7, hb7'⟩; have hb7 : Below w6.heap.size w6 w7 := below_of_drew hb7'; have N7 := Lib.hid hn7; have F7 := Lib.hid (PS.of_own hown7); have M7 := Lib.hid (M6.out.step hb7); have q7 := M7.out.B.box; have r7 := M7.out.S.box; clear hn7 hown7 hb7')
    | (go_at_call 16; refine (laws_eqFormula A4 A7 n4 n7 c4 c7 ps ps _ w7.heap.size (Nat.le_refl _) N4.out N7.out M7.out.X.parts F7.out ?_ ?_).mono ?_; (have := HN.out; have := N4.out; omega); (have := HN.out; have := N7.out; omega); rintro e w8 ⟨rfl, hb8⟩; have M8 := Lib.hid (M7.out.step hb8)))
  all_goals
    clear hb7 hb8 q6 r6 q7 r7 lt6 M7 M6 F7 N7
    have q8 := M8.out.B.box
    have hn4 : n4 ≤ 1048576 := by have := HN.out; have := N4.out; omega
    go_wp2_with fail
    refine (laws_markFormula _ n4 _ _ 1 _ M8.out.X.row (by decide) (by decide) (by omega)).mono ?_
    intro e w9 hm9
    obtain ⟨k9, hk9⟩ : ∃ k9 : Int, k9 = 1 + ((n4 * 5 : Nat) : Int) := ⟨_, rfl⟩
    have he9 := hm9.1
    rw [← hk9] at he9
    have M9 := Lib.hid (M8.out.markX hm9)
    clear hm9 M8 q8
    subst he9
    have hk9a : 1 ≤ k9 := by omega
    clear hk9
    have g9 := M9.out.BG.box
    have v9 := M9.out.BV.box
    go_wp2_with fail
    refine (laws_eqFormula _ _ l l _ _ F F _ w9.heap.size (Nat.le_refl _) HL.out HL.out M9.out.G.parts M9.out.V.parts (by omega) (by omega)).mono ?_
    rintro e w10 ⟨rfl, hb10⟩
    have M10 := Lib.hid (M9.out.step hb10)
    clear hb10 M9 g9 v9
    have g10 := M10.out.BG.box
    go_wp2_with fail
    refine (laws_markFormula _ l _ _ 1 _ M10.out.G.row (by decide) (by decide) (by omega)).mono ?_
    intro e w11 hm11
    obtain ⟨k11, hk11⟩ : ∃ k11 : Int, k11 = 1 + ((l * 5 : Nat) : Int) := ⟨_, rfl⟩
    have he11 := hm11.1
    rw [← hk11] at he11
    have M11 := Lib.hid (M10.out.markG hm11)
    have HK := Lib.hid hk11
    clear hm11 M10 g10
    subst he11
    have hk11a : 1 ≤ k11 := by omega
    clear hk11
    have g11 := M11.out.BG.box
    go_wp2_with fail
    refine (laws_heldFormula _ l _ 1 _ M11.out.G.row (by decide) (by decide) (by omega)).mono ?_
    rintro e w12 ⟨rfl, hb12⟩
    have M12 := Lib.hid (M11.out.step hb12)
    have q12 := M12.out.S.box
    clear hb12 M11 g11
    rw [← HK.out]
    have hnn : (k11 != k11) = false := by simp
    go_wp2_with fail
    refine (laws_toFormula A n c ps _ w.heap.size (Nat.le_of_lt M12.out.S.lt) HN.out M12.out.S.parts (by omega)).mono ?_
    rintro e w13 ⟨A13, n13, c13, rfl, hn13, hown13, hb13⟩
    have M13 := Lib.hid (M12.out.step hb13)
    have F13 := Lib.hid (PS.of_own hown13)
    have N13 := Lib.hid hn13
    clear hn13 hown13 hb13 q12 M12
    go_wp2_with fail
    refine (HIM.out A13 n13 c13 N13.out (by have := HN.out; have := N13.out; omega) w13 F13.out).mono ?_
    rintro e w14 ⟨v14, rfl, hown14, hb14⟩
    obtain ⟨A14, c14, rfl⟩ := own_form hown14
    rw [← HL.out] at hown14
    have M14 := Lib.hid ((M13.out.step hb14).alloc (.cells #[.slice A14 l c14] 29))
    have I14 := Lib.hid ((PS.of_own hown14).step (below_new w14 (.cells #[.slice A14 l c14] 29)))
    clear hown14 hb14 M13 F13
    have v14 := M14.out.BV.box
    rw [← HL.out]
    go_wp2_with fail
    refine (laws_eqFormula _ _ l l _ _ F F _ _ (Nat.le_refl _) HL.out HL.out I14.out M14.out.V.parts (by omega) (by omega)).mono ?_
    rintro e w15 ⟨rfl, hb15⟩
    have M15 := Lib.hid (M14.out.step hb15)
    clear hb15 M14 I14 v14
    have g15 := M15.out.BG.box
    go_wp2_with fail
    refine (laws_heldFormula _ l _ 1 _ M15.out.G.row (by decide) (by decide) (by omega)).mono ?_
    rintro e w16 ⟨rfl, hb16⟩
    have S16 := Lib.hid ((M15.out.step hb16).S)
    clear hb16 M15 g15
    rw [← HK.out]
    go_wp2
    go_ret
    exact ⟨rfl, S16.out.bel⟩
end Go.Proofs.Yteeljfblncffpaa
