/- laws.FnExactRenameReads returns true for every formula and every list. -/
import Derived.Test.YteeljfblncffpaaLW
import Derived.Test.YteeljfblncffpaaLF
import Derived.Test.YteeljfblncffpaaA26
namespace Go.Proofs.Yteeljfblncffpaa
set_option linter.unusedSimpArgs false
set_option linter.unusedVariables false
open Go.RowKit

theorem renF_len (ps : List Pt) (to : List Int) : (renF ps to).length ≤ 1000000 := by
  unfold renF
  cases hc : canRen ps to
  · simp
  · obtain ⟨hv, _⟩ := canRen_parts ps to hc
    obtain ⟨_, _, h12⟩ := validF_good ps hv
    simp; omega

set_option maxRecDepth 100000 in
set_option maxHeartbeats 6400000 in
theorem law_RenameReads (A A' : Option Addr) (n c m c' : Nat) (ps : List Pt) (vs : List Int) (w : World) (hn : n = ps.length) (hv : m = vs.length) (h : PS w w.heap.size A ps) (h' : IS w w.heap.size A' vs) (hm : n ≤ 9223372036854775807) (hm' : m ≤ 9223372036854775807) :
    Calls Try.prog 9 #[.agg #[.slice A n c], .slice A' m c'] w fun e w' => e = .returned (.bool true) ∧ Below w.heap.size w w' := by
  by_cases hs' : 1048576 < m
  · clear h h' hn hv
    go_enter Try.func9, Try.ntmps9
    go_wp2
    go_ret
    exact ⟨rfl, (Below.refl _ _).alloc (Nat.le_refl _) _⟩
  by_cases hs : 1048576 < n
  · have HC : ∀ w : World, Calls Try.prog 12 #[.agg #[.slice A n c], .int .i64 1048576] w fun e w' => e = .returned (.int .i64 (-1)) ∧ Below w.heap.size w w' := fun w => by
      have := laws_szFormula A n c 1048576 w (by omega) (by omega) hm
      rwa [if_pos (by omega)] at this
    have HH := Lib.hid HC
    clear HC h h' hn hv hs
    go_enter Try.func9, Try.ntmps9
    go_wp2_with fail
    refine (HH.out _).mono ?_
    rintro e w1 ⟨rfl, hb⟩
    go_wp2
    go_ret
    exact ⟨rfl, ((Below.refl _ _).alloc (Nat.le_refl _) _).trans (hb.mono (by simp))⟩
  have hl0 : (0 : Int) ≤ 1048576 - n := by omega
  have HC : ∀ w : World, Calls Try.prog 12 #[.agg #[.slice A n c], .int .i64 1048576] w fun e w' => e = .returned (.int .i64 (1048576 - n)) ∧ Below w.heap.size w w' := fun w => by
    have := laws_szFormula A n c 1048576 w (by omega) (by omega) hm
    rwa [if_neg (by omega)] at this
  have HH := Lib.hid HC
  have S0 := Lib.hid (LS.start (n := n) (c := c) h h' 24)
  have HN := Lib.hid hn
  have HV := Lib.hid hv
  have hfl := renF_len ps vs
  have HSP := Lib.hid (fun (A A' : Option Addr) (n c c' : Nat) (hn : n = ps.length) (hs : n ≤ 1999999) (w : World) (h : PS w w.heap.size A ps) (h' : IS w w.heap.size A' vs) => spec_RenameReads A A' n c m c' ps vs w.heap.size hn hv hs (by omega) w (Nat.le_refl _) h h')
  have HIM := Lib.hid (fun (A A' : Option Addr) (n c c' : Nat) (hn : n = ps.length) (hs : n ≤ 1999999) (w : World) (h : PS w w.heap.size A ps) (h' : IS w w.heap.size A' vs) => impl_RenameReads A A' n c m c' ps vs w.heap.size hn hv hs (by omega) w (Nat.le_refl _) h h')
  generalize renF ps vs = F at *
  clear HC hn h h' hv
  go_enter Try.func9, Try.ntmps9
  go_wp2_with fail
  refine (HH.out _).mono ?_
  rintro e w1 ⟨rfl, hb1⟩
  have S1 := Lib.hid (S0.out.step hb1)
  have q1 := S1.out.box
  clear hb1 S0
  go_wp2_with fail
  refine (laws_toFormula A n c ps _ w.heap.size (Nat.le_of_lt S1.out.lt) HN.out S1.out.parts (by omega)).mono ?_
  rintro e w2 ⟨A2, n2, c2, rfl, hn2, hown2, hb2⟩
  have S2 := Lib.hid (S1.out.step hb2)
  have F2 := Lib.hid (PS.of_own hown2)
  have N2 := Lib.hid hn2
  clear hn2 hown2 hb2 q1 S1
  go_wp2_with fail
  refine (laws_toIntS A' m c' vs _ w.heap.size (Nat.le_of_lt S2.out.lt) HV.out S2.out.ints (by omega)).mono ?_
  rintro e w2a ⟨rfl, hown2a, hb2a⟩
  have S2a := Lib.hid (S2.out.step hb2a)
  have F2a := Lib.hid (F2.out.step hb2a)
  have I2a := Lib.hid (IS.of_own hown2a)
  clear hown2a hb2a S2 F2
  go_wp2_with fail
  refine (HSP.out A2 _ n2 c2 _ N2.out (by have := HN.out; have := N2.out; omega) w2a F2a.out I2a.out).mono ?_
  rintro e w3 ⟨v3, rfl, hown3, hb3⟩
  obtain ⟨A3, c3, rfl⟩ := own_form hown3
  have hs2 := S2a.out.lt
  have hs23 := hb3.size
  have V3 := Lib.hid ((Ow.start hown3).alloc (.cells #[.slice A3 F.length c3] 29))
  have W3 := Lib.hid (Bx.start (v := .slice A3 F.length c3) (wk := w3) 29)
  have S3 := Lib.hid ((S2a.out.step hb3).alloc (.cells #[.slice A3 F.length c3] 29))
  have q3 := S3.out.box
  clear hb3 S2a F2a I2a hown3
  go_wp2_with fail
  refine (laws_toFormula A n c ps _ w.heap.size (Nat.le_of_lt S3.out.lt) HN.out S3.out.parts (by omega)).mono ?_
  rintro e w4 ⟨A4, n4, c4, rfl, hn4, hown4, hb4⟩
  have hs34 : w3.heap.size + 1 ≤ w4.heap.size := by have := hb4.size; simpa using this
  simp only [World.size_alloc] at hown4
  have S4 := Lib.hid ((S3.out.step hb4).alloc (.cells #[.slice A4 n4 c4] 29))
  have V4 := Lib.hid ((V3.out.step hb4).alloc (.cells #[.slice A4 n4 c4] 29))
  have W4 := Lib.hid ((W3.out.step hb4).step (below_new w4 (.cells #[.slice A4 n4 c4] 29)))
  have X4 := Lib.hid ((Ow.start hown4).alloc (.cells #[.slice A4 n4 c4] 29))
  have B4 := Lib.hid (Bx.start (v := .slice A4 n4 c4) (wk := w4) 29)
  have N4 := Lib.hid hn4
  clear hn4 hown4 hb4 q3 S3 V3 W3
  go_wp2_with fail
  refine (laws_toIntS A' m c' vs _ w.heap.size (Nat.le_of_lt S4.out.lt) HV.out S4.out.ints (by omega)).mono ?_
  rintro e w4a ⟨rfl, hown4a, hb4a⟩
  simp only [World.size_alloc] at hown4a
  have hs44 : w4.heap.size < w4a.heap.size := by have := hb4a.size; simp at this; omega
  have S4a := Lib.hid (S4.out.step hb4a)
  have V4a := Lib.hid (V4.out.step hb4a)
  have W4a := Lib.hid (W4.out.step hb4a)
  have X4a := Lib.hid (X4.out.step hb4a)
  have B4a := Lib.hid (B4.out.step hb4a)
  have Y4a := Lib.hid (Ow.start hown4a)
  have q4a := B4a.out.box
  clear hown4a hb4a S4 V4 W4 X4 B4
  go_wp2_with fail
  refine (HIM.out A4 _ n4 c4 _ N4.out (by have := HN.out; have := N4.out; omega) w4a X4a.out.parts Y4a.out.ints).mono ?_
  rintro e w5 ⟨v5, rfl, hown5, hb5⟩
  obtain ⟨A5, c5, rfl⟩ := own_form hown5
  have M5 := Lib.hid (LF.mk ((S4a.out.step hb5).alloc (.cells #[.slice A5 F.length c5] 29)) ((V4a.out.step hb5).alloc (.cells #[.slice A5 F.length c5] 29)) ((W4a.out.step hb5).step (below_new w5 (.cells #[.slice A5 F.length c5] 29))) ((X4a.out.step hb5).alloc (.cells #[.slice A5 F.length c5] 29)) ((B4a.out.step hb5).step (below_new w5 (.cells #[.slice A5 F.length c5] 29))) ((Y4a.out.step hb5).alloc (.cells #[.slice A5 F.length c5] 29)) ((Ow.start hown5).alloc (.cells #[.slice A5 F.length c5] 29)) (Bx.start (v := .slice A5 F.length c5) (wk := w5) 29) ⟨hs2, hs23, hs34, hs44, hb5.size⟩)
  clear hown5 hb5 S4a V4a X4a B4a W4a Y4a q4a
  generalize hl : F.length = l at *
  have HL := Lib.hid hl.symm
  clear hl
  have ht : decide (ps = ps) = true := by simp
  have ht2 : decide (vs = vs) = true := by simp
  have ht3 : decide (F = F) = true := by simp
  have g5 := M5.out.BG.box
  have v5 := M5.out.BV.box
  go_wp2_with fail
  refine (laws_eqFormula _ _ l l _ _ F F _ _ (Nat.le_refl _) HL.out HL.out M5.out.G.parts M5.out.V.parts (by omega) (by omega)).mono ?_
  rintro e w6 ⟨rfl, hb6⟩
  have M6 := Lib.hid (M5.out.step hb6)
  have q6 := M6.out.B.box
  have r6 := M6.out.S.box
  have lt6 := M6.out.S.lt
  clear hb6 M5 g5 v5
  go_wp2
  go_region_with (first
    | (go_at_call 14; refine (laws_toFormula A n c ps _ w.heap.size ?_ HN.out ?_ ?_).mono ?_; (exact Nat.le_of_lt lt6); exact M6.out.S.parts; omega; rintro e w7 ⟨A7, n7, c7, rfl, hn7, hown7, hb7'⟩; have hb7 : Below w6.heap.size w6 w7 := below_of_drew hb7'; have N7 := Lib.hid hn7; have F7 := Lib.hid (PS.of_own hown7); have M7 := Lib.hid (M6.out.step hb7); have q7 := M7.out.B.box; have r7 := M7.out.S.box; clear hn7 hown7 hb7')
    | (go_at_call 16; refine (laws_eqFormula A4 A7 n4 n7 c4 c7 ps ps _ w7.heap.size (Nat.le_refl _) N4.out N7.out M7.out.X.parts F7.out ?_ ?_).mono ?_; (have := HN.out; have := N4.out; omega); (have := HN.out; have := N7.out; omega); rintro e w8 ⟨rfl, hb8⟩; have M8 := Lib.hid (M7.out.step hb8)))
  all_goals
    clear hb7 q6 r6 q7 r7 lt6 M7 M6 F7 N7
    go_wp2_with fail
    refine (laws_toIntS A' m c' vs _ w.heap.size (Nat.le_of_lt M8.out.S.lt) HV.out M8.out.S.ints (by omega)).mono ?_
    rintro e w8a ⟨rfl, hown8a, hb8a⟩
    have M8a := Lib.hid (M8.out.step hb8a)
    have Z8a := Lib.hid (IS.of_own hown8a)
    clear hown8a hb8a hb8 M8
    go_wp2_with fail
    refine (laws_eqIntS _ _ m m _ _ vs vs _ w8a.heap.size (Nat.le_refl _) HV.out HV.out M8a.out.Y.ints Z8a.out (by omega) (by omega)).mono ?_
    rintro e w8b ⟨rfl, hb8b⟩
    have M8 := Lib.hid (M8a.out.step hb8b)
    clear hb8b M8a Z8a
    have q8 := M8.out.B.box
    have hn4 : n4 ≤ 1048576 := by have := HN.out; have := N4.out; omega
    go_wp2_with fail
    refine (laws_markFormula _ n4 _ _ 1 _ M8.out.X.row (by decide) (by decide) (by omega)).mono ?_
    intro e w9 hm9
    obtain ⟨k9, hk9⟩ : ∃ k9 : Int, k9 = 1 + ((n4 * 5 : Nat) : Int) := ⟨_, rfl⟩
    have he9 := hm9.1
    rw [← hk9] at he9
    have M9 := Lib.hid (M8.out.markX hm9)
    clear hm9 M8 q8
    subst he9
    have hk9a : 1 ≤ k9 := by omega
    have hk9b : k9 ≤ 10000000 := by omega
    clear hk9
    go_wp2_with fail
    refine (laws_markIntS _ m _ _ k9 _ M9.out.Y.row (by omega) (by omega) (by omega)).mono ?_
    intro e w9a hm9a
    obtain ⟨k9a, hk9c⟩ : ∃ k9a : Int, k9a = k9 + ((m * 1 : Nat) : Int) := ⟨_, rfl⟩
    have he9a := hm9a.1
    rw [← hk9c] at he9a
    have M9a := Lib.hid (M9.out.markY hm9a)
    clear hm9a M9
    subst he9a
    have hk9d : 1 ≤ k9a := by omega
    clear hk9c
    have g9 := M9a.out.BG.box
    have v9 := M9a.out.BV.box
    go_wp2_with fail
    refine (laws_eqFormula _ _ l l _ _ F F _ w9a.heap.size (Nat.le_refl _) HL.out HL.out M9a.out.G.parts M9a.out.V.parts (by omega) (by omega)).mono ?_
    rintro e w10 ⟨rfl, hb10⟩
    have M10 := Lib.hid (M9a.out.step hb10)
    clear hb10 M9a g9 v9
    have g10 := M10.out.BG.box
    go_wp2_with fail
    refine (laws_markFormula _ l _ _ 1 _ M10.out.G.row (by decide) (by decide) (by omega)).mono ?_
    intro e w11 hm11
    obtain ⟨k11, hk11⟩ : ∃ k11 : Int, k11 = 1 + ((l * 5 : Nat) : Int) := ⟨_, rfl⟩
    have he11 := hm11.1
    rw [← hk11] at he11
    have M11 := Lib.hid (M10.out.markG hm11)
    have HK := Lib.hid hk11
    clear hm11 M10 g10
    subst he11
    have hk11a : 1 ≤ k11 := by omega
    clear hk11
    have g11 := M11.out.BG.box
    go_wp2_with fail
    refine (laws_heldFormula _ l _ 1 _ M11.out.G.row (by decide) (by decide) (by omega)).mono ?_
    rintro e w12 ⟨rfl, hb12⟩
    have M12 := Lib.hid (M11.out.step hb12)
    have q12 := M12.out.S.box
    clear hb12 M11 g11
    rw [← HK.out]
    have hnn : (k11 != k11) = false := by simp
    go_wp2_with fail
    refine (laws_toFormula A n c ps _ w.heap.size (Nat.le_of_lt M12.out.S.lt) HN.out M12.out.S.parts (by omega)).mono ?_
    rintro e w13 ⟨A13, n13, c13, rfl, hn13, hown13, hb13⟩
    have M13 := Lib.hid (M12.out.step hb13)
    have F13 := Lib.hid (PS.of_own hown13)
    have N13 := Lib.hid hn13
    clear hn13 hown13 hb13 q12 M12
    go_wp2_with fail
    refine (laws_toIntS A' m c' vs _ w.heap.size (Nat.le_of_lt M13.out.S.lt) HV.out M13.out.S.ints (by omega)).mono ?_
    rintro e w13a ⟨rfl, hown13a, hb13a⟩
    have M13a := Lib.hid (M13.out.step hb13a)
    have F13a := Lib.hid (F13.out.step hb13a)
    have I13a := Lib.hid (IS.of_own hown13a)
    clear hown13a hb13a M13 F13
    go_wp2_with fail
    refine (HIM.out A13 _ n13 c13 _ N13.out (by have := HN.out; have := N13.out; omega) w13a F13a.out I13a.out).mono ?_
    rintro e w14 ⟨v14, rfl, hown14, hb14⟩
    obtain ⟨A14, c14, rfl⟩ := own_form hown14
    rw [← HL.out] at hown14
    have M14 := Lib.hid ((M13a.out.step hb14).alloc (.cells #[.slice A14 l c14] 29))
    have I14 := Lib.hid ((PS.of_own hown14).step (below_new w14 (.cells #[.slice A14 l c14] 29)))
    clear hown14 hb14 M13a F13a I13a
    have v14 := M14.out.BV.box
    rw [← HL.out]
    go_wp2_with fail
    refine (laws_eqFormula _ _ l l _ _ F F _ _ (Nat.le_refl _) HL.out HL.out I14.out M14.out.V.parts (by omega) (by omega)).mono ?_
    rintro e w15 ⟨rfl, hb15⟩
    have M15 := Lib.hid (M14.out.step hb15)
    clear hb15 M14 I14 v14
    have g15 := M15.out.BG.box
    go_wp2_with fail
    refine (laws_heldFormula _ l _ 1 _ M15.out.G.row (by decide) (by decide) (by omega)).mono ?_
    rintro e w16 ⟨rfl, hb16⟩
    have S16 := Lib.hid ((M15.out.step hb16).S)
    clear hb16 M15 g15
    rw [← HK.out]
    go_wp2
    go_ret
    exact ⟨rfl, S16.out.bel⟩
end Go.Proofs.Yteeljfblncffpaa
