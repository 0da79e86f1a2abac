/- laws.FnExactReadsOf returns true for every formula and every list. -/
import Derived.Test.YteeljfblncffpaaLW
import Derived.Test.YteeljfblncffpaaLV
import Derived.Test.YteeljfblncffpaaA19
namespace Go.Proofs.Yteeljfblncffpaa
set_option linter.unusedSimpArgs false
set_option linter.unusedVariables false
open Go.RowKit

theorem readF_len (ps : List Pt) (vs : List Int) : (readF ps vs).length ≤ 1000000 := by
  unfold readF
  cases hc : canEv ps vs
  · simp
  · obtain ⟨hv, _⟩ := canEv_parts ps vs hc
    obtain ⟨hg, h1, h12⟩ := validF_good ps hv
    exact Nat.le_trans (firsts_len _) (by have := rds_whole ps vs h12; omega)

set_option maxRecDepth 100000 in
set_option maxHeartbeats 6400000 in
theorem law_ReadsOf (A A' : Option Addr) (n c m c' : Nat) (ps : List Pt) (vs : List Int) (w : World) (hn : n = ps.length) (hv : m = vs.length) (h : PS w w.heap.size A ps) (h' : IS w w.heap.size A' vs) (hm : n ≤ 9223372036854775807) (hm' : m ≤ 9223372036854775807) :
    Calls Try.prog 5 #[.agg #[.slice A n c], .slice A' m c'] w fun e w' => e = .returned (.bool true) ∧ Below w.heap.size w w' := by
  by_cases hs' : 1048576 < m
  · clear h h' hn hv
    go_enter Try.func5, Try.ntmps5
    go_wp2
    go_ret
    exact ⟨rfl, (Below.refl _ _).alloc (Nat.le_refl _) _⟩
  by_cases hs : 1048576 < n
  · have HC : ∀ w : World, Calls Try.prog 12 #[.agg #[.slice A n c], .int .i64 1048576] w fun e w' => e = .returned (.int .i64 (-1)) ∧ Below w.heap.size w w' := fun w => by
      have := laws_szFormula A n c 1048576 w (by omega) (by omega) hm
      rwa [if_pos (by omega)] at this
    have HH := Lib.hid HC
    clear HC h h' hn hv hs
    go_enter Try.func5, Try.ntmps5
    go_wp2_with fail
    refine (HH.out _).mono ?_
    rintro e w1 ⟨rfl, hb⟩
    go_wp2
    go_ret
    exact ⟨rfl, ((Below.refl _ _).alloc (Nat.le_refl _) _).trans (hb.mono (by simp))⟩
  have hl0 : (0 : Int) ≤ 1048576 - n := by omega
  have HC : ∀ w : World, Calls Try.prog 12 #[.agg #[.slice A n c], .int .i64 1048576] w fun e w' => e = .returned (.int .i64 (1048576 - n)) ∧ Below w.heap.size w w' := fun w => by
    have := laws_szFormula A n c 1048576 w (by omega) (by omega) hm
    rwa [if_neg (by omega)] at this
  have HH := Lib.hid HC
  have S0 := Lib.hid (LS.start (n := n) (c := c) h h' 24)
  have HN := Lib.hid hn
  have HV := Lib.hid hv
  clear HC hn hv h h'
  go_enter Try.func5, Try.ntmps5
  go_wp2_with fail
  refine (HH.out _).mono ?_
  rintro e w1 ⟨rfl, hb1⟩
  have S1 := Lib.hid (S0.out.step hb1)
  have q1 := S1.out.box
  clear hb1 S0
  go_wp2_with fail
  refine (laws_toFormula A n c ps _ w.heap.size (Nat.le_of_lt S1.out.lt) HN.out S1.out.parts (by omega)).mono ?_
  rintro e w2 ⟨A2, n2, c2, rfl, hn2, hown2, hb2⟩
  have S2 := Lib.hid (S1.out.step hb2)
  have F2 := Lib.hid (PS.of_own hown2)
  have N2 := Lib.hid hn2
  clear hn2 hown2 hb2 q1 S1
  go_wp2_with fail
  refine (laws_toIntS A' m c' vs _ w.heap.size (Nat.le_of_lt S2.out.lt) HV.out S2.out.ints (by omega)).mono ?_
  rintro e w3 ⟨rfl, hown3, hb3⟩
  have S3 := Lib.hid (S2.out.step hb3)
  have F3 := Lib.hid (F2.out.step hb3)
  have I3 := Lib.hid (IS.of_own hown3)
  clear hown3 hb3 S2 F2
  go_wp2_with fail
  refine (spec_ReadsOf A2 _ n2 c2 m _ ps vs w3.heap.size N2.out HV.out (by have := HN.out; have := N2.out; omega) (by omega) _ (Nat.le_refl _) F3.out I3.out).mono ?_
  rintro e w4 ⟨v4, rfl, hown4, hb4⟩
  have hfl := readF_len ps vs
  have HIM := Lib.hid (fun (A : Option Addr) (n c c' : Nat) (g : Nat) (hn : n = ps.length) (hs : n ≤ 1999999) (w : World) (h : PS w w.heap.size A ps) (h' : IS w w.heap.size (some ⟨g, 0, none⟩) vs) => impl_ReadsOf A (some ⟨g, 0, none⟩) n c m c' ps vs w.heap.size hn HV.out hs (by omega) w (Nat.le_refl _) h h')
  generalize readF ps vs = F at *
  obtain ⟨A4, c4, rfl⟩ := own_form hown4
  have hs3 := S3.out.lt
  have hs34 := hb4.size
  have V4 := Lib.hid (Ow.start hown4)
  have S4 := Lib.hid (S3.out.step hb4)
  have q4 := S4.out.box
  clear hb4 S3 F3 I3 hown4
  go_wp2_with fail
  refine (laws_toFormula A n c ps _ w.heap.size (Nat.le_of_lt S4.out.lt) HN.out S4.out.parts (by omega)).mono ?_
  rintro e w5 ⟨A5, n5, c5, rfl, hn5, hown5, hb5⟩
  have hs45 := hb5.size
  have S5 := Lib.hid ((S4.out.step hb5).alloc (.cells #[.slice A5 n5 c5] 29))
  have V5 := Lib.hid ((V4.out.step hb5).alloc (.cells #[.slice A5 n5 c5] 29))
  have X5 := Lib.hid ((Ow.start hown5).alloc (.cells #[.slice A5 n5 c5] 29))
  have B5 := Lib.hid (Bx.start (v := .slice A5 n5 c5) (wk := w5) 29)
  have N5 := Lib.hid hn5
  clear hn5 hown5 hb5 q4 S4 V4
  go_wp2_with fail
  refine (laws_toIntS A' m c' vs _ w.heap.size (Nat.le_of_lt S5.out.lt) HV.out S5.out.ints (by omega)).mono ?_
  rintro e w6 ⟨rfl, hown6, hb6⟩
  simp only [World.size_alloc] at hown6
  have hs56 : w5.heap.size < w6.heap.size := by have := hb6.size; simp at this; omega
  have S6 := Lib.hid (S5.out.step hb6)
  have V6 := Lib.hid (V5.out.step hb6)
  have X6 := Lib.hid (X5.out.step hb6)
  have B6 := Lib.hid (B5.out.step hb6)
  have Y6 := Lib.hid (Ow.start hown6)
  have q6 := B6.out.box
  clear hown6 hb6 S5 V5 X5 B5
  go_wp2_with fail
  refine (HIM.out A5 n5 c5 _ _ N5.out (by have := HN.out; have := N5.out; omega) w6 X6.out.parts Y6.out.ints).mono ?_
  rintro e w7 ⟨v7, rfl, hown7, hb7⟩
  obtain ⟨A7, c7, rfl⟩ := own_form hown7
  have M7 := Lib.hid (LM.mk (S6.out.step hb7) (V6.out.step hb7) (X6.out.step hb7) (B6.out.step hb7) (Y6.out.step hb7) (Ow.start hown7) ⟨hs3, hs34, hs45, hs56, hb7.size⟩)
  clear hown7 hb7 q6 S6 V6 X6 B6 Y6
  generalize hl : F.length = l at *
  have HL := Lib.hid hl.symm
  clear hl
  have ht : decide (ps = ps) = true := by simp
  have ht2 : decide (vs = vs) = true := by simp
  have ht3 : decide (F = F) = true := by simp
  go_wp2_with fail
  refine (laws_eqIntS _ _ l l _ _ F F _ w7.heap.size (Nat.le_refl _) HL.out HL.out M7.out.G.ints M7.out.V.ints (by omega) (by omega)).mono ?_
  rintro e w8 ⟨rfl, hb8⟩
  have M8 := Lib.hid (M7.out.step hb8)
  have q8 := M8.out.B.box
  have r8 := M8.out.S.box
  have lt8 := M8.out.S.lt
  clear hb8 M7
  go_wp2
  go_region_with (first
    | (go_at_call 14; refine (laws_toFormula A n c ps _ w.heap.size ?_ HN.out ?_ ?_).mono ?_; (exact Nat.le_of_lt lt8); exact M8.out.S.parts; omega; rintro e w9 ⟨A9, n9, c9, rfl, hn9, hown9, hb9'⟩; have hb9 : Below w8.heap.size w8 w9 := below_of_drew hb9'; have N9 := Lib.hid hn9; have F9 := Lib.hid (PS.of_own hown9); have M9 := Lib.hid (M8.out.step hb9); have q9 := M9.out.B.box; have r9 := M9.out.S.box; clear hn9 hown9 hb9')
    | (go_at_call 16; refine (laws_eqFormula A5 A9 n5 n9 c5 c9 ps ps _ w9.heap.size (Nat.le_refl _) N5.out N9.out M9.out.X.parts F9.out ?_ ?_).mono ?_; (have := HN.out; have := N5.out; omega); (have := HN.out; have := N9.out; omega); rintro e w10 ⟨rfl, hb10⟩; have M10 := Lib.hid (M9.out.step hb10)))
  all_goals
    clear hb9 hb10 q8 r8 q9 r9 lt8 M9 M8 F9 N9
    go_wp2_with fail
    refine (laws_toIntS A' m c' vs _ w.heap.size (Nat.le_of_lt M10.out.S.lt) HV.out M10.out.S.ints (by omega)).mono ?_
    rintro e w11 ⟨rfl, hown11, hb11⟩
    have M11 := Lib.hid (M10.out.step hb11)
    have Z11 := Lib.hid (IS.of_own hown11)
    clear hown11 hb11 M10
    go_wp2_with fail
    refine (laws_eqIntS _ _ m m _ _ vs vs _ w11.heap.size (Nat.le_refl _) HV.out HV.out M11.out.Y.ints Z11.out (by omega) (by omega)).mono ?_
    rintro e w12 ⟨rfl, hb12⟩
    have M12 := Lib.hid (M11.out.step hb12)
    have q12 := M12.out.B.box
    clear hb12 M11 Z11
    have hn5 : n5 ≤ 1048576 := by have := HN.out; have := N5.out; omega
    go_wp2_with fail
    refine (laws_markFormula _ n5 _ _ 1 _ M12.out.X.row (by decide) (by decide) (by omega)).mono ?_
    intro e w13 hm13
    obtain ⟨k13, hk13⟩ : ∃ k13 : Int, k13 = 1 + ((n5 * 5 : Nat) : Int) := ⟨_, rfl⟩
    have he13 := hm13.1
    rw [← hk13] at he13
    have M13 := Lib.hid (M12.out.markX hm13)
    clear hm13 M12 q12
    subst he13
    have hk13a : 1 ≤ k13 := by omega
    have hk13b : k13 ≤ 10000000 := by omega
    clear hk13
    go_wp2_with fail
    refine (laws_markIntS _ m _ _ k13 _ M13.out.Y.row (by omega) (by omega) (by omega)).mono ?_
    intro e w14 hm14
    obtain ⟨k14, hk14⟩ : ∃ k14 : Int, k14 = k13 + ((m * 1 : Nat) : Int) := ⟨_, rfl⟩
    have he14 := hm14.1
    rw [← hk14] at he14
    have M14 := Lib.hid (M13.out.markY hm14)
    clear hm14 M13
    subst he14
    have hk14a : 1 ≤ k14 := by omega
    clear hk14
    go_wp2_with fail
    refine (laws_eqIntS _ _ l l _ _ F F _ w14.heap.size (Nat.le_refl _) HL.out HL.out M14.out.G.ints M14.out.V.ints (by omega) (by omega)).mono ?_
    rintro e w15 ⟨rfl, hb15⟩
    have M15 := Lib.hid (M14.out.step hb15)
    clear hb15 M14
    go_wp2_with fail
    refine (laws_markIntS _ l _ _ 1 _ M15.out.G.row (by decide) (by decide) (by omega)).mono ?_
    intro e w16 hm16
    have he16 := hm16.1
    rw [Nat.mul_one] at he16
    have M16a := M15.out.markG hm16
    simp only [Nat.mul_one] at M16a
    have M16 := Lib.hid M16a
    clear hm16 M15 M16a
    subst he16
    go_wp2_with fail
    refine (laws_heldIntS _ l _ 1 _ M16.out.G.row (by decide) (by decide) (by omega)).mono ?_
    rintro e w17 ⟨rfl, hb17⟩
    have M17 := Lib.hid (M16.out.step hb17)
    have q17 := M17.out.S.box
    clear hb17 M16
    have hnn : ((1 : Int) + (l : Int) != 1 + (l : Int)) = false := by simp
    go_wp2_with fail
    refine (laws_toFormula A n c ps _ w.heap.size (Nat.le_of_lt M17.out.S.lt) HN.out M17.out.S.parts (by omega)).mono ?_
    rintro e w18 ⟨A18, n18, c18, rfl, hn18, hown18, hb18⟩
    have M18 := Lib.hid (M17.out.step hb18)
    have F18 := Lib.hid (PS.of_own hown18)
    have N18 := Lib.hid hn18
    clear hn18 hown18 hb18 q17 M17
    go_wp2_with fail
    refine (laws_toIntS A' m c' vs _ w.heap.size (Nat.le_of_lt M18.out.S.lt) HV.out M18.out.S.ints (by omega)).mono ?_
    rintro e w19 ⟨rfl, hown19, hb19⟩
    have M19 := Lib.hid (M18.out.step hb19)
    have F19 := Lib.hid (F18.out.step hb19)
    have I19 := Lib.hid (IS.of_own hown19)
    clear hown19 hb19 M18 F18
    go_wp2_with fail
    refine (HIM.out A18 n18 c18 _ _ N18.out (by have := HN.out; have := N18.out; omega) w19 F19.out I19.out).mono ?_
    rintro e w20 ⟨v20, rfl, hown20, hb20⟩
    obtain ⟨A20, c20, rfl⟩ := own_form hown20
    unfold OwnI at hown20
    rw [← HL.out] at hown20
    have M20 := Lib.hid (M19.out.step hb20)
    have I20 := Lib.hid (IS.of_own hown20)
    clear hown20 hb20 M19 F19 I19
    rw [← HL.out]
    go_wp2_with fail
    refine (laws_eqIntS _ _ l l _ _ F F _ w20.heap.size (Nat.le_refl _) HL.out HL.out I20.out M20.out.V.ints (by omega) (by omega)).mono ?_
    rintro e w21 ⟨rfl, hb21⟩
    have M21 := Lib.hid (M20.out.step hb21)
    clear hb21 M20 I20
    go_wp2_with fail
    refine (laws_heldIntS _ l _ 1 _ M21.out.G.row (by decide) (by decide) (by omega)).mono ?_
    rintro e w22 ⟨rfl, hb22⟩
    have S22 := Lib.hid ((M21.out.step hb22).S)
    clear hb22 M21
    go_wp2
    go_ret
    exact ⟨rfl, S22.out.bel⟩
end Go.Proofs.Yteeljfblncffpaa
