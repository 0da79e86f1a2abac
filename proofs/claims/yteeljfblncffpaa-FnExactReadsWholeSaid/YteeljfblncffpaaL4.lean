/- laws.FnExactReadsWhole returns true for every formula and every list. -/
import Derived.Test.YteeljfblncffpaaLW
import Derived.Test.YteeljfblncffpaaA19
namespace Go.Proofs.Yteeljfblncffpaa
set_option linter.unusedSimpArgs false
set_option linter.unusedVariables false
open Go.RowKit

set_option maxRecDepth 100000 in
set_option maxHeartbeats 3200000 in
theorem law_ReadsWhole (A A' : Option Addr) (n c m c' : Nat) (ps : List Pt) (vs : List Int) (w : World) (hn : n = ps.length) (hv : m = vs.length) (h : PS w w.heap.size A ps) (h' : IS w w.heap.size A' vs) (hm : n ≤ 9223372036854775807) (hm' : m ≤ 9223372036854775807) :
    Calls Try.prog 11 #[.agg #[.slice A n c], .slice A' m c'] w fun e w' => e = .returned (.bool true) ∧ Below w.heap.size w w' := by
  by_cases hs' : 1048576 < m
  · clear h h' hn hv
    go_enter Try.func11, Try.ntmps11
    go_wp2
    go_ret
    exact ⟨rfl, (Below.refl _ _).alloc (Nat.le_refl _) _⟩
  by_cases hs : 1048576 < n
  · have HC : ∀ w : World, Calls Try.prog 12 #[.agg #[.slice A n c], .int .i64 1048576] w fun e w' => e = .returned (.int .i64 (-1)) ∧ Below w.heap.size w w' := fun w => by
      have := laws_szFormula A n c 1048576 w (by omega) (by omega) hm
      rwa [if_pos (by omega)] at this
    have HH := Lib.hid HC
    clear HC h h' hn hv hs
    go_enter Try.func11, Try.ntmps11
    go_wp2_with fail
    refine (HH.out _).mono ?_
    rintro e w1 ⟨rfl, hb⟩
    go_wp2
    go_ret
    exact ⟨rfl, ((Below.refl _ _).alloc (Nat.le_refl _) _).trans (hb.mono (by simp))⟩
  have hl0 : (0 : Int) ≤ 1048576 - n := by omega
  have HC : ∀ w : World, Calls Try.prog 12 #[.agg #[.slice A n c], .int .i64 1048576] w fun e w' => e = .returned (.int .i64 (1048576 - n)) ∧ Below w.heap.size w w' := fun w => by
    have := laws_szFormula A n c 1048576 w (by omega) (by omega) hm
    rwa [if_neg (by omega)] at this
  have HH := Lib.hid HC
  have S0 := Lib.hid (LS.start (n := n) (c := c) h h' 24)
  have HN := Lib.hid hn
  have HV := Lib.hid hv
  clear HC hn hv h h'
  go_enter Try.func11, Try.ntmps11
  go_wp2_with fail
  refine (HH.out _).mono ?_
  rintro e w1 ⟨rfl, hb1⟩
  have S1 := Lib.hid (S0.out.step hb1)
  have q1 := S1.out.box
  clear hb1 S0
  go_wp2_with fail
  refine (laws_toFormula A n c ps _ w.heap.size (Nat.le_of_lt S1.out.lt) HN.out S1.out.parts (by omega)).mono ?_
  rintro e w2 ⟨A2, n2, c2, rfl, hn2, hown2, hb2⟩
  have S2 := Lib.hid (S1.out.step hb2)
  have F2 := Lib.hid (PS.of_own hown2)
  have N2 := Lib.hid hn2
  clear hn2 hown2 hb2 q1 S1
  go_wp2_with fail
  refine (laws_toIntS A' m c' vs _ w.heap.size (Nat.le_of_lt S2.out.lt) HV.out S2.out.ints (by omega)).mono ?_
  rintro e w3 ⟨rfl, hown3, hb3⟩
  have S3 := Lib.hid (S2.out.step hb3)
  have F3 := Lib.hid (F2.out.step hb3)
  have I3 := Lib.hid (IS.of_own hown3)
  clear hown3 hb3 S2 F2
  go_wp2_with fail
  refine (spec_ReadsWhole A2 _ n2 c2 m _ ps vs w3.heap.size N2.out HV.out (by have := HN.out; have := N2.out; omega) (by omega) _ (Nat.le_refl _) F3.out I3.out).mono ?_
  rintro e w4 ⟨rfl, hb4⟩
  have S4 := Lib.hid (S3.out.step hb4)
  have q4 := S4.out.box
  clear hb4 S3 F3 I3
  go_wp2_with fail
  refine (laws_toFormula A n c ps _ w.heap.size (Nat.le_of_lt S4.out.lt) HN.out S4.out.parts (by omega)).mono ?_
  rintro e w5 ⟨A5, n5, c5, rfl, hn5, hown5, hb5⟩
  have S5 := Lib.hid ((S4.out.step hb5).alloc (.cells #[.slice A5 n5 c5] 29))
  have X5 := Lib.hid (FB.start (n := n5) (c := c5) (PS.of_own hown5) 29)
  have N5 := Lib.hid hn5
  clear hn5 hown5 hb5 q4 S4
  go_wp2_with fail
  refine (laws_toIntS A' m c' vs _ w.heap.size (Nat.le_of_lt S5.out.lt) HV.out S5.out.ints (by omega)).mono ?_
  rintro e w6 ⟨rfl, hown6, hb6⟩
  simp only [World.size_alloc] at hown6
  have S6 := Lib.hid (S5.out.step hb6)
  have X6 := Lib.hid (X5.out.step hb6)
  have Y6 := Lib.hid (IS.of_own hown6)
  have q6 := X6.out.box
  clear hown6 hb6 S5 X5
  go_wp2_with fail
  refine (impl_ReadsWhole A5 _ n5 c5 m _ ps vs w6.heap.size N5.out HV.out (by have := HN.out; have := N5.out; omega) (by omega) _ (Nat.le_refl _) X6.out.parts Y6.out).mono ?_
  rintro e w7 ⟨rfl, hb7⟩
  have S7 := Lib.hid (S6.out.step hb7)
  have X7 := Lib.hid (X6.out.step hb7)
  have Y7 := Lib.hid (Y6.out.step hb7)
  have q7 := X7.out.box
  have r7 := S7.out.box
  have lt7 := X7.out.lt
  have lt7' := S7.out.lt
  clear hb7 q6 S6 X6 Y6
  generalize wholeF ps vs = bv at *
  have hbb : (bv != bv) = false := by simp
  go_wp2
  go_region_with (first
    | (go_at_call 14; refine (laws_toFormula A n c ps _ w.heap.size ?_ HN.out ?_ ?_).mono ?_; (exact Nat.le_of_lt lt7'); exact S7.out.parts; omega; rintro e w8 ⟨A8, n8, c8, rfl, hn8, hown8, hb8'⟩; have hb8 : Below w7.heap.size w7 w8 := below_of_drew hb8'; have N8 := Lib.hid hn8; have F8 := Lib.hid (PS.of_own hown8); have S8 := Lib.hid (S7.out.step hb8); have X8 := Lib.hid (X7.out.step hb8); have Y8 := Lib.hid (Y7.out.step hb8); have q8 := X8.out.box; have r8 := S8.out.box; clear hn8 hown8 hb8')
    | (go_at_call 16; refine (laws_eqFormula A5 A8 n5 n8 c5 c8 ps ps _ w8.heap.size (Nat.le_refl _) N5.out N8.out X8.out.parts F8.out ?_ ?_).mono ?_; (have := HN.out; have := N5.out; omega); (have := HN.out; have := N8.out; omega); rintro e w9 ⟨rfl, hb9⟩; have S9 := Lib.hid (S8.out.step hb9); have Y9 := Lib.hid (Y8.out.step hb9)))
  all_goals
    have ht : decide (ps = ps) = true := by simp
    have ht2 : decide (vs = vs) = true := by simp
    clear hb8 hb9 q7 r7 q8 r8
    go_wp2_with fail
    refine (laws_toIntS A' m c' vs _ w.heap.size (Nat.le_of_lt S9.out.lt) HV.out S9.out.ints (by omega)).mono ?_
    rintro e w10 ⟨rfl, hown10, hb10⟩
    have S10 := Lib.hid (S9.out.step hb10)
    have Y10 := Lib.hid (Y9.out.step hb10)
    have Z10 := Lib.hid (IS.of_own hown10)
    clear hown10 hb10
    go_wp2_with fail
    refine (laws_eqIntS _ _ m m _ _ vs vs _ w10.heap.size (Nat.le_refl _) HV.out HV.out Y10.out Z10.out (by omega) (by omega)).mono ?_
    rintro e w11 ⟨rfl, hb11⟩
    have S11 := Lib.hid (S10.out.step hb11)
    clear hb11
    go_wp2
    go_ret
    exact ⟨rfl, S11.out.bel⟩
end Go.Proofs.Yteeljfblncffpaa
