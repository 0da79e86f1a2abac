/- laws.FnExactDeepOf returns true for every formula, and writes nothing that was there. -/
import Derived.Test.YteeljfblncffpaaA9
import Derived.Deep.RegionWith
namespace Go.Proofs.Yteeljfblncffpaa
set_option linter.unusedSimpArgs false
set_option linter.unusedVariables false
open Go.RowKit

set_option maxRecDepth 100000 in
set_option maxHeartbeats 1600000 in
theorem law_DeepOf (A : Option Addr) (n c : Nat) (ps : List Pt) (w : World) (hn : n = ps.length) (h : PS w w.heap.size A ps) (hm : n ≤ 9223372036854775807) :
    Calls Try.prog 7 #[.agg #[.slice A n c]] w fun e w' => e = .returned (.bool true) ∧ Below w.heap.size w w' := by
  by_cases hs : 1048576 < n
  · have HC : ∀ w : World, Calls Try.prog 12 #[.agg #[.slice A n c], .int .i64 1048576] w fun e w' => e = .returned (.int .i64 (-1)) ∧ Below w.heap.size w w' := fun w => by
      have := laws_szFormula A n c 1048576 w (by omega) (by omega) hm
      rwa [if_pos (by omega)] at this
    have HH := Lib.hid HC
    clear HC hn h hs
    go_enter Try.func7, Try.ntmps7
    go_wp2_with fail
    refine (HH.out _).mono ?_
    rintro e w1 ⟨rfl, hb⟩
    go_wp2
    go_ret
    exact ⟨rfl, ((Below.refl _ _).alloc (Nat.le_refl _) _).trans (hb.mono (by simp))⟩
  · have hl0 : (0 : Int) ≤ 1048576 - n := by omega
    have HC : ∀ w : World, Calls Try.prog 12 #[.agg #[.slice A n c], .int .i64 1048576] w fun e w' => e = .returned (.int .i64 (1048576 - n)) ∧ Below w.heap.size w w' := fun w => by
      have := laws_szFormula A n c 1048576 w (by omega) (by omega) hm
      rwa [if_neg (by omega)] at this
    have HH := Lib.hid HC
    have H := Lib.hid h
    have HN := Lib.hid hn
    clear HC hn h
    go_enter Try.func7, Try.ntmps7
    go_wp2_with fail
    refine (HH.out _).mono ?_
    rintro e w1 ⟨rfl, hb1⟩
    obtain ⟨hc1, hf1⟩ := bcell hb1
    have hz1 : w.heap.size < w1.heap.size := by have := hb1.size; simp at this; omega
    have hP1 := (H.out.alloc (Nat.le_refl _) _).below hb1 (by simp)
    have q1 : w1.cell? ⟨w.heap.size, 0, none⟩ = some (.slice A n c) := by rw [hc1 _ _ (by simp)]; go_simp
    have hB1 : Below w.heap.size w w1 := ((Below.refl _ _).alloc (Nat.le_refl _) _).trans (hb1.mono (by simp))
    have HP1 := Lib.hid hP1
    clear hc1 hf1 hP1 hb1
    go_wp2_with fail
    refine (laws_toFormula A n c ps _ w.heap.size (by omega) HN.out HP1.out (by omega)).mono ?_
    rintro e w2 ⟨A2, n2, c2, rfl, hn2, hown2, hb2⟩
    have hP2 := PS.of_own hown2
    have HP2 := Lib.hid hP2
    have HN2 := Lib.hid hn2
    have HP1b := Lib.hid (HP1.out.below hb2 (by omega))
    have q2 : w2.cell? ⟨w.heap.size, 0, none⟩ = some (.slice A n c) := (hb2.cell (p := ⟨w.heap.size, 0, none⟩) hz1).trans q1
    have hz2 : w1.heap.size ≤ w2.heap.size := hb2.size
    clear hP2 hn2 hown2 q1
    go_wp2_with fail
    refine (spec_DeepOf A2 n2 c2 ps _ w2.heap.size (Nat.le_refl _) HN2.out HP2.out (by have := HN.out; have := HN2.out; omega)).mono ?_
    rintro e w3 ⟨rfl, hb3⟩
    have HP3 := Lib.hid (HP1b.out.below hb3 (by omega))
    have q3 : w3.cell? ⟨w.heap.size, 0, none⟩ = some (.slice A n c) := (hb3.cell (p := ⟨w.heap.size, 0, none⟩) (by simp; omega)).trans q2
    have hB3 : Below w.heap.size w w3 := (hB1.trans (hb2.mono (by omega))).trans (hb3.mono (by omega))
    have hz3 : w.heap.size < w3.heap.size := by have := hb3.size; omega
    clear q2 HP2 HP1 HP1b hb2 hb3 hB1 hz1 hz2
    go_wp2_with fail
    refine (laws_toFormula A n c ps _ w.heap.size (by omega) HN.out HP3.out (by omega)).mono ?_
    rintro e w4 ⟨A4, n4, c4, rfl, hn4, hown4, hb4⟩
    have HP4 := Lib.hid (PS.of_own hown4)
    have HN4 := Lib.hid hn4
    have HP4b := Lib.hid (HP3.out.below hb4 (by omega))
    have q4 : w4.cell? ⟨w.heap.size, 0, none⟩ = some (.slice A n c) := (hb4.cell (p := ⟨w.heap.size, 0, none⟩) (by simp; omega)).trans q3
    have hB4 : Below w.heap.size w w4 := hB3.trans (hb4.mono (by omega))
    have hz4 : w.heap.size < w4.heap.size := by have := hb4.size; omega
    clear q3 hn4 hown4 HP3 hb4 hB3 hz3
    go_wp2_with fail
    refine (impl_DeepOf A4 n4 c4 ps _ w4.heap.size (by simp) HN4.out (HP4.out.alloc (Nat.le_refl _) _) (by have := HN.out; have := HN4.out; omega)).mono ?_
    rintro e w5 ⟨rfl, hb5⟩
    have q5 : w5.cell? ⟨w.heap.size, 0, none⟩ = some (.slice A n c) := (hb5.cell (p := ⟨w.heap.size, 0, none⟩) (by simp; omega)).trans ((World.cell?_alloc_lt _ _ _ (by simpa using hz4)).trans q4)
    have x5 : w5.cell? ⟨w4.heap.size, 0, none⟩ = some (.slice A4 n4 c4) := (hb5.cell (p := ⟨w4.heap.size, 0, none⟩) (by simp)).trans (by go_simp)
    have HP5 := Lib.hid ((HP4b.out.alloc (by omega) _).below hb5 (by simp; omega))
    have HX5 := Lib.hid ((HP4.out.alloc (Nat.le_refl _) _).below hb5 (by simp))
    have hB5 : Below w.heap.size w w5 := (hB4.alloc (by omega) _).trans (hb5.mono (by simp; omega))
    have hz5 : w4.heap.size < w5.heap.size := by have := hb5.size; simp at this; omega
    clear q4 HP4 HP4b hb5 hB4
    generalize hv : deepF ps = v at *
    clear hv
    have hvv : (v != v) = false := by simp
    go_wp2
    go_region_with (first
        | (go_at_call 14; refine (laws_toFormula A n c ps _ w.heap.size ?_ HN.out ?_ ?_).mono ?_; (simp; omega); exact HP5.out; omega; rintro e w6 ⟨A6, n6, c6, rfl, hn6, hown6, hb6'⟩; have hb6 : Below w5.heap.size w5 w6 := below_of_drew hb6'; have HN6 := Lib.hid hn6; have HP6 := Lib.hid (PS.of_own hown6); have HX6 := Lib.hid (HX5.out.below hb6 (by omega)); have q6 : w6.cell? ⟨w.heap.size, 0, none⟩ = some (.slice A n c) := (hb6.cell (p := ⟨w.heap.size, 0, none⟩) (by simp; omega)).trans q5; have x6 : w6.cell? ⟨w4.heap.size, 0, none⟩ = some (.slice A4 n4 c4) := (hb6.cell (p := ⟨w4.heap.size, 0, none⟩) (by simp; omega)).trans x5; clear hn6 hown6 hb6')
        | (go_at_call 16; refine (laws_eqFormula A4 A6 n4 n6 c4 c6 ps ps _ w6.heap.size (Nat.le_refl _) HN4.out HN6.out (HX6.out.more ?_) HP6.out ?_ ?_).mono ?_; (have := hb6.size; omega); (have := HN.out; have := HN4.out; omega); (have := HN.out; have := HN6.out; omega); rintro e w7 ⟨rfl, hb7⟩))
    all_goals
      have ht : decide (ps = ps) = true := by simp
      go_wp2
      go_ret
      exact ⟨rfl, hB5.trans ((hb6.trans (hb7.mono hb6.size)).mono (by omega))⟩
end Go.Proofs.Yteeljfblncffpaa
