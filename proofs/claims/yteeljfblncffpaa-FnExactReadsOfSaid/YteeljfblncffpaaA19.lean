/- ReadsWhole: both sides. -/
import Derived.Test.YteeljfblncffpaaA18
import Derived.Deep.RegionWith
namespace Go.Proofs.Yteeljfblncffpaa
set_option linter.unusedSimpArgs false
set_option linter.unusedVariables false
open Go.RowKit

/-- What ReadsWhole answers. -/
def wholeF (ps : List Pt) (vs : List Int) : Bool := canEv ps vs && decide ((firsts ((whole ps).rds vs)).length = (mayR ps).length)

theorem int_eq_nat (a b : Nat) : ((a : Int) == (b : Int)) = decide (a = b) := by
  by_cases h : a = b
  · simp [h]
  · simp [h]; omega

set_option maxHeartbeats 800000 in
theorem spec_ReadsWhole (A A' : Option Addr) (n c m c' : Nat) (ps : List Pt) (vs : List Int) (B : Nat) (hn : n = ps.length) (hm : m = vs.length) (hs : n ≤ 1999999) (hs' : m ≤ 2000000) (w : World) (hB : B ≤ w.heap.size) (h : PS w B A ps) (h' : IS w B A' vs) :
    Calls Try.prog 37 #[.agg #[.slice A n c], .slice A' m c'] w fun e w' => e = .returned (.bool (wholeF ps vs)) ∧ Below w.heap.size w w' := by
  have H := Lib.hid h
  have HN := Lib.hid hn
  have H' := Lib.hid h'
  have HM := Lib.hid hm
  clear hn h hm h'
  cases hv : validF ps
  · have hc : canEv ps vs = false := by simp [canEv, hv]
    have hr : wholeF ps vs = false := by simp [wholeF, hc]
    rw [hr]
    have HV := Lib.hid hv
    clear hr hc hv
    go_enter Try.func37, Try.ntmps37
    go_wp2_with fail
    refine (spec_validFormula _ _ _ ps _ B (by simp; omega) HN.out (H.out.alloc hB _) (by omega)).mono ?_
    rintro e w1 ⟨rfl, hb⟩
    rw [HV.out]
    go_wp2
    go_ret
    exact ⟨rfl, ((Below.refl _ _).alloc (Nat.le_refl _) _).trans (hb.mono (by simp))⟩
  · have HE := Lib.hid (canEv_val ps vs hv)
    have HV := Lib.hid hv
    clear hv
    cases hc : canEv ps vs
    · have hr : wholeF ps vs = false := by simp [wholeF, hc]
      rw [hr]
      have HC := Lib.hid hc
      clear hr hc
      go_enter Try.func37, Try.ntmps37
      go_wp2_with fail
      refine (spec_validFormula _ _ _ ps _ B (by simp; omega) HN.out (H.out.alloc hB _) (by omega)).mono ?_
      rintro e w1 ⟨rfl, hb⟩
      rw [HV.out]
      have hz : w.heap.size + 1 ≤ w1.heap.size := by have := hb.size; simpa using this
      have hbox : w1.cell? ⟨w.heap.size, 0, none⟩ = some (.slice A n c) := (hb.cell (p := ⟨w.heap.size, 0, none⟩) (by simp)).trans (by go_simp)
      have HI1 := Lib.hid ((H'.out.alloc hB _).below hb (by simp; omega))
      have HP1 := Lib.hid ((H.out.alloc hB _).below hb (by simp; omega))
      go_wp2_with fail
      refine (spec_validValues _ _ _ _ _ _ ps vs _ B (by omega) HN.out HM.out HP1.out HI1.out (by omega) hs').mono ?_
      rintro e w2 ⟨rfl, hb2⟩
      rw [HE.out, HC.out]
      go_wp2
      go_ret
      exact ⟨rfl, ((Below.refl _ _).alloc (Nat.le_refl _) _).trans ((hb.trans (hb2.mono hb.size)).mono (by simp))⟩
    · have hr : wholeF ps vs = decide ((firsts ((whole ps).rds vs)).length = (mayR ps).length) := by simp [wholeF, hc]
      rw [hr]
      obtain ⟨hv, hvo, hm10, hea⟩ := canEv_parts ps vs hc
      obtain ⟨hg, h1, h12⟩ := validF_good ps hv
      have HRUN := Lib.hid (fun (w : World) => spec_run A A' n c m c' ps vs B HN.out HM.out hg (by rw [HM.out]; exact hea) hvo (by have := HN.out; omega) (by have := HN.out; omega) hs' w)
      have hfl : (firsts ((whole ps).rds vs)).length ≤ 1000000 := Nat.le_trans (firsts_len _) (by have := rds_whole ps vs h12; omega)
      have hml : (mayR ps).length ≤ 10 := mayR_len ps 10
      have HMR := Lib.hid (fun (w : World) => spec_mayRead A n c ps w B)
      have HC := Lib.hid hc
      clear hr hc hv hvo hea hg h1 h12
      generalize firsts ((whole ps).rds vs) = F at *
      generalize mayR ps = M at *
      go_enter Try.func37, Try.ntmps37
      go_wp2_with fail
      refine (spec_validFormula _ _ _ ps _ B (by simp; omega) HN.out (H.out.alloc hB _) (by omega)).mono ?_
      rintro e w1 ⟨rfl, hb⟩
      rw [HV.out]
      have hz : w.heap.size + 1 ≤ w1.heap.size := by have := hb.size; simpa using this
      have hbox : w1.cell? ⟨w.heap.size, 0, none⟩ = some (.slice A n c) := (hb.cell (p := ⟨w.heap.size, 0, none⟩) (by simp)).trans (by go_simp)
      have HI1 := Lib.hid ((H'.out.alloc hB _).below hb (by simp; omega))
      have HP1 := Lib.hid ((H.out.alloc hB _).below hb (by simp; omega))
      go_wp2_with fail
      refine (spec_validValues _ _ _ _ _ _ ps vs _ B (by omega) HN.out HM.out HP1.out HI1.out (by omega) hs').mono ?_
      rintro e w2 ⟨rfl, hb2⟩
      rw [HE.out, HC.out]
      have hz2 : w.heap.size + 1 ≤ w2.heap.size := by have := hb2.size; omega
      have hbox2 := (hb2.cell (p := ⟨w.heap.size, 0, none⟩) (by show w.heap.size < w1.heap.size; omega)).trans hbox
      have HI2 := Lib.hid (HI1.out.below hb2 (by omega))
      have HP2 := Lib.hid (HP1.out.below hb2 (by omega))
      go_wp2_with fail
      refine (HRUN.out _ (by omega) HP2.out HI2.out).mono ?_
      rintro e w3 ⟨v3, rfl, hown3, hb3⟩
      obtain ⟨g3, c3, rfl, _⟩ := hown3.form
      have hz3 : w.heap.size + 1 ≤ w3.heap.size := by have := hb3.size; omega
      have hbox3 := (hb3.cell (p := ⟨w.heap.size, 0, none⟩) (by show w.heap.size < w2.heap.size; omega)).trans hbox2
      have HP3 := Lib.hid (HP2.out.below hb3 (by omega))
      go_wp2_with fail
      refine (HMR.out _ (by omega) HN.out HP3.out (by omega)).mono ?_
      rintro e w4 ⟨v4, rfl, hown4, hb4⟩
      obtain ⟨g4, c4, rfl, _⟩ := hown4.form
      go_wp2
      go_ret
      exact ⟨ret_b (int_eq_nat _ _), ((Below.refl _ _).alloc (Nat.le_refl _) _).trans ((hb.trans ((hb2.trans ((hb3.trans (hb4.mono hb3.size)).mono hb2.size)).mono hb.size)).mono (by simp))⟩

set_option maxRecDepth 100000 in
set_option maxHeartbeats 1600000 in
theorem impl_ReadsWhole (A A' : Option Addr) (n c m c' : Nat) (ps : List Pt) (vs : List Int) (B : Nat) (hn : n = ps.length) (hm : m = vs.length) (hs : n ≤ 1999999) (hs' : m ≤ 2000000) (w : World) (hB : B ≤ w.heap.size) (h : PS w B A ps) (h' : IS w B A' vs) :
    Calls Try.prog 38 #[.agg #[.slice A n c], .slice A' m c'] w fun e w' => e = .returned (.bool (wholeF ps vs)) ∧ Below w.heap.size w w' := by
  have H0 := Lib.hid (h.alloc hB (.cells #[.slice A n c] 29))
  have HN := Lib.hid hn
  have H0' := Lib.hid (h'.alloc hB (.cells #[.slice A n c] 29))
  have HM := Lib.hid hm
  have HS0 := Lib.hid (show B ≤ (w.alloc (.cells #[.slice A n c] 29)).heap.size by simp; omega)
  have hbel0 : Below w.heap.size w (w.alloc (.cells #[.slice A n c] 29)) := (Below.refl _ _).alloc (Nat.le_refl _) _
  have HB0 := Lib.hid hbel0
  clear hn h hm h' hbel0
  cases hc : canEv ps vs
  · have hr : wholeF ps vs = false := by simp [wholeF, hc]
    rw [hr]
    have HC := Lib.hid hc
    clear hr hc
    go_enter Try.func38, Try.ntmps38
    go_wp2
    first | go_region_with (go_at_call 47; refine (impl_canEvaluate _ _ _ _ _ _ ps vs _ B ?_ HN.out HM.out ?_ ?_ (Nat.le_trans hs (by decide)) hs').mono ?_; exact HS0.out; exact H0.out; exact H0'.out; rintro e w1 ⟨rfl, hb1'⟩; have HB1 := Lib.hid (below_of_drew hb1'); clear hb1'; rw [HC.out]) | fail
    all_goals
      go_wp2
      go_ret
      exact ⟨rfl, HB0.out.trans (HB1.out.mono (by simp))⟩
  · have hr : wholeF ps vs = decide ((readF ps vs).length = (mayF ps).length) := by
      obtain ⟨hv, _⟩ := canEv_parts ps vs hc
      simp [wholeF, hc, readF, mayF, hv]
    rw [hr]
    have HR := Lib.hid (fun (w : World) => impl_ReadsOf A A' n c m c' ps vs B HN.out HM.out hs hs' w)
    have HY := Lib.hid (fun (w : World) (hB : B ≤ w.heap.size) => impl_MayRead A n c ps w B hB HN.out)
    have hfl : (readF ps vs).length ≤ 1000000 := by
      obtain ⟨hv, _⟩ := canEv_parts ps vs hc
      obtain ⟨hg, h1, h12⟩ := validF_good ps hv
      unfold readF
      rw [hc]
      exact Nat.le_trans (firsts_len _) (by have := rds_whole ps vs h12; omega)
    have hml : (mayF ps).length ≤ 10 := by
      unfold mayF
      split
      · exact mayR_len ps 10
      · simp
    have HC := Lib.hid hc
    clear hr hc
    generalize readF ps vs = F at *
    generalize mayF ps = M at *
    go_enter Try.func38, Try.ntmps38
    go_wp2
    first | go_region_with (first
      | (go_at_call 47; refine (impl_canEvaluate _ _ _ _ _ _ ps vs _ B ?_ HN.out HM.out ?_ ?_ (Nat.le_trans hs (by decide)) hs').mono ?_; exact HS0.out; exact H0.out; exact H0'.out; rintro e w1 ⟨rfl, hb1'⟩; have hb1 := below_of_drew hb1'; have hlt1 : w.heap.size + 1 ≤ w1.heap.size := by { have := hb1.size; simpa using this }; have HP1 := Lib.hid (H0.out.below hb1 (by simp; omega)); have HI1 := Lib.hid (H0'.out.below hb1 (by simp; omega)); have hbox1 : w1.cell? ⟨w.heap.size, 0, none⟩ = some (.slice A n c) := (hb1.cell (p := ⟨w.heap.size, 0, none⟩) (by simp)).trans (by go_simp); have HB1 := Lib.hid (HB0.out.trans (hb1.mono (by simp))); clear hb1' hb1; rw [HC.out])
      | (go_at_call 22; refine (HR.out w1 ?_ HP1.out HI1.out).mono ?_; omega; rintro e w2 ⟨v2, rfl, hown2, hb2⟩; obtain ⟨A2, c2, rfl⟩ := own_form hown2; have hlt2 : w.heap.size + 1 ≤ w2.heap.size := by { have := hb2.size; omega }; have HP2 := Lib.hid (HP1.out.below hb2 (by omega)); have hbox2 : w2.cell? ⟨w.heap.size, 0, none⟩ = some (.slice A n c) := (hb2.cell (p := ⟨w.heap.size, 0, none⟩) (by show w.heap.size < w1.heap.size; omega)).trans hbox1; have HB2 := Lib.hid (HB1.out.trans (hb2.mono (by omega))); clear hb2 hown2)
      | (go_at_call 27; refine (HY.out w1 ?_ HP1.out hs).mono ?_; omega; rintro e w3 ⟨v3, rfl, hown3, hb3⟩; obtain ⟨A3, c3, rfl⟩ := own_form hown3; have hlt3 : w.heap.size + 1 ≤ w3.heap.size := by { have := hb3.size; omega }; have HP3 := Lib.hid (HP1.out.below hb3 (by omega)); have HI3 := Lib.hid (HI1.out.below hb3 (by omega)); have hbox3 : w3.cell? ⟨w.heap.size, 0, none⟩ = some (.slice A n c) := (hb3.cell (p := ⟨w.heap.size, 0, none⟩) (by show w.heap.size < w1.heap.size; omega)).trans hbox1; have HB3 := Lib.hid (HB1.out.trans (hb3.mono (by omega))); clear hb3 hown3)
      | (go_at_call 27; refine (HY.out w2 ?_ HP2.out hs).mono ?_; omega; rintro e w4 ⟨v4, rfl, hown4, hb4⟩; obtain ⟨A4, c4, rfl⟩ := own_form hown4; have HB4 := Lib.hid (HB2.out.trans (hb4.mono (by omega))); clear hb4 hown4)
      | (go_at_call 22; refine (HR.out w3 ?_ HP3.out HI3.out).mono ?_; omega; rintro e w4 ⟨v4, rfl, hown4, hb4⟩; obtain ⟨A4, c4, rfl⟩ := own_form hown4; have HB4 := Lib.hid (HB3.out.trans (hb4.mono (by omega))); clear hb4 hown4)) | fail
    all_goals
      go_wp2
      go_ret
      exact ⟨ret_b (int_eq_nat _ _), HB4.out⟩
end Go.Proofs.Yteeljfblncffpaa
