/- impl.ValueOf. -/
import Derived.Test.YtkmhpiojbocjkaaA15
namespace Go.Proofs.Ytkmhpiojbocjkaa
set_option linter.unusedSimpArgs false
set_option linter.unusedVariables false
open Go.RowKit

theorem grown_of_below {w w' : World} (h : Below w.heap.size w w') (row : Option Nat) : w.grownBy w' row :=
  ⟨h.os, h.tape, h.output, h.size, fun k hk _ => h.block k hk⟩

set_option maxHeartbeats 400000 in
theorem look_value (A' : Option Addr) (m c' g q : Nat) (vs : List Int) (w : World) (B : Nat) (hm : m = vs.length) (hs' : m ≤ 2000000) (hq : q < vs.length) (hc : w.cell? ⟨g, 0, none⟩ = some (.slice A' m c')) (h : IS w B A' vs) :
    Calls Try.prog 111 #[.int .i64 q, .pointer (some ⟨g, 0, none⟩)] w fun e w' => e = .returned (.int .i64 (vs.getD q 0)) ∧ w = w' := by
  obtain ⟨b, off, rfl, hb, hcc⟩ := h (by omega)
  have hx := hcc q hq
  have hqm : q < m := by omega
  generalize vs.getD q 0 = x at *
  clear hcc h hm hq
  go_enter Try.func111, Try.ntmps111
  go_wp2
  go_ret
  exact ⟨rfl, rfl⟩

set_option maxHeartbeats 800000 in
theorem impl_ValueOf (A A' : Option Addr) (n c m c' : Nat) (ps : List Pt) (vs : List Int) (B : Nat) (hn : n = ps.length) (hm : m = vs.length) (hs : n ≤ 1999999) (hs' : m ≤ 2000000) (w : World) (hB : B ≤ w.heap.size) (h : PS w B A ps) (h' : IS w B A' vs) :
    Calls Try.prog 104 #[.agg #[.slice A n c], .slice A' m c'] w fun e w' => e = .returned (.tuple #[.int .i64 (valF ps vs), .bool (canEv ps vs)]) ∧ Below w.heap.size w w' := by
  have H := Lib.hid h
  have HN := Lib.hid hn
  have H' := Lib.hid h'
  have HM := Lib.hid hm
  clear hn h hm h'
  cases hc : canEv ps vs
  · have hr : valF ps vs = 0 := by simp [valF, hc]
    rw [hr]
    have HC := Lib.hid hc
    clear hr hc
    go_enter Try.func104, Try.ntmps104
    go_wp2_with fail
    refine (impl_canEvaluate _ _ _ _ _ _ ps vs _ B (by simp; omega) HN.out HM.out ((H.out.alloc hB _).alloc (by simp; omega) _) ((H'.out.alloc hB _).alloc (by simp; omega) _) (by omega) hs').mono ?_
    rintro e w1 ⟨rfl, hb⟩
    rw [HC.out]
    go_wp2
    go_ret2
    exact ⟨rfl, (((Below.refl _ _).alloc (Nat.le_refl _) _).alloc (by simp) _).trans (hb.mono (by simp; omega))⟩
  · have hr : valF ps vs = (whole ps).ev vs := by simp [valF, hc]
    rw [hr]
    obtain ⟨hv, hvo, hm10, hea⟩ := canEv_parts ps vs hc
    obtain ⟨hg, h1, h12⟩ := validF_good ps hv
    have hok : (whole ps).ok vs.length := tmAt_ok ps vs.length hg hea ps.length (ps.length - 1) (by omega) (by omega)
    have HWH := Lib.hid (fun (w : World) => impl_wholeOf A n c ps B HN.out hg (by omega) (by have := HN.out; omega) w)
    rw [show tmAt ps n (n - 1) = whole ps by rw [HN.out]; rfl] at HWH
    have HC := Lib.hid hc
    have HVO := Lib.hid hvo
    have HOK := Lib.hid hok
    clear hr hc hv hvo hea hg h1 h12 hok
    generalize whole ps = t at *
    go_enter Try.func104, Try.ntmps104
    go_wp2_with fail
    refine (impl_canEvaluate _ _ _ _ _ _ ps vs _ B (by simp; omega) HN.out HM.out ((H.out.alloc hB _).alloc (by simp; omega) _) ((H'.out.alloc hB _).alloc (by simp; omega) _) (by omega) hs').mono ?_
    rintro e w1 ⟨rfl, hb⟩
    rw [HC.out]
    have hz : w.heap.size + 1 + 1 ≤ w1.heap.size := by have := hb.size; simpa using this
    have hbox : w1.cell? ⟨w.heap.size, 0, none⟩ = some (.slice A n c) := (hb.cell (p := ⟨w.heap.size, 0, none⟩) (by simp; omega)).trans (by go_simp)
    have hbox2 : w1.cell? ⟨w.heap.size + 1, 0, none⟩ = some (.slice A' m c') := (hb.cell (p := ⟨w.heap.size + 1, 0, none⟩) (by simp)).trans (by go_simp)
    have HP1 := Lib.hid (((H.out.alloc hB (.cells #[.slice A n c] 83)).alloc (by simp; omega) (.cells #[.slice A' m c'] 55)).below hb (by simp; omega))
    have HI1 := Lib.hid (((H'.out.alloc hB (.cells #[.slice A n c] 83)).alloc (by simp; omega) (.cells #[.slice A' m c'] 55)).below hb (by simp; omega))
    have hB1 : Below w.heap.size w w1 := (((Below.refl _ _).alloc (Nat.le_refl _) _).alloc (by simp) _).trans (hb.mono (by simp; omega))
    clear hb
    go_wp2_with fail
    refine (HWH.out _ (by omega) HP1.out).mono ?_
    rintro e w2 ⟨T, x, rfl, hT, hb2⟩
    have HT := Lib.hid hT
    clear hT
    have hz2 : w.heap.size + 1 + 1 ≤ w2.heap.size := by have := hb2.size; omega
    have hbox3 : w2.cell? ⟨w.heap.size + 1, 0, none⟩ = some (.slice A' m c') := (hb2.cell (p := ⟨w.heap.size + 1, 0, none⟩) (by show w.heap.size + 1 < w1.heap.size; omega)).trans hbox2
    have HI2 := Lib.hid (HI1.out.below hb2 (by omega))
    have hB2 : Below w.heap.size w w2 := hB1.trans (hb2.mono (by omega))
    have HEV := Lib.hid (impl_evaluate1 111 (.pointer (some ⟨w.heap.size + 1, 0, none⟩)) vs HVO.out (fun _ _ => False) (fun _ w' => Below w2.heap.size w2 w')
      (fun acc w' k h hf => hf.elim) (fun acc wa wb h1 h2 => ⟨h1.trans (h2.mono h1.size), fun k hf => hf⟩) (fun q w => by kernel_rfl)
      (fun q acc wa hq h1 => (look_value A' m c' (w.heap.size + 1) q vs wa B HM.out hs' hq ((h1.cell (p := ⟨w.heap.size + 1, 0, none⟩) (by show w.heap.size + 1 < w2.heap.size; omega)).trans hbox3) (HI2.out.below h1 (by omega))).mono
        fun e wb ⟨he, hw⟩ => ⟨he, by rw [← hw]; exact h1, by rw [← hw]; exact Fr.of_below (Below.refl _ _) fun k hf => hf⟩) t)
    clear hb2
    go_wp2_with fail
    rw [← HT.out]
    refine (HEV.out [] _ HOK.out (Below.refl _ _)).mono ?_
    rintro e w3 ⟨rfl, hb3, _⟩
    go_wp2
    go_ret2
    exact ⟨by simp, hB2.trans (hb3.mono (by omega))⟩
end Go.Proofs.Ytkmhpiojbocjkaa
