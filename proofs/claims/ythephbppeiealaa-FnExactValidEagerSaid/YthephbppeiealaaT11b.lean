/- The standing contracts of ValidEager, the program's. -/
import Derived.Test.YthephbppeiealaaM6
import Derived.Test.YthephbppeiealaaE2
import Derived.Test.YthephbppeiealaaT11a
namespace Go.Proofs.Ythephbppeiealaa
set_option linter.unusedSimpArgs false
set_option linter.unusedVariables false
open Go.RowKit

/-- Returns a number and a fresh list of numbers. -/
def RetVI (w : World) (x : Int) (xs : List Int) (e : Ending) (w' : World) : Prop := ∃ v, e = .returned (.tuple #[.int .i64 x, v]) ∧ OwnI w' w.heap.size v xs ∧ Below w.heap.size w w'

set_option maxRecDepth 100000 in
set_option maxHeartbeats 1600000 in
theorem impl_runOf (A A' : Option Addr) (n c m c' : Nat) (gs : List Nd) (vs : List Int) (i : Nat) (w : World) (B : Nat) (hB : B ≤ w.heap.size) (hn : n = gs.length) (hm : m = vs.length) (h : GS w B A gs) (h' : IS w B A' vs) (hvg : validG gs = true) (hl : vs.length = gs.length) (hr : allR vs 0 999 = true) (hi : i < n) :
    Calls Try.prog 67 #[.agg #[.slice A n c], .slice A' m c', .int .i64 i] w fun e w' => RetVI w (valE gs vs i) (depF gs vs i) e w' := by
  have hn10 : n ≤ 10 := by rw [hn]; exact (validG_parts gs hvg).1

  have hvl : valE gs vs i = if (gs.getD i default).k == 0 then vs.getD i 0 else (whole (gs.getD i default).ps).ev vs := rfl
  have hdl : depF gs vs i = if (gs.getD i default).k == 0 then [] else firsts ((whole (gs.getD i default).ps).rds vs) := rfl
  have hce := eager_canEv gs vs i hvg hl hr (by omega)
  obtain ⟨b, off, rfl, hbB, c0, A1, n1, c1, c2, hn1', hps⟩ := h.at_ i (by omega)
  have him : i < m := by omega
  obtain ⟨b2, off2, rfl, hbB2, hcx⟩ := h' (by omega)
  have d0 := hcx i (by omega)
  have HI := Lib.hid h'
  have HPS := Lib.hid hps
  have z2 : b < w.heap.size := by omega
  have z3 : b2 < w.heap.size := by omega
  rw [hvl, hdl]
  clear hvl hdl h hcx hps hn hvg hl hr h'
  generalize gs.getD i default = d at *
  generalize vs.getD i 0 = x at *
  cases hd : (d.k == 0)
  · have hce' := hce hd
    obtain ⟨hv1, hvo, hl10, hea⟩ := canEv_parts d.ps vs hce'
    obtain ⟨hg, h1, h12⟩ := validF_good d.ps hv1
    have hvf : valF d.ps vs = (whole d.ps).ev vs := by unfold valF; rw [hce']; rfl
    have hrf : readF d.ps vs = firsts ((whole d.ps).rds vs) := by unfold readF; rw [hce']; rfl
    have HVAL := Lib.hid fun (w' : World) (hB : B ≤ w'.heap.size) (h : PS w' B A1 d.ps) (h' : IS w' B (some ⟨b2, off2, none⟩) vs) => impl_ValueOf A1 (some ⟨b2, off2, none⟩) n1 c1 m c' d.ps vs B hn1' hm (by omega) (by omega) w' hB h h'
    have HRD := Lib.hid fun (w' : World) (hB : B ≤ w'.heap.size) (h : PS w' B A1 d.ps) (h' : IS w' B (some ⟨b2, off2, none⟩) vs) => impl_ReadsOf A1 (some ⟨b2, off2, none⟩) n1 c1 m c' d.ps vs B hn1' hm (by omega) (by omega) w' hB h h'
    rw [hvf, hce'] at HVAL
    rw [hrf] at HRD
    simp only [Bool.false_eq_true, if_false]
    generalize (whole d.ps).ev vs = X at *
    generalize firsts ((whole d.ps).rds vs) = F at *
    clear hce hce' hv1 hvo hl10 hea hg h1 h12 hvf hrf hn1' hm
    go_enter Try.func67, Try.ntmps67
    go_wp2_with fail
    refine (HVAL.out _ (by simp; omega) ((HPS.out.alloc hB _).alloc (by simp; omega) _) ((HI.out.alloc hB _).alloc (by simp; omega) _)).mono ?_
    rintro e w1 ⟨rfl, hb⟩
    have q1 : w1.cell? ⟨w.heap.size + 1, 1, none⟩ = some (.slice A1 n1 c1) := (hb.cell (p := ⟨w.heap.size + 1, 1, none⟩) (by simp)).trans (by go_simp)
    have hB1 : Below w.heap.size w w1 := (((Below.refl _ _).alloc (Nat.le_refl _) _).alloc (by simp) _).trans (hb.mono (by simp; omega))
    have HPS1 := Lib.hid (HPS.out.below hB1 hB)
    have HI1 := Lib.hid (HI.out.below hB1 hB)
    have hl1 : w.heap.size + 2 ≤ w1.heap.size := by have := hb.size; simp at this; omega
    clear hb HPS HI HVAL
    go_wp2_with fail
    refine (HRD.out _ (by omega) HPS1.out HI1.out).mono ?_
    rintro e w2 ⟨v, rfl, ho, hb2⟩
    go_wp2
    go_ret2
    exact ⟨v, rfl, own_mono ho (by omega), hB1.trans (hb2.mono (by omega))⟩
  · simp only [if_true]
    clear hce hn1' hm HI HPS
    go_enter Try.func67, Try.ntmps67
    go_wp2
    go_ret2
    exact ⟨_, rfl, World.ownsRow_nil _ _ _ _, ((Below.refl _ _).alloc (Nat.le_refl _) _).alloc (by simp) _⟩

end Go.Proofs.Ythephbppeiealaa
