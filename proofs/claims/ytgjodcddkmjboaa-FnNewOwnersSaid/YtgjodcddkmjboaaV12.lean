/- Owners: the standing contracts of NewOwners; copies of owners on both sides. -/
import Derived.Test.YtgjodcddkmjboaaV7
import Derived.Test.YtgjodcddkmjboaaV11
import Derived.Test.YtgjodcddkmjboaaS4

namespace Go.Proofs.Ytgjodcddkmjboaa
set_option linter.unusedSimpArgs false
set_option linter.unusedVariables false
open Go.RowKit

def newF (xs : List Int) : List On := if ctxOK xs then [⟨-1, true, [], xs⟩] else []
theorem newF_OB (xs : List Int) : OB (newF xs) := by
  unfold newF
  cases h : ctxOK xs
  · exact OB.of_sum (by simp) (by simp [rowsO])
  · have h3 : xs.length = 3 := by unfold ctxOK at h; simp only [Bool.and_eq_true, decide_eq_true_eq] at h; exact h.1
    exact OB.of_sum (by simp) (by simp [rowsO, h3])
theorem ctxOK_len {xs : List Int} (h : ctxOK xs = true) : xs.length = 3 := by unfold ctxOK at h; simp only [Bool.and_eq_true, decide_eq_true_eq] at h; exact h.1

set_option maxRecDepth 100000 in
set_option maxHeartbeats 800000 in
theorem top_impl_NewOwners (xs : List Int) (hL : xs.length ≤ 1048576) : ∀ (A : Option Addr) (n c : Nat) (w : World), n = xs.length → IS w w.heap.size A xs →
    Calls Try.prog 5 #[.slice A n c] w fun e w' => RetO w (newF xs) e w' := by
  intro A n c w hn h
  have HX := Lib.hid (impl_isContext A n c xs w w.heap.size (Nat.le_refl _) hn h (by omega))
  have HC := Lib.hid (impl_copyOf A n c xs w w.heap.size (Nat.le_refl _) hn h (by omega))
  unfold newF
  cases hx : ctxOK xs
  · rw [hx] at HX
    clear hx hn h HC
    simp only [Bool.false_eq_true, if_false]
    go_enter Try.func5, Try.ntmps5
    go_wp2_with fail
    refine HX.out.mono ?_
    rintro e w1 ⟨rfl, rfl⟩
    go_wp2
    go_ret
    exact RetO.nil (Below.refl _ _)
  · rw [hx] at HX
    have HN := Lib.hid hn
    clear hx hn h
    simp only [if_true]
    go_enter Try.func5, Try.ntmps5
    go_wp2_with fail
    refine HX.out.mono ?_
    rintro e w1 ⟨rfl, rfl⟩
    go_wp2_with fail
    refine HC.out.mono ?_
    rintro e w1 ⟨rfl, ho, hb⟩
    have HO := Lib.hid ho
    have HB := Lib.hid hb
    clear ho hb HC HX
    go_wp2
    go_ret
    exact ⟨_, rfl, OwO.single (d := ⟨-1, true, [], xs⟩) (lo := w.heap.size) (mid := w.heap.size) (OwR.nil _ _ _ _ _) rfl (OwR.start HO.out) HN.out (Nat.le_refl _) HB.out.size, HB.out.alloc HB.out.size _⟩

set_option maxRecDepth 100000 in
set_option maxHeartbeats 800000 in
theorem top_spec_NewOwners (xs : List Int) (hL : xs.length ≤ 1048576) : ∀ (A : Option Addr) (n c : Nat) (w : World), n = xs.length → IS w w.heap.size A xs →
    Calls Try.prog 7 #[.slice A n c] w fun e w' => RetO w (newF xs) e w' := by
  intro A n c w hn h
  have HA := Lib.hid (spec_allIn A n c xs (-1) 50 w w.heap.size (Nat.le_refl _) hn h (by omega))
  have HC := Lib.hid (spec_copyIntsA A n c xs w w.heap.size (Nat.le_refl _) hn h (by omega))
  unfold newF
  by_cases h3 : n = 3
  case neg =>
    have hx : ctxOK xs = false := by unfold ctxOK; rw [decide_eq_false (by omega)]; rfl
    have hne : ((n : Int) != 3) = true := by simp; omega
    rw [hx]
    clear hx hn h HC HA h3
    simp only [Bool.false_eq_true, if_false]
    go_enter Try.func7, Try.ntmps7
    go_wp2
    go_ret
    exact RetO.nil (Below.refl _ _)
  have hne : ((n : Int) != 3) = false := by simp; omega
  have hx : ctxOK xs = allR xs (-1) 50 := by unfold ctxOK; rw [decide_eq_true (by omega)]; rfl
  rw [hx]
  have HN := Lib.hid hn
  clear hx hn h h3
  cases ha : allR xs (-1) 50
  · rw [ha] at HA
    clear ha HC
    simp only [Bool.false_eq_true, if_false]
    go_enter Try.func7, Try.ntmps7
    go_wp2_with fail
    refine HA.out.mono ?_
    rintro e w1 ⟨rfl, rfl⟩
    go_wp2
    go_ret
    exact RetO.nil (Below.refl _ _)
  · rw [ha] at HA
    clear ha
    simp only [if_true]
    go_enter Try.func7, Try.ntmps7
    go_wp2_with fail
    refine HA.out.mono ?_
    rintro e w1 ⟨rfl, rfl⟩
    go_wp2_with fail
    refine HC.out.mono ?_
    rintro e w1 ⟨g, cap, rfl, ho, hb⟩
    have HO := Lib.hid ho
    have HB := Lib.hid hb
    clear ho hb HC HA
    go_wp2
    go_ret
    exact ⟨_, rfl, OwO.single (d := ⟨-1, true, [], xs⟩) (lo := w.heap.size) (mid := w.heap.size) (OwR.nil _ _ _ _ _) rfl (OwR.start HO.out) HN.out (Nat.le_refl _) HB.out.size, HB.out.alloc HB.out.size _⟩

theorem Bx4.set3 {b : Nat} {x y z t u : Value} {w : World} (h : Bx4 b x y z t w) : Bx4 b x y z u (w.setCell ⟨b, 3, none⟩ u) :=
  ⟨by simpa [World.setCell] using h.lt, (World.cell?_setCell_other _ _ _ _ (by simp)).trans h.c0, (World.cell?_setCell_other _ _ _ _ (by simp)).trans h.c1, (World.cell?_setCell_other _ _ _ _ (by simp)).trans h.c2, World.cell?_setCell_same _ _ _ h.c3, fun i => (World.frozen?_setCell _ _ _ _).trans (h.f i)⟩

theorem OwO.step {lo hi n : Nat} {v : Value} {ds : List On} {w w' : World} (h : OwO lo hi v n ds w) (hb : Below w.heap.size w w') (hle : hi ≤ w.heap.size) : OwO lo hi v n ds w' := h.keep fun k _ hk => hb.block k (by omega)

end Go.Proofs.Ytgjodcddkmjboaa
