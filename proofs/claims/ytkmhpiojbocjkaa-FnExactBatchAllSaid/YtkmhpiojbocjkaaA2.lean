/- Contracts of chapter 1: parts below a part, good parts. -/
import Derived.Test.YtkmhpiojbocjkaaA1
import Derived.RegionTactic
namespace Go.Proofs.Ytkmhpiojbocjkaa
set_option linter.unusedSimpArgs false
set_option linter.unusedVariables false
open Go.RowKit

def bel (p : Pt) : List Int := if ar p.k = 2 then [p.a, p.b] else if ar p.k = 3 then [p.a, p.b, p.c] else []

theorem below_bcell {W w1 : World} (hb : Below W.heap.size W w1) : (∀ b o, b < W.heap.size → w1.cell? ⟨b, o, none⟩ = W.cell? ⟨b, o, none⟩) ∧ (∀ b o, b < W.heap.size → w1.frozen? ⟨b, o, none⟩ = W.frozen? ⟨b, o, none⟩) :=
  ⟨fun b o h => hb.cell (p := ⟨b, o, none⟩) h, fun b o h => hb.frozen (p := ⟨b, o, none⟩) h⟩

/-- Returns a fresh slice of numbers. -/
def RetI (w : World) (xs : List Int) (e : Ending) (w' : World) : Prop := ∃ v, e = .returned v ∧ OwnI w' w.heap.size v xs ∧ Below w.heap.size w w'

theorem retI_lit {w w1 : World} (hb : Below w.heap.size w w1) (xs : List Int) (cs : Array Value) (n : Nat) (hn : n = xs.length) (hm : n ≤ maxLen) (hc : cs.toList = xs.map (Value.int .i64)) (e : Ending)
    (he : e = .returned (.slice (some ⟨w1.heap.size, 0, none⟩) n n)) : RetI w xs e (w1.alloc (.cells cs 3)) := by
  subst hn
  refine ⟨_, he, ?_, hb.alloc hb.size _⟩
  have h := World.ownsRow_lit (e := 3) (size := 1) w1 cs xs.length hb.size hm (by rw [← Array.length_toList, hc]; simp)
  rw [hc] at h
  exact h

set_option maxHeartbeats 800000 in
theorem spec_below (p : Pt) (w : World) :
    Calls Try.prog 69 #[.agg #[.int .i64 p.k, .int .i64 p.a, .int .i64 p.b, .int .i64 p.c, .int .i64 p.n]] w fun e w' => RetI w (bel p) e w' := by
  obtain ⟨k, a, b, c, n⟩ := p
  have hm : 3 ≤ maxLen := by unfold maxLen; omega
  have HM := Lib.hid hm
  clear hm
  by_cases h2 : ar k = 2
  · have h2' : (ar k == 2) = true := by simp [h2]
    have H : bel ⟨k, a, b, c, n⟩ = [a, b] := by simp [bel, h2]
    rw [H]
    clear H h2
    go_enter Try.func69, Try.ntmps69
    go_wp2_with (go_at_call 79; refine (spec_arity _ _).mono ?_; rintro e w' ⟨rfl, rfl⟩)
    go_ret
    exact retI_lit ((Below.refl _ _).alloc (Nat.le_refl _) _) _ _ 2 rfl (by have := HM.out; omega) rfl _ (by simp)
  · have h2' : (ar k == 2) = false := by simp [h2]
    by_cases h3 : ar k = 3
    · have h3' : (ar k == 3) = true := by simp [h3]
      have H : bel ⟨k, a, b, c, n⟩ = [a, b, c] := by simp [bel, h3]
      rw [H]
      clear H h2 h3
      go_enter Try.func69, Try.ntmps69
      go_wp2_with (go_at_call 79; refine (spec_arity _ _).mono ?_; rintro e w' ⟨rfl, rfl⟩)
      go_ret
      exact retI_lit ((Below.refl _ _).alloc (Nat.le_refl _) _) _ _ 3 rfl (by have := HM.out; omega) rfl _ (by simp)
    · have h3' : (ar k == 3) = false := by simp [h3]
      have H : bel ⟨k, a, b, c, n⟩ = [] := by simp [bel, h3, h2]
      rw [H]
      clear H h2 h3
      go_enter Try.func69, Try.ntmps69
      go_wp2_with (go_at_call 79; refine (spec_arity _ _).mono ?_; rintro e w' ⟨rfl, rfl⟩)
      go_ret
      exact retI_lit ((Below.refl _ _).alloc (Nat.le_refl _) _) _ _ 0 rfl (by have := HM.out; omega) rfl _ (by simp)

def goodPt (p : Pt) (i : Int) : Bool :=
  if ar p.k == 0 then p.a == -1 && p.b == -1 && p.c == -1 && rng p.n 0 (if p.k == 1 then 9 else 99)
  else if ar p.k == 2 then rng p.a 0 (i - 1) && rng p.b 0 (i - 1) && p.c == -1 && p.n == 0
  else if ar p.k == 3 then rng p.a 0 (i - 1) && rng p.b 0 (i - 1) && rng p.c 0 (i - 1) && p.n == 0
  else false

set_option maxHeartbeats 1600000 in
theorem spec_goodPart (p : Pt) (i : Nat) (hi : i ≤ 2000000) (w : World) :
    Calls Try.prog 68 #[.agg #[.int .i64 p.k, .int .i64 p.a, .int .i64 p.b, .int .i64 p.c, .int .i64 p.n], .int .i64 i] w fun e w' => e = .returned (.bool (goodPt p i)) ∧ Below w.heap.size w w' := by
  obtain ⟨k, a, b, c, n⟩ := p
  go_enter Try.func68, Try.ntmps68
  go_wp2_with (first | (go_at_call 79; refine (spec_arity _ _).mono ?_; rintro e w' ⟨rfl, rfl⟩) | (go_at_call 35; refine (spec_inRange _ _ _ _).mono ?_; rintro e w' ⟨rfl, rfl⟩))
  all_goals
    go_ret
    refine ⟨ret_b ?_, (Below.refl _ _).alloc (Nat.le_refl _) _⟩
    simp [goodPt, *]
end Go.Proofs.Ytkmhpiojbocjkaa
