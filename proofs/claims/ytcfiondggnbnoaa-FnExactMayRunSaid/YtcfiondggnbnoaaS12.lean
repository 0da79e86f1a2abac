/- Words and contracts for memory that the texts behind use. -/
import Derived.Test.YtcfiondggnbnoaaS0
import Derived.Test.YtcfiondggnbnoaaS1
import Derived.Test.YtcfiondggnbnoaaS2
import Derived.Test.YtcfiondggnbnoaaS3
import Derived.Test.YtcfiondggnbnoaaS4
import Derived.Test.YtcfiondggnbnoaaS5
import Derived.Test.YtcfiondggnbnoaaS6
import Derived.Test.YtcfiondggnbnoaaS7
import Derived.Test.YtcfiondggnbnoaaS8
import Derived.Test.YtcfiondggnbnoaaS9
import Derived.Test.YtcfiondggnbnoaaS10
import Derived.Test.YtcfiondggnbnoaaS11
import Derived.WalkKit
import Derived.Laws.OwnMore
import Derived.Deep.Draws
import Derived.Test.YtcfiondggnbnoaaProg
import Derived.WalkSpells
import Derived.WalkLawsBesides
import Derived.Outline
import Derived.Lib.Hide
import Derived.BigQuiet
import Derived.Deep.QuietTactic
import Derived.StillTailTactics
import Derived.Deep.LoopGhost
import Derived.Laws.MakeOwn
import Derived.WalkSmall
import Derived.RegionTactic
import Derived.BigRegion
import Derived.Deep.RegionWith
import Derived.Deep.RegionHeld3
import Derived.Maps.AppendAt
import Derived.Laws.CopyOwn
import Derived.ChangeAlike
import Derived.Laws.Entries
import Derived.Laws.Bits64
import Derived.IntWalk
import Derived.Deep.RegionLaw
import Derived.Deep.AppendLies
import Derived.Deep.Cut
import Derived.Deep.DeepCutAuto

namespace Go.Proofs.Ytcfiondggnbnoaa
set_option linter.unusedSimpArgs false
set_option linter.unusedVariables false
open Go.RowKit
def allR (l : List Int) (lo hi : Int) : Bool := l.all fun x => rng x lo hi
theorem allR_false (l : List Int) (lo hi : Int) (k : Nat) (h : k < l.length) (hr : rng (l.getD k 0) lo hi = false) : allR l lo hi = false := by
  unfold allR
  rw [List.all_eq_false]
  exact ⟨l.getD k 0, by simp [List.getD, h], by rw [hr]; simp⟩
theorem allR_true (l : List Int) (lo hi : Int) (h : ∀ k, k < l.length → rng (l.getD k 0) lo hi = true) : allR l lo hi = true := by
  unfold allR
  rw [List.all_eq_true]
  intro x hx
  obtain ⟨k, hk, rfl⟩ := List.mem_iff_getElem.1 hx
  have := h k hk
  simpa [List.getD, hk] using this
set_option maxHeartbeats 400000 in
theorem spec_allIn (A : Option Addr) (n c : Nat) (xs : List Int) (lo hi : Int) (w : World) (B : Nat) (hB : B ≤ w.heap.size) (hn : n = xs.length) (h : IS w B A xs) (hs : n ≤ 2000000) :
    Calls Try.prog 61 #[.slice A n c, .int .i64 lo, .int .i64 hi] w fun e w' => e = .returned (.bool (allR xs lo hi)) ∧ w = w' := by
  have H := Lib.hid h
  have HN := Lib.hid hn
  clear hn h
  go_enter Try.func61, Try.ntmps61
  go_wp2
  go_loop [7] (fun i => ∃ k : Nat, k ≤ n ∧ i = .int .i64 k ∧ Hid (∀ j, j < k → rng (xs.getD j 0) lo hi = true)) (fun i => n - (intOf i).toNat)
  case atStart => exact ⟨0, Nat.zero_le _, rfl, fun j hj => by omega⟩
  case round =>
    obtain ⟨k, hk, rfl, HA⟩ := hrel
    by_cases hlt : k < n
    · obtain ⟨b, off, rfl, hbB, hc⟩ := H.out (by have := HN.out; omega)
      have c0 := hc k (by have := HN.out; omega)
      clear hc H
      generalize hp : xs.getD k 0 = p at *
      have HP := Lib.hid hp
      clear hp
      cases hr : rng p lo hi
      · go_wp2_with (go_at_call 28; refine (spec_inRange _ _ _ _).mono ?_; rintro e w' ⟨rfl, rfl⟩)
        go_ret
        refine ⟨ret_b ?_, rfl⟩
        rw [allR_false xs lo hi k (by have := HN.out; omega) (by rw [HP.out]; exact hr)]
        try rfl
      · have HR := Lib.hid hr
        go_wp2_with (go_at_call 28; refine (spec_inRange _ _ _ _).mono ?_; rintro e w' ⟨rfl, rfl⟩)
        go_round
        case rel => exact ⟨k + 1, by omega, by go_num, fun j hj => by
          rcases Nat.lt_or_ge j k with h1 | h1
          · exact HA.out j h1
          · obtain rfl : j = k := by omega
            rw [HP.out]; exact HR.out⟩
        case measure => simp [intOf]; omega
    · go_wp2
      go_ret
      refine ⟨ret_b ?_, rfl⟩
      rw [allR_true xs lo hi fun j hj => HA.out j (by have := HN.out; omega)]
      try rfl
end Go.Proofs.Ytcfiondggnbnoaa

namespace Go.Proofs.Ytcfiondggnbnoaa
set_option linter.unusedSimpArgs false
set_option linter.unusedVariables false
open Go.RowKit
/-- Whether a node is a cell. -/
def isC (gs : List Nd) (x : Int) : Bool := hasN gs x && ((gs.getD x.toNat default).k == 0)
set_option maxHeartbeats 800000 in
theorem spec_isCell (A : Option Addr) (n c : Nat) (gs : List Nd) (x : Int) (w : World) (B : Nat) (hB : B ≤ w.heap.size) (hn : n = gs.length) (h : GS w B A gs) (hs : n ≤ 2000000) :
    Calls Try.prog 62 #[.agg #[.slice A n c], .int .i64 x] w fun e w' => e = .returned (.bool (isC gs x)) ∧ Below w.heap.size w w' := by
  have hr : hasN gs x = rng x 0 ((n : Int) - 1) := by rw [hn]; rfl
  have hi : isC gs x = (hasN gs x && ((gs.getD x.toNat default).k == 0)) := rfl
  cases hh : hasN gs x
  · have hf : isC gs x = false := by rw [hi, hh]; rfl
    rw [hf]
    have hr' : rng x 0 ((n : Int) - 1) = false := by rw [← hr, hh]
    clear h hn hr hi hf hh
    go_enter Try.func62, Try.ntmps62
    go_wp2_with (go_at_call 28; refine (spec_inRange _ _ _ _).mono ?_; rintro e w' ⟨rfl, rfl⟩)
    go_ret
    exact ⟨rfl, (Below.refl _ _).alloc (Nat.le_refl _) _⟩
  · obtain ⟨t, rfl, ht⟩ := hasN_nat gs x hh
    have hr' : rng (t : Int) 0 ((n : Int) - 1) = true := by rw [← hr, hh]
    have hf : isC gs t = ((gs.getD t default).k == 0) := by rw [hi, hh]; simp
    rw [hf]
    obtain ⟨b, off, rfl, hbB, c0, _⟩ := h.at_ t ht
    have htn : t < n := by omega
    have hbw : b < w.heap.size := by omega
    clear h hn hr hi hf hh ht
    generalize gs.getD t default = d at *
    cases hd : (d.k == 0)
    all_goals
      go_enter Try.func62, Try.ntmps62
      go_wp2_with (go_at_call 28; refine (spec_inRange _ _ _ _).mono ?_; rintro e w' ⟨rfl, rfl⟩)
      go_ret
      exact ⟨rfl, (Below.refl _ _).alloc (Nat.le_refl _) _⟩
end Go.Proofs.Ytcfiondggnbnoaa

namespace Go.Proofs.Ytcfiondggnbnoaa
set_option linter.unusedSimpArgs false
set_option linter.unusedVariables false
open Go.RowKit
theorem Tch.set1 {g b : Nat} {w w1 : World} (h : Tch g (g + 1) w w1) (hb : w.heap.size ≤ b) (j : Nat) (x : Value) : Tch g (g + 1) w (w1.setCell ⟨b, j, none⟩ x) := by
  refine ⟨h.os, h.tape, h.output, by simpa [World.setCell] using h.size, fun k hk hr => ?_⟩
  exact (Below.heap_setCell _ _ _ _ (by show k ≠ b; omega)).trans (h.block k hk hr)
theorem Tch.set5 {g : Nat} {w w1 : World} {x0 x1 x2 x3 x4 : Value} (h : Tch g (g + 1) w w1) : Tch g (g + 1) w (((((w1.setCell ⟨w.heap.size, 0, none⟩ x0).setCell ⟨w.heap.size, 1, none⟩ x1).setCell ⟨w.heap.size, 2, none⟩ x2).setCell ⟨w.heap.size, 3, none⟩ x3).setCell ⟨w.heap.size, 4, none⟩ x4) :=
  ((((h.set1 (Nat.le_refl _) 0 x0).set1 (Nat.le_refl _) 1 x1).set1 (Nat.le_refl _) 2 x2).set1 (Nat.le_refl _) 3 x3).set1 (Nat.le_refl _) 4 x4
end Go.Proofs.Ytcfiondggnbnoaa

namespace Go.Proofs.Ytcfiondggnbnoaa
set_option linter.unusedSimpArgs false
set_option linter.unusedVariables false
open Go.RowKit
/-- A cell that lies in memory. -/
def C1 (b o : Nat) (v : Value) (w : World) : Prop := b < w.heap.size ∧ w.cell? ⟨b, o, none⟩ = some v
theorem C1.step {b o : Nat} {v : Value} {w w' : World} (h : C1 b o v w) (hb : Below w.heap.size w w') : C1 b o v w' := ⟨Nat.lt_of_lt_of_le h.1 hb.size, (hb.cell (p := ⟨b, o, none⟩) h.1).trans h.2⟩
theorem C1.is {w : World} {b off : Nat} {xs : List Int} (h : IS w w.heap.size (some ⟨b, off, none⟩) xs) (k : Nat) (hk : k < xs.length) : C1 b (off + k) (.int .i64 (xs.getD k 0)) w := by
  obtain ⟨b', off', e, hb, hc⟩ := h (by omega)
  cases e
  exact ⟨hb, hc k hk⟩
end Go.Proofs.Ytcfiondggnbnoaa

namespace Go.Proofs.Ytcfiondggnbnoaa
set_option linter.unusedSimpArgs false
set_option linter.unusedVariables false
open Go.RowKit
theorem getD_take_lt (xs : List Int) (k j : Nat) (h : j < k) (hk : k ≤ xs.length) : (xs.take k).getD j 0 = xs.getD j 0 := by
  simp [List.getD, List.getElem?_take, h]
theorem IS.take_ {w : World} {B : Nat} {A : Option Addr} {xs : List Int} (h : IS w B A xs) (k : Nat) (hk : k ≤ xs.length) : IS w B A (xs.take k) := by
  intro hn
  have hk0 : 0 < k := by
    rcases Nat.eq_zero_or_pos k with rfl | h0
    · simp at hn
    · exact h0
  obtain ⟨b, off, e, hb, hc⟩ := h (by omega)
  refine ⟨b, off, e, hb, fun j hj => ?_⟩
  have hj' : j < k := by simp at hj; omega
  rw [hc j (by omega), getD_take_lt xs k j hj' hk]
theorem nodup_take_step (xs : List Int) (k : Nat) (h : k < xs.length) (hn : (xs.take k).Nodup) (hx : xs.getD k 0 ∉ xs.take k) : (xs.take (k + 1)).Nodup := by
  have hg : xs[k] = xs.getD k 0 := by simp [List.getD, h]
  rw [List.take_succ_eq_append_getElem h, hg, List.nodup_append]
  refine ⟨hn, by simp, ?_⟩
  intro a ha b hb e
  simp at hb
  subst hb; subst e
  exact hx ha
theorem nodup_take_no (xs : List Int) (k : Nat) (h : k < xs.length) (hx : xs.getD k 0 ∈ xs.take k) : ¬ xs.Nodup := by
  intro hn
  have h1 := (List.take_sublist (k + 1) xs).nodup hn
  have hg : xs[k] = xs.getD k 0 := by simp [List.getD, h]
  rw [List.take_succ_eq_append_getElem h, hg, List.nodup_append] at h1
  exact h1.2.2 _ hx _ (by simp) rfl
end Go.Proofs.Ytcfiondggnbnoaa
