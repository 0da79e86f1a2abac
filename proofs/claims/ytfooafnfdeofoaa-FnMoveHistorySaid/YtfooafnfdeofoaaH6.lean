/- Words and contracts for memory that the texts behind use. -/
import Derived.Test.YtfooafnfdeofoaaH0a
import Derived.Test.YtfooafnfdeofoaaH0b
import Derived.Test.YtfooafnfdeofoaaH0
import Derived.Test.YtfooafnfdeofoaaH1
import Derived.Test.YtfooafnfdeofoaaH2
import Derived.Test.YtfooafnfdeofoaaH3
import Derived.Test.YtfooafnfdeofoaaH4
import Derived.WalkKit
import Derived.Laws.OwnMore
import Derived.Deep.Draws
import Derived.Test.YtfooafnfdeofoaaProg
import Derived.WalkSpells
import Derived.WalkLawsBesides
import Derived.Outline
import Derived.Lib.Hide
import Derived.BigQuiet
import Derived.Deep.QuietTactic
import Derived.StillTailTactics
import Derived.Deep.LoopGhost
import Derived.Laws.MakeOwn
import Derived.WalkSmall
import Derived.RegionTactic
import Derived.BigRegion
import Derived.Deep.RegionWith
import Derived.Deep.RegionHeld3
import Derived.Laws.Entries
import Derived.Laws.Bits64
import Derived.IntWalk
import Derived.Maps.AppendAt
import Derived.Deep.RegionLaw
import Derived.Deep.AppendLies
import Derived.Deep.Cut
import Derived.Deep.DeepCutAuto
import Derived.Laws.CopyOwn

namespace Go.Proofs.Ytfooafnfdeofoaa
set_option linter.unusedSimpArgs false
set_option linter.unusedVariables false
open Go.RowKit
/-- No part below. -/
def noneB (a b c : Int) : Bool := a == -1 && b == -1 && c == -1
set_option maxHeartbeats 400000 in
theorem impl_inRange (n m : Int) (w : World) :
    Calls Try.prog 33 #[.int .i64 n, .int .i64 m] w fun e w' => e = .returned (.bool (rng n 0 m)) ∧ w = w' := by
  go_enter Try.func33, Try.ntmps33
  go_wp2
  all_goals
    go_ret
    exact ⟨ret_b (by unfold rng; simp; try omega), rfl⟩
set_option maxHeartbeats 800000 in
theorem impl_hasNoneBelow (k a b c n : Int) (w : World) :
    Calls Try.prog 97 #[.agg #[.int .i64 k, .int .i64 a, .int .i64 b, .int .i64 c, .int .i64 n]] w fun e w' => e = .returned (.bool (noneB a b c)) ∧ Below w.heap.size w w' := by
  go_enter Try.func97, Try.ntmps97
  go_wp2
  all_goals
    go_ret
    exact ⟨ret_b (by simp [noneB, *]), (Below.refl _ _).alloc (Nat.le_refl _) _⟩
end Go.Proofs.Ytfooafnfdeofoaa

namespace Go.Proofs.Ytfooafnfdeofoaa
set_option linter.unusedSimpArgs false
set_option linter.unusedVariables false
open Go.RowKit
theorem below_bcell {W w1 : World} (hb : Below W.heap.size W w1) : (∀ b o, b < W.heap.size → w1.cell? ⟨b, o, none⟩ = W.cell? ⟨b, o, none⟩) ∧ (∀ b o, b < W.heap.size → w1.frozen? ⟨b, o, none⟩ = W.frozen? ⟨b, o, none⟩) :=
  ⟨fun b o h => hb.cell (p := ⟨b, o, none⟩) h, fun b o h => hb.frozen (p := ⟨b, o, none⟩) h⟩
end Go.Proofs.Ytfooafnfdeofoaa

namespace Go.Proofs.Ytfooafnfdeofoaa
set_option linter.unusedSimpArgs false
set_option linter.unusedVariables false
open Go.RowKit
def allR (l : List Int) (lo hi : Int) : Bool := l.all fun x => rng x lo hi
theorem allR_false (l : List Int) (lo hi : Int) (k : Nat) (h : k < l.length) (hr : rng (l.getD k 0) lo hi = false) : allR l lo hi = false := by
  unfold allR
  rw [List.all_eq_false]
  exact ⟨l.getD k 0, by simp [List.getD, h], by rw [hr]; simp⟩
theorem allR_true (l : List Int) (lo hi : Int) (h : ∀ k, k < l.length → rng (l.getD k 0) lo hi = true) : allR l lo hi = true := by
  unfold allR
  rw [List.all_eq_true]
  intro x hx
  obtain ⟨k, hk, rfl⟩ := List.mem_iff_getElem.1 hx
  have := h k hk
  simpa [List.getD, hk] using this
set_option maxHeartbeats 400000 in
theorem impl_allInRange (A : Option Addr) (n c : Nat) (xs : List Int) (hi : Int) (w : World) (B : Nat) (hB : B ≤ w.heap.size) (hn : n = xs.length) (h : IS w B A xs) (hs : n ≤ 2000000) :
    Calls Try.prog 42 #[.slice A n c, .int .i64 hi] w fun e w' => e = .returned (.bool (decide (xs.length ≤ 10) && allR xs 0 hi)) ∧ w = w' := by
  by_cases h10 : 10 < n
  · have hf : (decide (xs.length ≤ 10) && allR xs 0 hi) = false := by rw [decide_eq_false (by omega)]; rfl
    rw [hf]
    clear hf hn h
    go_enter Try.func42, Try.ntmps42
    go_wp2
    go_ret
    exact ⟨rfl, rfl⟩
  have hf : (decide (xs.length ≤ 10) && allR xs 0 hi) = allR xs 0 hi := by rw [decide_eq_true (by omega)]; rfl
  rw [hf]
  have H := Lib.hid h
  have HN := Lib.hid hn
  clear hn h hf
  go_enter Try.func42, Try.ntmps42
  go_wp2
  go_loop [12] (fun i => ∃ k : Nat, k ≤ n ∧ i = .int .i64 k ∧ Hid (∀ j, j < k → rng (xs.getD j 0) 0 hi = true)) (fun i => n - (intOf i).toNat)
  case atStart => exact ⟨0, Nat.zero_le _, rfl, fun j hj => by omega⟩
  case round =>
    obtain ⟨k, hk, rfl, HA⟩ := hrel
    by_cases hlt : k < n
    · obtain ⟨b, off, rfl, hbB, hc⟩ := H.out (by have := HN.out; omega)
      have c0 := hc k (by have := HN.out; omega)
      clear hc H
      generalize hp : xs.getD k 0 = p at *
      have HP := Lib.hid hp
      clear hp
      cases hr : rng p 0 hi
      · go_wp2_with (go_at_call 33; refine (impl_inRange _ _ _).mono ?_; rintro e w' ⟨rfl, rfl⟩)
        go_ret
        refine ⟨ret_b ?_, rfl⟩
        rw [allR_false xs 0 hi k (by have := HN.out; omega) (by rw [HP.out]; exact hr)]
        try rfl
      · have HR := Lib.hid hr
        go_wp2_with (go_at_call 33; refine (impl_inRange _ _ _).mono ?_; rintro e w' ⟨rfl, rfl⟩)
        go_round
        case rel => exact ⟨k + 1, by omega, by go_num, fun j hj => by
          rcases Nat.lt_or_ge j k with h1 | h1
          · exact HA.out j h1
          · obtain rfl : j = k := by omega
            rw [HP.out]; exact HR.out⟩
        case measure => simp [intOf]; omega
    · go_wp2
      go_ret
      refine ⟨ret_b ?_, rfl⟩
      rw [allR_true xs 0 hi fun j hj => HA.out j (by have := HN.out; omega)]
      try rfl
end Go.Proofs.Ytfooafnfdeofoaa

namespace Go.Proofs.Ytfooafnfdeofoaa
set_option linter.unusedSimpArgs false
set_option linter.unusedVariables false
open Go.RowKit
def pbOk (p : Pt) : Bool :=
  if p.k == 0 then noneB p.a p.b p.c && rng p.n 0 99
  else if p.k == 1 then noneB p.a p.b p.c && rng p.n 0 9
  else if ar p.k == 2 then p.c == -1 && p.n == 0
  else if ar p.k == 3 then p.n == 0
  else false
def pbI (p : Pt) : List Int := if p.k == 8 || ar p.k == 2 then bel p else []
/-- Returns a fresh slice of numbers and a bool. -/
def RetIB (w : World) (xs : List Int) (b : Bool) (e : Ending) (w' : World) : Prop := ∃ v, e = .returned (.tuple #[v, .bool b]) ∧ OwnI w' w.heap.size v xs ∧ Below w.heap.size w w'
theorem retIB_lit {w w1 : World} (hb : Below w.heap.size w w1) (xs : List Int) (cs : Array Value) (n : Nat) (hn : n = xs.length) (hm : n ≤ maxLen) (hc : cs.toList = xs.map (Value.int .i64)) (b : Bool) (e : Ending)
    (he : e = .returned (.tuple #[.slice (some ⟨w1.heap.size, 0, none⟩) n n, .bool b])) : RetIB w xs b e (w1.alloc (.cells cs 3)) := by
  subst hn
  refine ⟨_, he, ?_, hb.alloc hb.size _⟩
  have h := World.ownsRow_lit (e := 3) (size := 1) w1 cs xs.length hb.size hm (by rw [← Array.length_toList, hc]; simp)
  rw [hc] at h
  exact h
theorem RetIB.drew {w w' : World} {xs : List Int} {b : Bool} {e : Ending} (h : RetIB w xs b e w') : RetIB w xs b e w'.drew := by
  obtain ⟨v, he, ho, hb⟩ := h
  exact ⟨v, he, ho, hb.drew⟩
theorem retIB_nil {w w1 : World} (hb : Below w.heap.size w w1) (b c : Bool) (hbc : b = c) : RetIB w [] c (.returned (.tuple #[.slice none 0 0, .bool b])) w1 := by
  subst hbc
  exact ⟨_, rfl, World.ownsRow_nil _ _ _ _, hb⟩
theorem ar_cases (k : Int) : k = 0 ∨ k = 1 ∨ k = 2 ∨ k = 3 ∨ k = 4 ∨ k = 5 ∨ k = 6 ∨ k = 7 ∨ k = 8 ∨ (k < 0 ∨ 8 < k) := by omega
theorem below_box {w w1 : World} {o : Obj} (hb : Below (w.alloc o).heap.size (w.alloc o) w1) : Below w.heap.size w w1 :=
  ((Below.refl _ _).alloc (Nat.le_refl _) o).trans (hb.mono (by simp))
set_option maxHeartbeats 1600000 in
theorem impl_partsBelow (p : Pt) (w : World) :
    Calls Try.prog 95 #[.agg #[.int .i64 p.k, .int .i64 p.a, .int .i64 p.b, .int .i64 p.c, .int .i64 p.n]] w fun e w' => RetIB w (pbI p) (pbOk p) e w' := by
  obtain ⟨k, a, b, c, n⟩ := p
  have hm : 3 ≤ maxLen := by unfold maxLen; omega
  have HM := Lib.hid hm
  clear hm
  rcases ar_cases k with rfl | rfl | rfl | rfl | rfl | rfl | rfl | rfl | rfl | hk
  · go_enter Try.func95, Try.ntmps95
    go_wp2_with (first | (go_at_call 33; refine (impl_inRange _ _ _).mono ?_; rintro e w' ⟨rfl, rfl⟩) | (go_at_call 97; refine (impl_hasNoneBelow _ _ _ _ _ _).mono ?_; rintro e w1 ⟨rfl, hb⟩; obtain ⟨hc, hf⟩ := below_bcell hb))
    all_goals
      go_ret2
      exact retIB_nil (below_box hb) _ _ (by simp [pbOk, *])
  · go_enter Try.func95, Try.ntmps95
    go_wp2_with (first | (go_at_call 33; refine (impl_inRange _ _ _).mono ?_; rintro e w' ⟨rfl, rfl⟩) | (go_at_call 97; refine (impl_hasNoneBelow _ _ _ _ _ _).mono ?_; rintro e w1 ⟨rfl, hb⟩; obtain ⟨hc, hf⟩ := below_bcell hb))
    all_goals
      go_ret2
      exact retIB_nil (below_box hb) _ _ (by simp [pbOk, *])
  · cases hcc : (c == -1)
    all_goals
      go_enter Try.func95, Try.ntmps95
      go_wp2_with (first | (go_at_call 33; refine (impl_inRange _ _ _).mono ?_; rintro e w' ⟨rfl, rfl⟩) | (go_at_call 97; refine (impl_hasNoneBelow _ _ _ _ _ _).mono ?_; rintro e w1 ⟨rfl, hb⟩; obtain ⟨hc, hf⟩ := below_bcell hb))
      go_region
      all_goals
        go_wp2
        go_ret2
        exact (retIB_lit ((Below.refl _ _).alloc (Nat.le_refl _) _) _ _ 2 rfl (by have := HM.out; omega) rfl _ _ (by simp [pbOk, ar, *])).drew
  · cases hcc : (c == -1)
    all_goals
      go_enter Try.func95, Try.ntmps95
      go_wp2_with (first | (go_at_call 33; refine (impl_inRange _ _ _).mono ?_; rintro e w' ⟨rfl, rfl⟩) | (go_at_call 97; refine (impl_hasNoneBelow _ _ _ _ _ _).mono ?_; rintro e w1 ⟨rfl, hb⟩; obtain ⟨hc, hf⟩ := below_bcell hb))
      go_region
      all_goals
        go_wp2
        go_ret2
        exact (retIB_lit ((Below.refl _ _).alloc (Nat.le_refl _) _) _ _ 2 rfl (by have := HM.out; omega) rfl _ _ (by simp [pbOk, ar, *])).drew
  · cases hcc : (c == -1)
    all_goals
      go_enter Try.func95, Try.ntmps95
      go_wp2_with (first | (go_at_call 33; refine (impl_inRange _ _ _).mono ?_; rintro e w' ⟨rfl, rfl⟩) | (go_at_call 97; refine (impl_hasNoneBelow _ _ _ _ _ _).mono ?_; rintro e w1 ⟨rfl, hb⟩; obtain ⟨hc, hf⟩ := below_bcell hb))
      go_region
      all_goals
        go_wp2
        go_ret2
        exact (retIB_lit ((Below.refl _ _).alloc (Nat.le_refl _) _) _ _ 2 rfl (by have := HM.out; omega) rfl _ _ (by simp [pbOk, ar, *])).drew
  · cases hcc : (c == -1)
    all_goals
      go_enter Try.func95, Try.ntmps95
      go_wp2_with (first | (go_at_call 33; refine (impl_inRange _ _ _).mono ?_; rintro e w' ⟨rfl, rfl⟩) | (go_at_call 97; refine (impl_hasNoneBelow _ _ _ _ _ _).mono ?_; rintro e w1 ⟨rfl, hb⟩; obtain ⟨hc, hf⟩ := below_bcell hb))
      go_region
      all_goals
        go_wp2
        go_ret2
        exact (retIB_lit ((Below.refl _ _).alloc (Nat.le_refl _) _) _ _ 2 rfl (by have := HM.out; omega) rfl _ _ (by simp [pbOk, ar, *])).drew
  · cases hcc : (c == -1)
    all_goals
      go_enter Try.func95, Try.ntmps95
      go_wp2_with (first | (go_at_call 33; refine (impl_inRange _ _ _).mono ?_; rintro e w' ⟨rfl, rfl⟩) | (go_at_call 97; refine (impl_hasNoneBelow _ _ _ _ _ _).mono ?_; rintro e w1 ⟨rfl, hb⟩; obtain ⟨hc, hf⟩ := below_bcell hb))
      go_region
      all_goals
        go_wp2
        go_ret2
        exact (retIB_lit ((Below.refl _ _).alloc (Nat.le_refl _) _) _ _ 2 rfl (by have := HM.out; omega) rfl _ _ (by simp [pbOk, ar, *])).drew
  · cases hcc : (c == -1)
    all_goals
      go_enter Try.func95, Try.ntmps95
      go_wp2_with (first | (go_at_call 33; refine (impl_inRange _ _ _).mono ?_; rintro e w' ⟨rfl, rfl⟩) | (go_at_call 97; refine (impl_hasNoneBelow _ _ _ _ _ _).mono ?_; rintro e w1 ⟨rfl, hb⟩; obtain ⟨hc, hf⟩ := below_bcell hb))
      go_region
      all_goals
        go_wp2
        go_ret2
        exact (retIB_lit ((Below.refl _ _).alloc (Nat.le_refl _) _) _ _ 2 rfl (by have := HM.out; omega) rfl _ _ (by simp [pbOk, ar, *])).drew
  · go_enter Try.func95, Try.ntmps95
    go_wp2_with (first | (go_at_call 33; refine (impl_inRange _ _ _).mono ?_; rintro e w' ⟨rfl, rfl⟩) | (go_at_call 97; refine (impl_hasNoneBelow _ _ _ _ _ _).mono ?_; rintro e w1 ⟨rfl, hb⟩; obtain ⟨hc, hf⟩ := below_bcell hb))
    go_region
    all_goals
      go_wp2
      go_ret2
      exact (retIB_lit ((Below.refl _ _).alloc (Nat.le_refl _) _) _ _ 3 rfl (by have := HM.out; omega) rfl _ _ (by simp [pbOk, ar, *])).drew
  · have k0 : (k == 0) = false := by simp; omega
    have k1 : (k == 1) = false := by simp; omega
    have k2 : (k == 2) = false := by simp; omega
    have k3 : (k == 3) = false := by simp; omega
    have k4 : (k == 4) = false := by simp; omega
    have k5 : (k == 5) = false := by simp; omega
    have k6 : (k == 6) = false := by simp; omega
    have k7 : (k == 7) = false := by simp; omega
    have k8 : (k == 8) = false := by simp; omega
    have ha : ar k = -1 := by unfold ar; rw [if_neg (by omega), if_neg (by omega), if_neg (by omega)]
    have H1 : pbI ⟨k, a, b, c, n⟩ = [] := by simp [pbI, k8, ha]
    have H2 : pbOk ⟨k, a, b, c, n⟩ = false := by simp [pbOk, k0, k1, ha]
    rw [H1, H2]
    clear ha H1 H2 hk
    go_enter Try.func95, Try.ntmps95
    go_wp2_with (first | (go_at_call 33; refine (impl_inRange _ _ _).mono ?_; rintro e w' ⟨rfl, rfl⟩) | (go_at_call 97; refine (impl_hasNoneBelow _ _ _ _ _ _).mono ?_; rintro e w1 ⟨rfl, hb⟩; obtain ⟨hc, hf⟩ := below_bcell hb))
    go_ret2
    exact retIB_nil ((Below.refl _ _).alloc (Nat.le_refl _) _) _ _ rfl
end Go.Proofs.Ytfooafnfdeofoaa

namespace Go.Proofs.Ytfooafnfdeofoaa
set_option linter.unusedSimpArgs false
set_option linter.unusedVariables false
open Go.RowKit
theorem pbI_bel (p : Pt) : pbI p = bel p := by
  unfold pbI
  by_cases h8 : p.k = 8
  · simp [h8]
  · by_cases h2 : ar p.k = 2
    · simp [h2]
    · have h3 : ar p.k ≠ 3 := by
        unfold ar at h2 ⊢
        split
        · omega
        · split
          · omega
          · simp
      simp [h8, h2, bel, h3]
theorem good_iff (p : Pt) (i : Int) : goodPt p i = (pbOk p && decide (∀ b ∈ bel p, 0 ≤ b ∧ b ≤ i - 1)) := by
  by_cases h0 : p.k = 0
  · have : ar p.k = 0 := by simp [ar, h0]
    simp [goodPt, pbOk, h0, this, bel, noneB, ar]
  · by_cases h1 : p.k = 1
    · have : ar p.k = 0 := by simp [ar, h1]
      simp [goodPt, pbOk, h1, this, bel, noneB, ar]
    · have hn : ar p.k ≠ 0 := by
        unfold ar
        split
        · omega
        · split
          · omega
          · split <;> omega
      by_cases h2 : ar p.k = 2
      · simp [goodPt, pbOk, h0, h1, h2, bel, rng]
        rw [Bool.eq_iff_iff]
        simp
        constructor
        · rintro ⟨⟨⟨⟨a1, a2⟩, b1, b2⟩, c⟩, d⟩; exact ⟨⟨c, d⟩, ⟨a1, a2⟩, b1, b2⟩
        · rintro ⟨⟨c, d⟩, ⟨a1, a2⟩, b1, b2⟩; exact ⟨⟨⟨⟨a1, a2⟩, b1, b2⟩, c⟩, d⟩
      · by_cases h3 : ar p.k = 3
        · simp [goodPt, pbOk, h0, h1, h3, bel, rng]
          rw [Bool.eq_iff_iff]
          simp
          constructor
          · rintro ⟨⟨⟨⟨a1, a2⟩, b1, b2⟩, c1, c2⟩, d⟩; exact ⟨d, ⟨a1, a2⟩, ⟨b1, b2⟩, c1, c2⟩
          · rintro ⟨d, ⟨a1, a2⟩, ⟨b1, b2⟩, c1, c2⟩; exact ⟨⟨⟨⟨a1, a2⟩, b1, b2⟩, c1, c2⟩, d⟩
        · simp [goodPt, pbOk, h0, h1, h2, h3, hn]
theorem sum_counts_cons (x : Int) (L : List Int) (m : Nat) : ((List.range m).map fun i : Nat => (x :: L).count (i : Int)).sum = ((List.range m).map fun i : Nat => L.count (i : Int)).sum + if 0 ≤ x ∧ x < m then 1 else 0 := by
  induction m with
  | zero =>
    rw [if_neg (by omega)]; rfl
  | succ m ih =>
    rw [List.range_succ, List.map_append, List.sum_append, ih, List.map_append, List.sum_append]
    simp only [List.map_cons, List.map_nil, List.sum_cons, List.sum_nil, List.count_cons]
    by_cases e : x = (m : Int)
    · subst e
      have e1 : ¬ (0 ≤ (m : Int) ∧ (m : Int) < (m : Int)) := by omega
      have e2 : 0 ≤ (m : Int) ∧ (m : Int) < ((m + 1 : Nat) : Int) := by omega
      rw [if_neg e1, if_pos e2]
      simp; omega
    · have : ((x == (m : Int)) = true) = False := by simp [e]
      simp only [this, if_false]
      by_cases h : 0 ≤ x ∧ x < (m : Int)
      · rw [if_pos h, if_pos (by omega)]; omega
      · rw [if_neg h, if_neg (by omega)]; omega
theorem sum_counts (L : List Int) (m : Nat) (h : ∀ x ∈ L, 0 ≤ x ∧ x < (m : Int)) : ((List.range m).map fun i : Nat => L.count (i : Int)).sum = L.length := by
  induction L with
  | nil =>
    clear h
    induction m with
    | zero => rfl
    | succ m ih => rw [List.range_succ, List.map_append, List.sum_append, ih]; simp
  | cons x L ih =>
    rw [sum_counts_cons, ih fun y hy => h y (List.mem_cons_of_mem _ hy), if_pos (h x List.mem_cons_self)]; simp
theorem sum_ones (f : Nat → Nat) (m : Nat) (h : ∀ i, i < m → f i ≤ 1) : ((List.range m).map f).sum ≤ m ∧ (((List.range m).map f).sum = m ↔ ∀ i, i < m → f i = 1) := by
  induction m with
  | zero => simp
  | succ m ih =>
    obtain ⟨h1, h2⟩ := ih fun i hi => h i (by omega)
    have h3 := h m (by omega)
    rw [List.range_succ, List.map_append, List.sum_append]
    simp only [List.map_cons, List.map_nil, List.sum_cons, List.sum_nil]
    refine ⟨by omega, fun e => ?_, fun e => ?_⟩
    · have hm : ((List.range m).map f).sum = m := by omega
      have := h2.1 hm
      intro i hi
      rcases Nat.lt_or_ge i m with hlt | hge
      · exact this i hlt
      · obtain rfl : i = m := by omega
        omega
    · have := h2.2 fun i hi => e i (by omega)
      have := e m (by omega)
      omega
theorem marks_fin (L : List Int) (m : Nat) (hn : L.Nodup) (h : ∀ x ∈ L, 0 ≤ x ∧ x < (m : Int)) : L.length = m ↔ ∀ i, i < m → L.count (i : Int) = 1 := by
  have h1 := sum_ones (fun i : Nat => L.count (i : Int)) m fun i _ => by
    exact List.nodup_iff_count.1 hn _
  rw [← sum_counts L m h]
  exact h1.2
theorem validF_dup (ps : List Pt) (k m : Nat) (h : k < ps.length) (hm : m < (bel (ps.getD k default)).length) (t : Nat) (ht : (bel (ps.getD k default)).getD m 0 = (t : Int)) (htk : t < k)
    (hin : (t : Int) ∈ (ps.take k).flatMap bel ++ (bel (ps.getD k default)).take m) : validF ps = false := by
  refine validF_cnt ps t (by omega) ?_
  have hsplit : ps = ps.take (k + 1) ++ ps.drop (k + 1) := (List.take_append_drop _ _).symm
  have h1 : (ps.flatMap bel).count (t : Int) = ((ps.take (k + 1)).flatMap bel).count (t : Int) + ((ps.drop (k + 1)).flatMap bel).count (t : Int) := by
    conv => lhs; rw [hsplit]
    rw [List.flatMap_append, List.count_append]
  have h2 := take_flat ps k h
  have h3 : bel (ps.getD k default) = (bel (ps.getD k default)).take m ++ (bel (ps.getD k default)).drop m := (List.take_append_drop _ _).symm
  have h4 : (t : Int) ∈ (bel (ps.getD k default)).drop m := by
    rw [List.drop_eq_getElem_cons hm]
    refine List.mem_cons.2 (.inl ?_)
    rw [← ht]
    generalize bel (ps.getD k default) = M at *
    simp [List.getD, hm]
  have h5 : ((ps.take (k + 1)).flatMap bel).count (t : Int) = ((ps.take k).flatMap bel ++ (bel (ps.getD k default)).take m).count (t : Int) + ((bel (ps.getD k default)).drop m).count (t : Int) := by
    rw [h2]
    conv => lhs; rw [h3]
    rw [← List.append_assoc, List.count_append]
  have h6 := List.count_pos_iff.2 hin
  have h7 := List.count_pos_iff.2 h4
  omega
theorem take_succ_int (M : List Int) (m : Nat) (x : Int) (h : m < M.length) (hx : M.getD m 0 = x) : M.take (m + 1) = M.take m ++ [x] := by
  rw [List.take_succ_eq_append_getElem h, ← hx]; simp [List.getD, h]
/-- With good parts and no number twice: valid exactly if there are as many below as there are parts but one. -/
theorem validF_marks (ps : List Pt) (h1 : 1 ≤ ps.length) (h12 : ps.length ≤ 12) (hg : ∀ i, i < ps.length → goodPt (ps.getD i default) i = true) (hd : (ps.flatMap bel).Nodup) :
    validF ps = ((((ps.flatMap bel).length : Nat) : Int) == (ps.length : Int) - 1) := by
  have hr : ∀ x ∈ ps.flatMap bel, 0 ≤ x ∧ x < ((ps.length - 1 : Nat) : Int) := by
    intro x hx
    obtain ⟨p, hp, hxp⟩ := List.mem_flatMap.1 hx
    obtain ⟨i, hi, rfl⟩ := List.mem_iff_getElem.1 hp
    have := hg i hi
    rw [show ps.getD i default = ps[i] by simp [List.getD, hi]] at this
    have := good_bel _ _ this x hxp
    omega
  have hm := marks_fin _ _ hd hr
  have hrng : rng ps.length 1 12 = true := by simp [rng]; omega
  have hgd : decide (∀ i, i < ps.length → goodPt (ps.getD i default) i = true) = true := decide_eq_true hg
  unfold validF
  rw [hgd, hrng, Bool.eq_iff_iff]
  simp only [Bool.true_and, Bool.and_true, decide_eq_true_eq, beq_iff_eq]
  rw [← hm]
  omega
end Go.Proofs.Ytfooafnfdeofoaa

namespace Go.Proofs.Ytfooafnfdeofoaa
set_option linter.unusedSimpArgs false
set_option linter.unusedVariables false
open Go.RowKit
theorem below_of_drew {C : Nat} {w w' : World} (h : Below C w.drew w') : Below C w w' := ⟨h.os, h.tape, h.output, h.size, h.block⟩
def Tm.val : Tm → Value
  | .num v => .iface 109 (.agg #[.int .i64 v])
  | .rd v => .iface 111 (.agg #[.int .i64 v])
  | .pr k l r => .iface 113 (.agg #[.int .i64 k, l.val, r.val])
  | .ch t a b => .iface 116 (.agg #[t.val, a.val, b.val])
theorem Tm.val_form (t : Tm) : ∃ T x, t.val = .iface T x := by
  cases t <;> exact ⟨_, _, rfl⟩
/-- Returns a term. -/
def RetT (w : World) (t : Tm) (e : Ending) (w' : World) : Prop := ∃ T x, e = .returned (.iface T x) ∧ Tm.val t = .iface T x ∧ Below w.heap.size w w'
theorem good_bel_nat (p : Pt) (i : Nat) (h : goodPt p i = true) : (2 ≤ p.k ∧ p.k ≤ 7 → ∃ a b : Nat, p.a = a ∧ p.b = b ∧ a < i ∧ b < i) ∧ (p.k = 8 → ∃ a b c : Nat, p.a = a ∧ p.b = b ∧ p.c = c ∧ a < i ∧ b < i ∧ c < i) := by
  have hb := good_bel p i h
  constructor
  · intro hk
    have h2 : ar p.k = 2 := by unfold ar; rw [if_neg (by omega), if_pos hk]
    have h1 : bel p = [p.a, p.b] := by simp [bel, h2]
    rw [h1] at hb
    have ha := hb p.a (by simp)
    have hb' := hb p.b (by simp)
    exact ⟨p.a.toNat, p.b.toNat, by omega, by omega, by omega, by omega⟩
  · intro hk
    have h2 : ar p.k = 3 := by unfold ar; rw [if_neg (by omega), if_neg (by omega), if_pos hk]
    have h1 : bel p = [p.a, p.b, p.c] := by simp [bel, h2]
    rw [h1] at hb
    have ha := hb p.a (by simp)
    have hb' := hb p.b (by simp)
    have hc := hb p.c (by simp)
    exact ⟨p.a.toNat, p.b.toNat, p.c.toNat, by omega, by omega, by omega, by omega, by omega, by omega⟩
theorem good_kind (p : Pt) (i : Int) (h : goodPt p i = true) : p.k = 0 ∨ p.k = 1 ∨ (2 ≤ p.k ∧ p.k ≤ 7) ∨ p.k = 8 := by
  rcases ar_cases p.k with h1 | h1 | h1 | h1 | h1 | h1 | h1 | h1 | h1 | h1
  all_goals try omega
  exfalso
  have ha : ar p.k = -1 := by unfold ar; rw [if_neg (by omega), if_neg (by omega), if_neg (by omega)]
  simp [goodPt, ha] at h
set_option maxRecDepth 100000 in
set_option maxHeartbeats 3200000 in
theorem impl_termAt (A : Option Addr) (n c : Nat) (ps : List Pt) (B : Nat) (hn : n = ps.length) (hg : AllGood ps) (hs : n ≤ 2000000) (f : Nat) :
    ∀ (i : Nat) (w : World), i < f → i < n → B ≤ w.heap.size → PS w B A ps →
    Calls Try.prog 91 #[.slice A n c, .int .i64 i] w fun e w' => RetT w (tmAt ps f i) e w' := by
  induction f with
  | zero => intro i w hi; omega
  | succ f ih =>
    intro i w hif hin hB h
    obtain ⟨b, off, rfl, hbB, hc⟩ := h (by omega)
    obtain ⟨c0, c1, c2, c3, c4⟩ := hc i (by omega)
    clear hc
    have hgi := hg i (by omega)
    have H := Lib.hid h
    have IH := Lib.hid ih
    have HG := Lib.hid hg
    have HN := Lib.hid hn
    clear h ih hg hn
    generalize hp : ps.getD i default = p at *
    have HP := Lib.hid hp
    clear hp
    rcases good_kind p i hgi with h0 | h1 | h2 | h8
    · have k0 : (p.k == 0) = true := by simp [h0]
      have hr : tmAt ps (f + 1) i = .num p.n := by simp only [tmAt, HP.out, k0, if_true]
      rw [hr]
      clear hr h0 hgi
      go_enter Try.func91, Try.ntmps91
      go_wp2
      go_ret
      exact ⟨_, _, rfl, rfl, (Below.refl _ _).alloc (Nat.le_refl _) _⟩
    · have k0 : (p.k == 0) = false := by simp [h1]
      have k1 : (p.k == 1) = true := by simp [h1]
      have hr : tmAt ps (f + 1) i = .rd p.n := by simp only [tmAt, HP.out, k0, k1, if_true, if_false, Bool.false_eq_true]
      rw [hr]
      clear hr h1 hgi
      go_enter Try.func91, Try.ntmps91
      go_wp2
      go_ret
      exact ⟨_, _, rfl, rfl, (Below.refl _ _).alloc (Nat.le_refl _) _⟩
    · have k0 : (p.k == 0) = false := by simp; omega
      have k1 : (p.k == 1) = false := by simp; omega
      have k8 : (p.k == 8) = false := by simp; omega
      have hr : tmAt ps (f + 1) i = .pr p.k (tmAt ps f p.a.toNat) (tmAt ps f p.b.toNat) := by simp only [tmAt, HP.out, k0, k1, k8, if_false, Bool.false_eq_true]
      rw [hr]
      obtain ⟨ta, tb, ea, eb, la, lb⟩ := (good_bel_nat p i hgi).1 h2
      rw [ea, eb]
      rw [ea] at c1
      rw [eb] at c2
      simp only [Int.toNat_natCast]
      clear hr h2 hgi ea eb
      go_enter Try.func91, Try.ntmps91
      go_wp2_with fail
      have q0 : (w.alloc (.cells #[.int .i64 p.k, .int .i64 ta, .int .i64 tb, .int .i64 p.c, .int .i64 p.n] 103)).cell? ⟨w.heap.size, 0, none⟩ = some (.int .i64 p.k) := by go_simp
      have q1 : (w.alloc (.cells #[.int .i64 p.k, .int .i64 ta, .int .i64 tb, .int .i64 p.c, .int .i64 p.n] 103)).cell? ⟨w.heap.size, 1, none⟩ = some (.int .i64 ta) := by go_simp
      have q2 : (w.alloc (.cells #[.int .i64 p.k, .int .i64 ta, .int .i64 tb, .int .i64 p.c, .int .i64 p.n] 103)).cell? ⟨w.heap.size, 2, none⟩ = some (.int .i64 tb) := by go_simp
      have hB0 := (Below.refl w.heap.size w).alloc (Nat.le_refl _) (.cells #[.int .i64 p.k, .int .i64 ta, .int .i64 tb, .int .i64 p.c, .int .i64 p.n] 103)
      have hz : w.heap.size < (w.alloc (.cells #[.int .i64 p.k, .int .i64 ta, .int .i64 tb, .int .i64 p.c, .int .i64 p.n] 103)).heap.size := by simp
      have HW := Lib.hid (H.out.alloc hB (.cells #[.int .i64 p.k, .int .i64 ta, .int .i64 tb, .int .i64 p.c, .int .i64 p.n] 103))
      clear c0 c1 c2 c3 c4 H
      generalize w.alloc (.cells #[.int .i64 p.k, .int .i64 ta, .int .i64 tb, .int .i64 p.c, .int .i64 p.n] 103) = W at *
      go_region_held3 (fun w' => w'.cell? ⟨w.heap.size, 0, none⟩ = some (.int .i64 p.k) ∧ w'.cell? ⟨w.heap.size, 1, none⟩ = some (.int .i64 ta) ∧ w'.cell? ⟨w.heap.size, 2, none⟩ = some (.int .i64 tb)) (first | exact ⟨q0, q1, q2⟩ | exact ⟨q0', q1', q2'⟩ | exact ⟨q0'', q1'', q2''⟩)
        (first
          | (go_at_call_of 91 (Value.int IntKind.i64 ta); refine (IH.out ta _ (by omega) (by omega) ?_ ?_).mono ?_; (have := hB; show B ≤ W.heap.size; omega); exact HW.out; rintro e w1 ⟨T1, x1, rfl, hT1, hb1'⟩; have hb1 : Below W.heap.size W w1 := below_of_drew hb1'; have HT1 := Lib.hid hT1; clear hT1 hb1'; have q0' := (hb1.cell (p := ⟨w.heap.size, 0, none⟩) hz).trans q0; have q1' := (hb1.cell (p := ⟨w.heap.size, 1, none⟩) hz).trans q1; have q2' := (hb1.cell (p := ⟨w.heap.size, 2, none⟩) hz).trans q2)
          | (go_at_call_of 91 (Value.int IntKind.i64 tb); refine (IH.out tb _ (by omega) (by omega) ?_ ?_).mono ?_; (have := hb1.size; omega); exact HW.out.below hb1 (by omega); rintro e w2 ⟨T2, x2, rfl, hT2, hb2⟩; have HT2 := Lib.hid hT2; clear hT2; have q0'' := (hb2.cell (p := ⟨w.heap.size, 0, none⟩) (by have := hb1.size; show w.heap.size < w1.heap.size; omega)).trans q0'; have q1'' := (hb2.cell (p := ⟨w.heap.size, 1, none⟩) (by have := hb1.size; show w.heap.size < w1.heap.size; omega)).trans q1'; have q2'' := (hb2.cell (p := ⟨w.heap.size, 2, none⟩) (by have := hb1.size; show w.heap.size < w1.heap.size; omega)).trans q2'))
      go_wp2
      go_ret
      refine ⟨_, _, rfl, ?_, hB0.trans ((hb1.trans (hb2.mono hb1.size)).mono (by omega))⟩
      have e1 := HT1.out
      have e2 := HT2.out
      simp [Tm.val, e1, e2]
    · have k0 : (p.k == 0) = false := by simp; omega
      have k1 : (p.k == 1) = false := by simp; omega
      have k8 : (p.k == 8) = true := by simp; omega
      have hr : tmAt ps (f + 1) i = .ch (tmAt ps f p.a.toNat) (tmAt ps f p.b.toNat) (tmAt ps f p.c.toNat) := by simp only [tmAt, HP.out, k0, k1, k8, if_true, if_false, Bool.false_eq_true]
      rw [hr]
      obtain ⟨ta, tb, tc, ea, eb, ec, la, lb, lc⟩ := (good_bel_nat p i hgi).2 h8
      rw [ea, eb, ec]
      rw [ea] at c1
      rw [eb] at c2
      rw [ec] at c3
      simp only [Int.toNat_natCast]
      clear hr h8 hgi ea eb ec
      go_enter Try.func91, Try.ntmps91
      go_wp2_with fail
      have q1 : (w.alloc (.cells #[.int .i64 p.k, .int .i64 ta, .int .i64 tb, .int .i64 tc, .int .i64 p.n] 103)).cell? ⟨w.heap.size, 1, none⟩ = some (.int .i64 ta) := by go_simp
      have q2 : (w.alloc (.cells #[.int .i64 p.k, .int .i64 ta, .int .i64 tb, .int .i64 tc, .int .i64 p.n] 103)).cell? ⟨w.heap.size, 2, none⟩ = some (.int .i64 tb) := by go_simp
      have q3 : (w.alloc (.cells #[.int .i64 p.k, .int .i64 ta, .int .i64 tb, .int .i64 tc, .int .i64 p.n] 103)).cell? ⟨w.heap.size, 3, none⟩ = some (.int .i64 tc) := by go_simp
      have hB0 := (Below.refl w.heap.size w).alloc (Nat.le_refl _) (.cells #[.int .i64 p.k, .int .i64 ta, .int .i64 tb, .int .i64 tc, .int .i64 p.n] 103)
      have hz : w.heap.size < (w.alloc (.cells #[.int .i64 p.k, .int .i64 ta, .int .i64 tb, .int .i64 tc, .int .i64 p.n] 103)).heap.size := by simp
      have HW := Lib.hid (H.out.alloc hB (.cells #[.int .i64 p.k, .int .i64 ta, .int .i64 tb, .int .i64 tc, .int .i64 p.n] 103))
      clear c0 c1 c2 c3 c4 H
      generalize w.alloc (.cells #[.int .i64 p.k, .int .i64 ta, .int .i64 tb, .int .i64 tc, .int .i64 p.n] 103) = W at *
      go_region_held3 (fun w' => w'.cell? ⟨w.heap.size, 1, none⟩ = some (.int .i64 ta) ∧ w'.cell? ⟨w.heap.size, 2, none⟩ = some (.int .i64 tb) ∧ w'.cell? ⟨w.heap.size, 3, none⟩ = some (.int .i64 tc)) (first | exact ⟨q1, q2, q3⟩ | exact ⟨q1', q2', q3'⟩ | exact ⟨q1'', q2'', q3''⟩ | exact ⟨q1''', q2''', q3'''⟩)
        (first
          | (go_at_call_of 91 (Value.int IntKind.i64 ta); refine (IH.out ta _ (by omega) (by omega) ?_ ?_).mono ?_; (have := hB; show B ≤ W.heap.size; omega); exact HW.out; rintro e w1 ⟨T1, x1, rfl, hT1, hb1'⟩; have hb1 : Below W.heap.size W w1 := below_of_drew hb1'; have HT1 := Lib.hid hT1; clear hT1 hb1'; have hz1 : w.heap.size < w1.heap.size := Nat.lt_of_lt_of_le hz hb1.size; have HW1 := Lib.hid (HW.out.below hb1 (by omega)); have q1' := (hb1.cell (p := ⟨w.heap.size, 1, none⟩) hz).trans q1; have q2' := (hb1.cell (p := ⟨w.heap.size, 2, none⟩) hz).trans q2; have q3' := (hb1.cell (p := ⟨w.heap.size, 3, none⟩) hz).trans q3)
          | (go_at_call_of 91 (Value.int IntKind.i64 tb); refine (IH.out tb _ (by omega) (by omega) ?_ ?_).mono ?_; (omega); exact HW1.out; rintro e w2 ⟨T2, x2, rfl, hT2, hb2⟩; have HT2 := Lib.hid hT2; clear hT2; have hz2 : w.heap.size < w2.heap.size := Nat.lt_of_lt_of_le hz1 hb2.size; have HW2 := Lib.hid (HW1.out.below hb2 (by omega)); have q1'' := (hb2.cell (p := ⟨w.heap.size, 1, none⟩) (by first | exact hz | (have := hz1; show w.heap.size < w1.heap.size; omega))).trans q1'; have q2'' := (hb2.cell (p := ⟨w.heap.size, 2, none⟩) (by first | exact hz | (have := hz1; show w.heap.size < w1.heap.size; omega))).trans q2'; have q3'' := (hb2.cell (p := ⟨w.heap.size, 3, none⟩) (by first | exact hz | (have := hz1; show w.heap.size < w1.heap.size; omega))).trans q3')
          | (go_at_call_of 91 (Value.int IntKind.i64 tc); refine (IH.out tc _ (by omega) (by omega) ?_ ?_).mono ?_; (omega); exact HW2.out; rintro e w3 ⟨T3, x3, rfl, hT3, hb3⟩; have HT3 := Lib.hid hT3; clear hT3; have hz3 : w.heap.size < w3.heap.size := Nat.lt_of_lt_of_le hz2 hb3.size; have HW3 := Lib.hid (HW2.out.below hb3 (by omega)); have q1''' := (hb3.cell (p := ⟨w.heap.size, 1, none⟩) (by first | exact hz | (have := hz2; show w.heap.size < w2.heap.size; omega))).trans q1''; have q2''' := (hb3.cell (p := ⟨w.heap.size, 2, none⟩) (by first | exact hz | (have := hz2; show w.heap.size < w2.heap.size; omega))).trans q2''; have q3''' := (hb3.cell (p := ⟨w.heap.size, 3, none⟩) (by first | exact hz | (have := hz2; show w.heap.size < w2.heap.size; omega))).trans q3''))
      go_wp2
      go_ret
      refine ⟨_, _, rfl, ?_, hB0.trans ((hb1.trans ((hb2.trans (hb3.mono hb2.size)).mono hb1.size)).mono (by omega))⟩
      have e1 := HT1.out
      have e2 := HT2.out
      have e3 := HT3.out
      simp [Tm.val, e1, e2, e3]
end Go.Proofs.Ytfooafnfdeofoaa

namespace Go.Proofs.Ytfooafnfdeofoaa
set_option linter.unusedSimpArgs false
set_option linter.unusedVariables false
open Go.RowKit
/-- Twelve marks: which numbers stand in the list. -/
def Mrk (w : World) (g : Nat) (L : List Int) : Prop :=
  g < w.heap.size ∧ ∀ t : Nat, t < 12 → w.cell? ⟨g, t, none⟩ = some (.bool (decide ((t : Int) ∈ L))) ∧ w.frozen? ⟨g, t, none⟩ = false
theorem Mrk.below {w w' : World} {g : Nat} {L : List Int} (h : Mrk w g L) (hb : Below w.heap.size w w') : Mrk w' g L :=
  ⟨Nat.lt_of_lt_of_le h.1 hb.size, fun t ht => ⟨(hb.cell (p := ⟨g, t, none⟩) h.1).trans (h.2 t ht).1, (hb.frozen (p := ⟨g, t, none⟩) h.1).trans (h.2 t ht).2⟩⟩
theorem Mrk.set {w : World} {g : Nat} {L : List Int} (h : Mrk w g L) (t : Nat) (ht : t < 12) : Mrk (w.setCell ⟨g, t, none⟩ (.bool true)) g (L ++ [(t : Int)]) := by
  refine ⟨by simpa [World.setCell] using h.1, fun j hj => ?_⟩
  obtain ⟨h1, h2⟩ := h.2 j hj
  by_cases e : j = t
  · subst e
    refine ⟨?_, by simpa using h2⟩
    rw [World.cell?_setCell_same _ _ _ h1]; try simp
  · refine ⟨?_, by simpa using h2⟩
    rw [World.cell?_setCell_other _ _ _ _ (by intro e'; simp at e'; try omega), h1]
    have : ((j : Int) = (t : Int)) = False := by simp; omega
    simp [this]
set_option maxRecDepth 100000 in
set_option maxHeartbeats 1600000 in
theorem impl_ValidFormula (A : Option Addr) (n c : Nat) (ps : List Pt) (w : World) (B : Nat) (hB : B ≤ w.heap.size) (hn : n = ps.length) (h : PS w B A ps) (hs : n ≤ 2000000) :
    Calls Try.prog 83 #[.agg #[.slice A n c]] w fun e w' => e = .returned (.bool (validF ps)) ∧ Below w.heap.size w w' := by
  by_cases h1 : n < 1
  · have hf : validF ps = false := by
      unfold validF rng
      have : ¬ (1 ≤ (ps.length : Int) ∧ (ps.length : Int) ≤ 12) := by omega
      simp [this]
    rw [hf]
    clear hn h hf
    go_enter Try.func83, Try.ntmps83
    go_wp2
    go_ret
    exact ⟨rfl, (Below.refl _ _).alloc (Nat.le_refl _) _⟩
  by_cases h12 : 12 < n
  · have hf : validF ps = false := by
      unfold validF rng
      have : ¬ (1 ≤ (ps.length : Int) ∧ (ps.length : Int) ≤ 12) := by omega
      simp [this]
    rw [hf]
    clear hn h hf
    go_enter Try.func83, Try.ntmps83
    go_wp2
    go_ret
    exact ⟨rfl, (Below.refl _ _).alloc (Nat.le_refl _) _⟩
  have H := Lib.hid h
  have HN := Lib.hid hn
  clear hn h
  go_enter Try.func83, Try.ntmps83
  go_wp2
  go_loopw [24, 4] (fun i u wr => ∃ k : Nat, k ≤ n ∧ i = .int .i64 k ∧ u = .int .i64 (((ps.take k).flatMap bel).length : Nat) ∧ Hid (Mrk wr (w.heap.size + 1) ((ps.take k).flatMap bel)) ∧ Hid (((ps.take k).flatMap bel).Nodup) ∧ Hid (∀ j, j < k → goodPt (ps.getD j default) j = true) ∧ Below (w.heap.size + 1) (w.alloc (.cells #[.slice A n c] 56)) wr) (fun i _ _ => n - (intOf i).toNat)
  case atStart =>
    refine ⟨0, Nat.zero_le _, rfl, rfl, ⟨by simp, fun t ht => ?_⟩, List.nodup_nil, by intro j hj; omega, (Below.refl _ _).alloc (by simp) _⟩
    have ht' : t = 0 ∨ t = 1 ∨ t = 2 ∨ t = 3 ∨ t = 4 ∨ t = 5 ∨ t = 6 ∨ t = 7 ∨ t = 8 ∨ t = 9 ∨ t = 10 ∨ t = 11 := by omega
    rcases ht' with rfl | rfl | rfl | rfl | rfl | rfl | rfl | rfl | rfl | rfl | rfl | rfl <;> exact ⟨by go_simp, by go_simp⟩
  case round =>
    obtain ⟨k, hk, rfl, rfl, HM, HD, HG, hb⟩ := hrel
    have hbox : wr.cell? ⟨w.heap.size, 0, none⟩ = some (.slice A n c) := (hb.cell (p := ⟨w.heap.size, 0, none⟩) (by simp)).trans (by go_simp)
    have hgs : w.heap.size + 1 < wr.heap.size := HM.out.1
    have hfl : ((ps.take k).flatMap bel).length ≤ 36 := by
      have h2 := flat_len (ps.take k)
      have h3 : (ps.take k).length ≤ k := List.length_take_le _ _
      omega
    by_cases hlt : k < n
    · obtain ⟨b, off, rfl, hbB, hc⟩ := H.out (by have := HN.out; omega)
      obtain ⟨c0, c1, c2, c3, c4⟩ := hc k (by have := HN.out; omega)
      clear hc
      have hbw : b < w.heap.size := by omega
      have hbr : b < wr.heap.size := by omega
      have b0 := ((hb.cell (p := ⟨b, off + k * 5, none⟩) (by simp; omega)).trans (World.cell?_alloc_lt _ _ _ (by simpa using hbw))).trans c0
      have b1 := ((hb.cell (p := ⟨b, off + k * 5 + 1, none⟩) (by simp; omega)).trans (World.cell?_alloc_lt _ _ _ (by simpa using hbw))).trans c1
      have b2 := ((hb.cell (p := ⟨b, off + k * 5 + 2, none⟩) (by simp; omega)).trans (World.cell?_alloc_lt _ _ _ (by simpa using hbw))).trans c2
      have b3 := ((hb.cell (p := ⟨b, off + k * 5 + 3, none⟩) (by simp; omega)).trans (World.cell?_alloc_lt _ _ _ (by simpa using hbw))).trans c3
      have b4 := ((hb.cell (p := ⟨b, off + k * 5 + 4, none⟩) (by simp; omega)).trans (World.cell?_alloc_lt _ _ _ (by simpa using hbw))).trans c4
      clear c0 c1 c2 c3 c4 H
      generalize hp : ps.getD k default = p at *
      have HP := Lib.hid hp
      clear hp
      generalize hF : (ps.take k).flatMap bel = Fk at *
      have HF := Lib.hid hF
      clear hF
      go_wp2_with fail
      refine (impl_partsBelow p _).mono ?_
      rintro e w2 ⟨v, rfl, hown, hb2⟩
      obtain ⟨A2, c2, rfl, hI⟩ := hown.form
      clear hI
      rw [pbI_bel] at hown ⊢
      have HO := Lib.hid hown
      have HM2 : Hid (Mrk w2 (w.heap.size + 1) (Fk ++ (bel p).take 0)) := by
        have := (HM.out.below ((Below.refl _ _).alloc (Nat.le_refl _) _)).below hb2
        simpa [Hid] using this
      have hbw2 := (hb.alloc (by omega) _).trans (hb2.mono (by simp; omega))
      clear hown HM hb b0 b1 b2 b3 b4
      cases hok : pbOk p
      · go_wp2
        go_ret
        refine ⟨ret_b ?_, ((Below.refl _ _).alloc (Nat.le_refl _) _).trans (hbw2.mono (by omega))⟩
        have hgf : goodPt p k = false := by rw [good_iff, hok]; rfl
        simp [validF_bad ps k (by have := HN.out; omega) (by rw [HP.out]; exact hgf)]
      · have HOK := Lib.hid hok
        clear hok
        generalize hL : (bel p).length = L at *
        have HL := Lib.hid hL
        have hL3 : L ≤ 3 := by rw [← hL]; exact bel_len p
        clear hL hbox
        go_wp2
        go_loopw [38, 4] (fun i u wi => ∃ m : Nat, m ≤ L ∧ i = .int .i64 m ∧ u = .int .i64 ((Fk.length + m : Nat)) ∧ Hid (Mrk wi (w.heap.size + 1) (Fk ++ (bel p).take m)) ∧ Hid ((Fk ++ (bel p).take m).Nodup) ∧ Hid (∀ x ∈ (bel p).take m, 0 ≤ x ∧ x ≤ (k : Int) - 1) ∧ Hid (wi.ownsRow (wr.heap.size + 1) 3 1 (.slice A2 L c2) L ((bel p).map (Value.int .i64))) ∧ Hid (Below (w.heap.size + 1) w2 wi)) (fun i _ _ => L - (intOf i).toNat)
        case atStart => exact ⟨0, Nat.zero_le _, rfl, rfl, HM2.out, by simpa [Hid] using HD.out, by simp [Hid], by have := HO.out; simp only [OwnI, World.size_alloc] at this; rw [HL.out] at this; exact this, Below.refl _ _⟩
        case round =>
          clear HM2 HO
          obtain ⟨m, hm, rfl, rfl, HM, HD2, HR, HO, HB⟩ := hrel
          by_cases hml : m < L
          · obtain ⟨b2, off2, rfl, hb2', hc2⟩ := (IS.of_own HO.out) (by have := HL.out; omega)
            have hx := hc2 m (by have := HL.out; omega)
            clear hc2
            generalize hxx : (bel p).getD m 0 = x at *
            have HX := Lib.hid hxx
            clear hxx
            cases hr : rng x 0 ((k : Int) - 1)
            · go_wp2_with (go_at_call 33; refine (impl_inRange _ _ _).mono ?_; rintro e w' ⟨rfl, rfl⟩)
              go_ret
              refine ⟨ret_b ?_, ((Below.refl _ _).alloc (Nat.le_refl _) _).trans ((hbw2.trans HB.out).mono (by omega))⟩
              have hgf : goodPt p k = false := by
                cases hgg : goodPt p k
                · rfl
                · have := good_bel p k hgg x (by rw [← HX.out]; simp [List.getD, show m < (bel p).length by have := HL.out; omega])
                  simp [rng] at hr
                  omega
              simp [validF_bad ps k (by have := HN.out; omega) (by rw [HP.out]; exact hgf)]
            · obtain ⟨t, rfl⟩ : ∃ t : Nat, x = (t : Int) := ⟨x.toNat, by simp [rng] at hr; omega⟩
              have htk : t < k := by simp [rng] at hr; omega
              obtain ⟨hu1, hu2⟩ := HM.out.2 t (by omega)
              cases hin : decide ((t : Int) ∈ Fk ++ (bel p).take m)
              · have HIN := Lib.hid hin
                rw [hin] at hu1
                clear hin
                go_wp2_with (go_at_call 33; refine (impl_inRange _ _ _).mono ?_; rintro e w' ⟨rfl, rfl⟩)
                go_roundw
                case rel =>
                  have hts := take_succ_int (bel p) m _ (by have := HL.out; omega) HX.out
                  have hn0 := HM.out.set t (by omega)
                  have hnm : ¬ (t : Int) ∈ Fk ++ (bel p).take m := of_decide_eq_false HIN.out
                  have hown := ownsRow_setCell_below HO.out (a := ⟨w.heap.size + 1, t, none⟩) (by simp; try omega) (.bool true)
                  refine ⟨m + 1, by omega, by go_num, by go_num, ?_, ?_, ?_, hown, HB.out.setCell (p := ⟨w.heap.size + 1, t, none⟩) (by simp) _⟩
                  · rw [hts, ← List.append_assoc]; exact hn0
                  · rw [hts, ← List.append_assoc]
                    refine List.nodup_append.2 ⟨HD2.out, by simp, ?_⟩
                    intro a ha b hb e
                    simp at hb
                    subst hb
                    subst e
                    exact hnm ha
                  · rw [hts]
                    intro y hy
                    rcases List.mem_append.1 hy with hy | hy
                    · exact HR.out y hy
                    · simp at hy; omega
                case measure => simp [intOf]; omega
              · have HIN := Lib.hid hin
                rw [hin] at hu1
                clear hin
                go_wp2_with (go_at_call 33; refine (impl_inRange _ _ _).mono ?_; rintro e w' ⟨rfl, rfl⟩)
                go_ret
                refine ⟨ret_b ?_, ((Below.refl _ _).alloc (Nat.le_refl _) _).trans ((hbw2.trans HB.out).mono (by omega))⟩
                have hfd : validF ps = false := by
                  refine validF_dup ps k m (by have := HN.out; omega) (by rw [HP.out]; have := HL.out; omega) t (by rw [HP.out]; exact HX.out) htk ?_
                  rw [HF.out, HP.out]
                  exact of_decide_eq_true HIN.out
                simp [hfd]
          · go_wp2
            go_roundw
            case rel =>
              have hf := take_flat ps k (by have := HN.out; omega)
              rw [HP.out, HF.out] at hf
              have hmL : m = L := by omega
              have htm : (bel p).take m = bel p := List.take_of_length_le (by have := HL.out; omega)
              have hlen : ((Fk.length + m : Nat)) = ((ps.take (k + 1)).flatMap bel).length := by rw [hf, List.length_append, HL.out, hmL]
              refine ⟨k + 1, by omega, by go_num, by rw [← hlen]; try go_num, ?_, ?_, ?_, hbw2.trans HB.out⟩
              · rw [hf]; have := HM.out; rwa [htm] at this
              · rw [hf]; have := HD2.out; rwa [htm] at this
              · intro j hj
                rcases Nat.lt_or_ge j k with h1 | h1
                · exact HG.out j h1
                · obtain rfl : j = k := by omega
                  rw [HP.out, good_iff, HOK.out, Bool.true_and]
                  have := HR.out
                  rw [htm] at this
                  exact decide_eq_true this
            case measure => simp [intOf]; omega
    · obtain rfl : k = n := by omega
      rw [List.take_of_length_le (by have := HN.out; omega)] at HM HD hfl ⊢
      go_wp2
      go_ret
      refine ⟨ret_b ?_, ((Below.refl _ _).alloc (Nat.le_refl _) _).trans (hb.mono (by omega))⟩
      have hkn := HN.out
      rw [validF_marks ps (by omega) (by omega) (fun i hi => HG.out i (by omega)) HD.out, ← hkn]
      try simp
end Go.Proofs.Ytfooafnfdeofoaa

namespace Go.Proofs.Ytfooafnfdeofoaa
set_option linter.unusedSimpArgs false
set_option linter.unusedVariables false
open Go.RowKit
set_option maxHeartbeats 400000 in
theorem impl_wholeOf (A : Option Addr) (n c : Nat) (ps : List Pt) (B : Nat) (hn : n = ps.length) (hg : AllGood ps) (hs : n ≤ 2000000) (h1 : 1 ≤ n) (w : World) (hB : B ≤ w.heap.size) (h : PS w B A ps) :
    Calls Try.prog 76 #[.agg #[.slice A n c]] w fun e w' => RetT w (tmAt ps n (n - 1)) e w' := by
  have H := Lib.hid h
  have HN := Lib.hid hn
  have HG := Lib.hid hg
  clear h hn hg
  obtain ⟨m, rfl⟩ : ∃ m, n = m + 1 := ⟨n - 1, by omega⟩
  go_enter Try.func76, Try.ntmps76
  go_wp2_with fail
  refine (impl_termAt A (m + 1) c ps B HN.out HG.out hs (m + 1) m _ (by omega) (by omega) (by simp; omega) (H.out.alloc hB _)).mono ?_
  rintro e w1 ⟨T, x, rfl, hT, hb⟩
  have HT := Lib.hid hT
  clear hT
  go_wp2
  go_ret
  exact ⟨T, x, by simp, HT.out, ((Below.refl _ _).alloc (Nat.le_refl _) _).trans (hb.mono (by simp))⟩
end Go.Proofs.Ytfooafnfdeofoaa

namespace Go.Proofs.Ytfooafnfdeofoaa
set_option linter.unusedSimpArgs false
set_option linter.unusedVariables false
open Go.RowKit
theorem box2_loc (g : Nat) (v u : Value) : Loc g (g + 1) fun w => w.cell? ⟨g, 0, none⟩ = some v ∧ w.cell? ⟨g, 1, none⟩ = some u :=
  fun w w' h hk => ⟨(World.cell?_of_block (a := ⟨g, 0, none⟩) (hk g (Nat.le_refl _) (Nat.lt_succ_self _))).trans h.1, (World.cell?_of_block (a := ⟨g, 1, none⟩) (hk g (Nat.le_refl _) (Nat.lt_succ_self _))).trans h.2⟩
theorem box2_new (w : World) (v u : Value) (t : TypeId) : As w.heap.size (w.heap.size + 1) (fun w' => w'.cell? ⟨w.heap.size, 0, none⟩ = some v ∧ w'.cell? ⟨w.heap.size, 1, none⟩ = some u) (w.alloc (.cells #[v, u] t)) :=
  ⟨⟨by go_simp, by go_simp⟩, by simp, box2_loc _ _ _⟩
end Go.Proofs.Ytfooafnfdeofoaa

namespace Go.Proofs.Ytfooafnfdeofoaa
set_option linter.unusedSimpArgs false
set_option linter.unusedVariables false
open Go.RowKit
theorem mul_bd (x y : Int) (hx : 0 ≤ x) (hx' : x ≤ 999) (hy : 0 ≤ y) (hy' : y ≤ 999) : 0 ≤ x * y ∧ x * y ≤ 998001 :=
  ⟨Int.mul_nonneg hx hy, by
    have h1 : x * y ≤ 999 * y := Int.mul_le_mul_of_nonneg_right hx' hy
    omega⟩
theorem jn_bd (k x y : Int) (hx : 0 ≤ x) (hx' : x ≤ 999) (hy : 0 ≤ y) (hy' : y ≤ 999) : 0 ≤ jn k x y ∧ jn k x y ≤ 999 := by
  have := mul_bd x y hx hx' hy hy'
  unfold jn
  (repeat' split) <;> omega
theorem getD_mem' {α : Type} [Inhabited α] (l : List α) (m : Nat) (h : m < l.length) : l.getD m default ∈ l := by
  simp [List.getD, h]
set_option maxHeartbeats 800000 in
theorem impl_combine (k x y : Int) (hx : 0 ≤ x) (hx' : x ≤ 999) (hy : 0 ≤ y) (hy' : y ≤ 999) (w : World) :
    Calls Try.prog 90 #[.int .i64 k, .int .i64 x, .int .i64 y] w fun e w' => e = .returned (.int .i64 (jn k x y)) ∧ w = w' := by
  obtain ⟨hm0, hm1⟩ := mul_bd x y hx hx' hy hy'
  have hs : 0 ≤ x - y + 1000 := by omega
  go_enter Try.func90, Try.ntmps90
  go_wp2
  all_goals
    go_ret
    refine ⟨ret_i ?_, rfl⟩
    simp_all [jn]
    try omega
/-- There is a value for each node of the formula. -/
def eachOK (ps : List Pt) (n : Nat) : Bool := ps.all fun p => !(p.k == 1 && decide ((n : Int) ≤ p.n))
set_option maxRecDepth 100000 in
set_option maxHeartbeats 800000 in
theorem impl_hasEach (A A' : Option Addr) (n c m c' : Nat) (ps : List Pt) (w : World) (B : Nat) (hB : B ≤ w.heap.size) (hn : n = ps.length) (h : PS w B A ps) (hs : n ≤ 2000000) (hm : m ≤ 2000000) :
    Calls Try.prog 89 #[.agg #[.slice A n c], .slice A' m c'] w fun e w' => e = .returned (.bool (eachOK ps m)) ∧ Below w.heap.size w w' := by
  have H := Lib.hid h
  have HN := Lib.hid hn
  clear hn h
  go_enter Try.func89, Try.ntmps89
  go_wp2
  go_loopw [10] (fun i wr => ∃ k : Nat, k ≤ n ∧ i = .int .i64 k ∧ Hid (∀ j, j < k → ((ps.getD j default).k == 1 && decide ((m : Int) ≤ (ps.getD j default).n)) = false) ∧ Below w.heap.size w wr) (fun i _ => n - (intOf i).toNat)
  case atStart => exact ⟨0, Nat.zero_le _, rfl, by intro j hj; omega, (Below.refl _ _).alloc (Nat.le_refl _) _⟩
  case round =>
    obtain ⟨k, hk, rfl, HA, hb⟩ := hrel
    have hwr : w.heap.size ≤ wr.heap.size := hb.size
    by_cases hlt : k < n
    · obtain ⟨b, off, rfl, hbB, hc⟩ := H.out (by have := HN.out; omega)
      obtain ⟨c0, c1, c2, c3, c4⟩ := hc k (by have := HN.out; omega)
      clear hc
      have b0 := (hb.cell (p := ⟨b, off + k * 5, none⟩) (by simp; omega)).trans c0
      have b1 := (hb.cell (p := ⟨b, off + k * 5 + 1, none⟩) (by simp; omega)).trans c1
      have b2 := (hb.cell (p := ⟨b, off + k * 5 + 2, none⟩) (by simp; omega)).trans c2
      have b3 := (hb.cell (p := ⟨b, off + k * 5 + 3, none⟩) (by simp; omega)).trans c3
      have b4 := (hb.cell (p := ⟨b, off + k * 5 + 4, none⟩) (by simp; omega)).trans c4
      clear c0 c1 c2 c3 c4
      generalize hp : ps.getD k default = p at *
      have HP := Lib.hid hp
      clear hp
      cases h1 : (p.k == 1)
      · have H1 := Lib.hid h1
        go_wp2
        go_roundw
        case rel => exact ⟨k + 1, by omega, by go_num, fun j hj => by
          rcases Nat.lt_or_ge j k with h2 | h2
          · exact HA.out j h2
          · obtain rfl : j = k := by omega
            rw [HP.out, H1.out]; rfl, hb.alloc hwr _⟩
        case measure => simp [intOf]; omega
      · have H1 := Lib.hid h1
        by_cases h2 : (m : Int) ≤ p.n
        · have H2 := Lib.hid h2
          go_wp2
          go_ret
          refine ⟨ret_b ?_, hb.alloc hwr _⟩
          have hf : eachOK ps m = false := by
            unfold eachOK
            rw [List.all_eq_false]
            refine ⟨ps.getD k default, getD_mem' ps k (by have := HN.out; omega), ?_⟩
            rw [HP.out, H1.out, decide_eq_true H2.out]; simp
          rw [hf]; try rfl
        · have H2 := Lib.hid h2
          go_wp2
          go_roundw
          case rel => exact ⟨k + 1, by omega, by go_num, fun j hj => by
            rcases Nat.lt_or_ge j k with h3 | h3
            · exact HA.out j h3
            · obtain rfl : j = k := by omega
              rw [HP.out, H1.out, decide_eq_false H2.out]; rfl, hb.alloc hwr _⟩
          case measure => simp [intOf]; omega
    · go_wp2
      go_ret
      refine ⟨ret_b ?_, hb⟩
      have hf : eachOK ps m = true := by
        unfold eachOK
        rw [List.all_eq_true]
        intro x hx
        obtain ⟨j, hj, rfl⟩ := List.mem_iff_getElem.1 hx
        have := HA.out j (by have := HN.out; omega)
        rw [show ps.getD j default = ps[j] by simp [List.getD, hj]] at this
        rw [this]; rfl
      rw [hf]; try rfl
/-- The values serve the formula, as impl reckons it. -/
def canEv (ps : List Pt) (vs : List Int) : Bool := validF ps && ((decide (vs.length ≤ 10) && allR vs 0 999) && eachOK ps vs.length)
set_option maxHeartbeats 800000 in
theorem impl_canEvaluate (A A' : Option Addr) (n c m c' : Nat) (ps : List Pt) (vs : List Int) (w : World) (B : Nat) (hB : B ≤ w.heap.size) (hn : n = ps.length) (hm : m = vs.length) (h : PS w B A ps) (h' : IS w B A' vs) (hs : n ≤ 2000000) (hs' : m ≤ 2000000) :
    Calls Try.prog 74 #[.agg #[.slice A n c], .slice A' m c'] w fun e w' => e = .returned (.bool (canEv ps vs)) ∧ Below w.heap.size w w' := by
  have H := Lib.hid h
  have HN := Lib.hid hn
  have H' := Lib.hid h'
  have HM := Lib.hid hm
  clear hn h hm h'
  cases hv : validF ps
  · have hr : canEv ps vs = false := by simp [canEv, hv]
    rw [hr]
    have HV := Lib.hid hv
    clear hr hv
    go_enter Try.func74, Try.ntmps74
    go_wp2_with fail
    refine (impl_ValidFormula _ _ _ ps _ B (by simp; omega) HN.out (H.out.alloc hB _) hs).mono ?_
    rintro e w1 ⟨rfl, hb⟩
    rw [HV.out]
    go_wp2
    go_ret
    exact ⟨rfl, ((Below.refl _ _).alloc (Nat.le_refl _) _).trans (hb.mono (by simp))⟩
  · cases hr2 : (decide (vs.length ≤ 10) && allR vs 0 999)
    · have hr : canEv ps vs = false := by simp only [canEv, hr2]; simp
      rw [hr]
      have HV := Lib.hid hv
      have HR2 := Lib.hid hr2
      clear hr hv hr2
      go_enter Try.func74, Try.ntmps74
      go_wp2_with fail
      refine (impl_ValidFormula _ _ _ ps _ B (by simp; omega) HN.out (H.out.alloc hB _) hs).mono ?_
      rintro e w1 ⟨rfl, hb⟩
      rw [HV.out]
      have hz : w.heap.size + 1 ≤ w1.heap.size := by have := hb.size; simpa using this
      have HI1 := Lib.hid ((H'.out.alloc hB _).below hb (by simp; omega))
      go_wp2_with fail
      refine (impl_allInRange _ _ _ vs _ _ B (by omega) HM.out HI1.out hs').mono ?_
      rintro e w2 ⟨rfl, rfl⟩
      rw [HR2.out]
      go_wp2
      go_ret
      exact ⟨rfl, ((Below.refl _ _).alloc (Nat.le_refl _) _).trans (hb.mono (by simp))⟩
    · have hr : canEv ps vs = eachOK ps m := by rw [HM.out]; simp only [canEv, hr2, hv]; simp
      rw [hr]
      have HV := Lib.hid hv
      have HR2 := Lib.hid hr2
      clear hr hv hr2
      go_enter Try.func74, Try.ntmps74
      go_wp2_with fail
      refine (impl_ValidFormula _ _ _ ps _ B (by simp; omega) HN.out (H.out.alloc hB _) hs).mono ?_
      rintro e w1 ⟨rfl, hb⟩
      rw [HV.out]
      have hz : w.heap.size + 1 ≤ w1.heap.size := by have := hb.size; simpa using this
      have hbox : w1.cell? ⟨w.heap.size, 0, none⟩ = some (.slice A n c) := (hb.cell (p := ⟨w.heap.size, 0, none⟩) (by simp)).trans (by go_simp)
      have HI1 := Lib.hid ((H'.out.alloc hB _).below hb (by simp; omega))
      have HP1 := Lib.hid ((H.out.alloc hB _).below hb (by simp; omega))
      go_wp2_with fail
      refine (impl_allInRange _ _ _ vs _ _ B (by omega) HM.out HI1.out hs').mono ?_
      rintro e w2 ⟨rfl, rfl⟩
      rw [HR2.out]
      go_wp2_with fail
      refine (impl_hasEach _ _ _ _ _ _ ps _ B (by omega) HN.out HP1.out hs hs').mono ?_
      rintro e w3 ⟨rfl, hb3⟩
      go_wp2
      go_ret
      exact ⟨by simp, ((Below.refl _ _).alloc (Nat.le_refl _) _).trans ((hb.trans (hb3.mono (by simp; omega))).mono (by simp))⟩
end Go.Proofs.Ytfooafnfdeofoaa

namespace Go.Proofs.Ytfooafnfdeofoaa
set_option linter.unusedSimpArgs false
set_option linter.unusedVariables false
open Go.RowKit
def Tm.rds (vs : List Int) : Tm → List Int
  | .num _ => []
  | .rd v => [v]
  | .pr _ l r => l.rds vs ++ r.rds vs
  | .ch t a b => t.rds vs ++ (if t.ev vs == 0 then b.rds vs else a.rds vs)
def Tm.ok (m : Nat) : Tm → Prop
  | .num v => 0 ≤ v ∧ v ≤ 99
  | .rd v => 0 ≤ v ∧ v < (m : Int)
  | .pr _ l r => l.ok m ∧ r.ok m
  | .ch t a b => t.ok m ∧ a.ok m ∧ b.ok m
/-- All values are in range. -/
def VOK (vs : List Int) : Prop := ∀ j, j < vs.length → 0 ≤ vs.getD j 0 ∧ vs.getD j 0 ≤ 999
theorem Tm.ev_bd (vs : List Int) (hv : VOK vs) (t : Tm) (h : t.ok vs.length) : 0 ≤ t.ev vs ∧ t.ev vs ≤ 999 := by
  induction t with
  | num v => simp only [Tm.ok] at h; simp only [Tm.ev]; omega
  | rd v => simp only [Tm.ok] at h; exact hv _ (by omega)
  | pr k l r hl hr =>
    simp only [Tm.ok] at h
    obtain ⟨a1, a2⟩ := hl h.1
    obtain ⟨b1, b2⟩ := hr h.2
    exact jn_bd _ _ _ a1 a2 b1 b2
  | ch t a b ht ha hb =>
    simp only [Tm.ok] at h
    simp only [Tm.ev]
    split
    · exact hb h.2.2
    · exact ha h.2.1
theorem good_num (p : Pt) (i : Int) (h : goodPt p i = true) : (p.k = 0 → 0 ≤ p.n ∧ p.n ≤ 99) ∧ (p.k = 1 → 0 ≤ p.n ∧ p.n ≤ 9) := by
  constructor
  · intro hk
    have e : ar p.k = 0 := by simp [ar, hk]
    unfold goodPt at h
    rw [e, hk] at h
    simp [rng] at h
    omega
  · intro hk
    have e : ar p.k = 0 := by simp [ar, hk]
    unfold goodPt at h
    rw [e, hk] at h
    simp [rng] at h
    omega
theorem tmAt_eq (ps : List Pt) (f i : Nat) : tmAt ps (f + 1) i = (if (ps.getD i default).k == 0 then .num (ps.getD i default).n else if (ps.getD i default).k == 1 then .rd (ps.getD i default).n
    else if (ps.getD i default).k == 8 then .ch (tmAt ps f (ps.getD i default).a.toNat) (tmAt ps f (ps.getD i default).b.toNat) (tmAt ps f (ps.getD i default).c.toNat)
    else .pr (ps.getD i default).k (tmAt ps f (ps.getD i default).a.toNat) (tmAt ps f (ps.getD i default).b.toNat)) := rfl
theorem tmAt_ok (ps : List Pt) (m : Nat) (hg : AllGood ps) (he : eachOK ps m = true) (f : Nat) : ∀ i, i < f → i < ps.length → (tmAt ps f i).ok m := by
  induction f with
  | zero => intro i hi; omega
  | succ f ih =>
    intro i hif hin
    have hgi := hg i hin
    have hei : ((ps.getD i default).k == 1 && decide ((m : Int) ≤ (ps.getD i default).n)) = false := by
      unfold eachOK at he
      rw [List.all_eq_true] at he
      have := he (ps.getD i default) (getD_mem' ps i hin)
      cases hq : ((ps.getD i default).k == 1 && decide ((m : Int) ≤ (ps.getD i default).n))
      · rfl
      · rw [hq] at this; cases this
    rw [tmAt_eq]
    generalize ps.getD i default = p at *
    rcases good_kind _ _ hgi with h0 | h1 | h2 | h8
    · have := (good_num p i hgi).1 h0
      simp [h0, Tm.ok, this]
    · have := (good_num p i hgi).2 h1
      simp [h1] at hei
      simp [h1, Tm.ok, this, hei]
    · obtain ⟨a, b, ea, eb, la, lb⟩ := (good_bel_nat p i hgi).1 h2
      have k0 : (p.k == 0) = false := by simp only [beq_eq_false_iff_ne, ne_eq]; omega
      have k1 : (p.k == 1) = false := by simp only [beq_eq_false_iff_ne, ne_eq]; omega
      have k8 : (p.k == 8) = false := by simp only [beq_eq_false_iff_ne, ne_eq]; omega
      simp only [k0, k1, k8, Bool.false_eq_true, if_false, Tm.ok]
      exact ⟨ih _ (by omega) (by omega), ih _ (by omega) (by omega)⟩
    · obtain ⟨a, b, c, ea, eb, ec, la, lb, lc⟩ := (good_bel_nat p i hgi).2 h8
      simp only [h8, Tm.ok]
      exact ⟨ih _ (by omega) (by omega), ih _ (by omega) (by omega), ih _ (by omega) (by omega)⟩
end Go.Proofs.Ytfooafnfdeofoaa

namespace Go.Proofs.Ytfooafnfdeofoaa
set_option linter.unusedSimpArgs false
set_option linter.unusedVariables false
open Go.RowKit
theorem ta_NN (x : Value) (w : World) : (Instr.typeAssert (.iface 109 x) 98 109 true).run Try.prog w = .ok (.tuple #[x, .bool true]) w := by kernel_rfl
theorem ta_RN (x : Value) (w : World) : (Instr.typeAssert (.iface 111 x) 98 109 true).run Try.prog w = .ok (.tuple #[.agg #[.int .i64 0], .bool false]) w := by kernel_rfl
theorem ta_RR (x : Value) (w : World) : (Instr.typeAssert (.iface 111 x) 98 111 true).run Try.prog w = .ok (.tuple #[x, .bool true]) w := by kernel_rfl
theorem ta_PN (x : Value) (w : World) : (Instr.typeAssert (.iface 113 x) 98 109 true).run Try.prog w = .ok (.tuple #[.agg #[.int .i64 0], .bool false]) w := by kernel_rfl
theorem ta_PR (x : Value) (w : World) : (Instr.typeAssert (.iface 113 x) 98 111 true).run Try.prog w = .ok (.tuple #[.agg #[.int .i64 0], .bool false]) w := by kernel_rfl
theorem ta_PP (x : Value) (w : World) : (Instr.typeAssert (.iface 113 x) 98 113 true).run Try.prog w = .ok (.tuple #[x, .bool true]) w := by kernel_rfl
theorem ta_CN (x : Value) (w : World) : (Instr.typeAssert (.iface 116 x) 98 109 true).run Try.prog w = .ok (.tuple #[.agg #[.int .i64 0], .bool false]) w := by kernel_rfl
theorem ta_CR (x : Value) (w : World) : (Instr.typeAssert (.iface 116 x) 98 111 true).run Try.prog w = .ok (.tuple #[.agg #[.int .i64 0], .bool false]) w := by kernel_rfl
theorem ta_CP (x : Value) (w : World) : (Instr.typeAssert (.iface 116 x) 98 113 true).run Try.prog w = .ok (.tuple #[.agg #[.int .i64 0, .nilIface, .nilIface], .bool false]) w := by kernel_rfl
theorem ta_CC (x : Value) (w : World) : (Instr.typeAssert (.iface 116 x) 98 116 true).run Try.prog w = .ok (.tuple #[x, .bool true]) w := by kernel_rfl
/-- From w to w' only blocks of the footprint have turned; the footprint has got new blocks alone. -/
structure Fr (foot : World → Nat → Prop) (w w' : World) : Prop where
  size : w.heap.size ≤ w'.heap.size
  block : ∀ k, k < w.heap.size → ¬ foot w k → w'.heap[k]? = w.heap[k]?
  foot : ∀ k, foot w' k → foot w k ∨ w.heap.size ≤ k
theorem Fr.tr {foot : World → Nat → Prop} {a b c : World} (h : Fr foot a b) (k : Fr foot b c) : Fr foot a c :=
  ⟨Nat.le_trans h.size k.size, fun i hi hn => (k.block i (Nat.lt_of_lt_of_le hi h.size) fun hb => by
    rcases h.foot i hb with h1 | h1
    · exact hn h1
    · omega).trans (h.block i hi hn), fun i hi => by
    rcases k.foot i hi with h1 | h1
    · exact h.foot i h1
    · exact .inr (Nat.le_trans h.size h1)⟩
theorem Fr.cell {foot : World → Nat → Prop} {w w' : World} (h : Fr foot w w') {a : Addr} {v : Value} (hl : a.block < w.heap.size) (hn : ¬ foot w a.block) (hc : w.cell? a = some v) : w'.cell? a = some v :=
  (World.cell?_of_block (h.block a.block hl hn)).trans hc
theorem Fr.of_below {foot : World → Nat → Prop} {w w' : World} (h : Below w.heap.size w w') (hf : ∀ k, foot w' k → foot w k) : Fr foot w w' :=
  ⟨h.size, fun k hk _ => h.block k hk, fun k hk => .inl (hf k hk)⟩
set_option maxRecDepth 100000 in
set_option maxHeartbeats 3200000 in
theorem impl_evaluate1 (K : FuncId) (cap : Value) (vs : List Int) (hv : VOK vs) (foot : World → Nat → Prop) (I : List Int → World → Prop) (hG : ∀ acc w k, I acc w → foot w k → k < w.heap.size) (hI : ∀ acc w w', I acc w → Below w.heap.size w w' → I acc w' ∧ ∀ k, foot w' k → foot w k)
    (hcf : ∀ (q : Nat) (w : World), (callFunc K #[.int .i64 q, cap]).run Try.prog w = .ok (.enter K #[.int .i64 q, cap]) w)
    (hlook : ∀ (q : Nat) acc w, q < vs.length → I acc w → Calls Try.prog K #[.int .i64 q, cap] w fun e w' => e = .returned (.int .i64 (vs.getD q 0)) ∧ I (acc ++ [(q : Int)]) w' ∧ Fr foot w w') (t : Tm) :
    ∀ (acc : List Int) (w : World), t.ok vs.length → I acc w →
    Calls Try.prog 75 #[t.val, .func (.func K) #[] #[cap]] w fun e w' => e = .returned (.int .i64 (t.ev vs)) ∧ I (acc ++ t.rds vs) w' ∧ Fr foot w w' := by
  have HI := Lib.hid hI
  have HL := Lib.hid hlook
  have HV := Lib.hid hv
  have HG := Lib.hid hG
  have HCF := Lib.hid hcf
  clear hI hlook hv hG hcf
  induction t with
  | num v =>
    intro acc w hok h
    have H := Lib.hid h
    clear h hok
    show Calls _ _ #[.iface 109 (.agg #[.int .i64 v]), _] _ _
    have t1 := fun w => ta_NN (.agg #[.int .i64 v]) w
    go_enter Try.func75, Try.ntmps75
    go_wp2
    go_ret
    refine ⟨by simp [Tm.ev], ?_, Fr.of_below ((Below.refl w.heap.size w).alloc (Nat.le_refl _) _) (HI.out _ _ _ H.out ((Below.refl w.heap.size w).alloc (Nat.le_refl _) _)).2⟩
    have h1 := (HI.out _ _ _ H.out ((Below.refl w.heap.size w).alloc (Nat.le_refl _) (.cells #[.int .i64 v] 109))).1
    simpa [Tm.rds] using h1
  | rd v =>
    intro acc w hok h
    simp only [Tm.ok] at hok
    obtain ⟨q, rfl⟩ : ∃ q : Nat, v = (q : Int) := ⟨v.toNat, by omega⟩
    have hq : q < vs.length := by omega
    have HW0 := HI.out _ _ _ h ((Below.refl w.heap.size w).alloc (Nat.le_refl _) (.cells #[.int .i64 q] 111))
    have HW := Lib.hid HW0.1
    have HFR := Lib.hid (Fr.of_below (foot := foot) ((Below.refl w.heap.size w).alloc (Nat.le_refl _) (.cells #[.int .i64 q] 111)) HW0.2)
    have HNF := Lib.hid (show ¬ foot _ w.heap.size from fun hf => Nat.lt_irrefl _ (HG.out _ _ w.heap.size h (HW0.2 _ hf)))
    clear HW0
    clear h hok
    show Calls _ _ #[.iface 111 (.agg #[.int .i64 q]), _] _ _
    have t1 := fun w => ta_RN (.agg #[.int .i64 q]) w
    have t2 := fun w => ta_RR (.agg #[.int .i64 q]) w
    have hc := HCF.out q
    go_enter Try.func75, Try.ntmps75
    go_wp2_with fail
    refine (HL.out q acc _ hq HW.out).mono ?_
    rintro e w1 ⟨rfl, hI1, hg1⟩
    have H1 := Lib.hid hI1
    have HG1 := Lib.hid hg1
    clear hI1 hg1
    go_wp2
    go_ret
    exact ⟨by simp [Tm.ev, hq], H1.out, HFR.out.tr HG1.out⟩
  | pr k l r hl hr =>
    intro acc w hok h
    simp only [Tm.ok] at hok
    obtain ⟨T1, x1, e1⟩ := l.val_form
    obtain ⟨T2, x2, e2⟩ := r.val_form
    have HW0 := HI.out _ _ _ h ((Below.refl w.heap.size w).alloc (Nat.le_refl _) (.cells #[.int .i64 k, .iface T1 x1, .iface T2 x2] 113))
    have HW := Lib.hid HW0.1
    have HFR := Lib.hid (Fr.of_below (foot := foot) ((Below.refl w.heap.size w).alloc (Nat.le_refl _) (.cells #[.int .i64 k, .iface T1 x1, .iface T2 x2] 113)) HW0.2)
    have HNF := Lib.hid (show ¬ foot _ w.heap.size from fun hf => Nat.lt_irrefl _ (HG.out _ _ w.heap.size h (HW0.2 _ hf)))
    clear HW0
    obtain ⟨ex1, ex2⟩ := Tm.ev_bd vs HV.out l hok.1
    obtain ⟨ey1, ey2⟩ := Tm.ev_bd vs HV.out r hok.2
    have HLC := Lib.hid (fun acc w => hl acc w hok.1)
    have HRC := Lib.hid (fun acc w => hr acc w hok.2)
    have hev : (Tm.pr k l r).ev vs = jn k (l.ev vs) (r.ev vs) := rfl
    have hrd : (Tm.pr k l r).rds vs = l.rds vs ++ r.rds vs := rfl
    rw [hev, hrd]
    show Calls _ _ #[.iface 113 (.agg #[.int .i64 k, l.val, r.val]), _] _ _
    rw [e1, e2]
    rw [e1] at HLC
    rw [e2] at HRC
    generalize l.ev vs = xa at *
    generalize r.ev vs = xb at *
    generalize l.rds vs = ra at *
    generalize r.rds vs = rb at *
    clear h hok hl hr hev hrd e1 e2
    have t1 := fun w => ta_PN (.agg #[.int .i64 k, .iface T1 x1, .iface T2 x2]) w
    have t2 := fun w => ta_PR (.agg #[.int .i64 k, .iface T1 x1, .iface T2 x2]) w
    have t3 := fun w => ta_PP (.agg #[.int .i64 k, .iface T1 x1, .iface T2 x2]) w
    go_enter Try.func75, Try.ntmps75
    go_wp2_with fail
    refine (HLC.out acc _ HW.out).mono ?_
    rintro e w1 ⟨rfl, hI1, hg1⟩
    have q0 : w1.cell? ⟨w.heap.size, 0, none⟩ = some (.int .i64 k) := hg1.cell (a := ⟨w.heap.size, 0, none⟩) (by simp) HNF.out (by go_simp)
    have q2 : w1.cell? ⟨w.heap.size, 2, none⟩ = some (.iface T2 x2) := hg1.cell (a := ⟨w.heap.size, 2, none⟩) (by simp) HNF.out (by go_simp)
    have H1 := Lib.hid hI1
    have HG1 := Lib.hid (HFR.out.tr hg1)
    have hs1 : w.heap.size < w1.heap.size := by have := hg1.size; simp at this; omega
    have HNF1 := Lib.hid (show ¬ foot w1 w.heap.size from fun hf => (hg1.foot w.heap.size hf).elim HNF.out (fun h9 => by simp at h9; try omega))
    clear hI1 hg1
    go_wp2_with fail
    refine (HRC.out _ _ H1.out).mono ?_
    rintro e w2 ⟨rfl, hI2, hg2⟩
    have q0' : w2.cell? ⟨w.heap.size, 0, none⟩ = some (.int .i64 k) := hg2.cell (a := ⟨w.heap.size, 0, none⟩) hs1 HNF1.out q0
    have H2 := Lib.hid hI2
    have HG2 := Lib.hid (HG1.out.tr hg2)
    clear hI2 hg2 q0 q2
    go_wp2_with (go_at_call 90; refine (impl_combine k xa xb (by omega) (by omega) (by omega) (by omega) _).mono ?_; rintro e w3 ⟨rfl, rfl⟩)
    go_ret
    exact ⟨by simp, by rw [← List.append_assoc]; exact H2.out, HG2.out⟩
  | ch t a b ht ha hb =>
    intro acc w hok h
    simp only [Tm.ok] at hok
    obtain ⟨T1, x1, e1⟩ := t.val_form
    obtain ⟨T2, x2, e2⟩ := a.val_form
    obtain ⟨T3, x3, e3⟩ := b.val_form
    have HW0 := HI.out _ _ _ h ((Below.refl w.heap.size w).alloc (Nat.le_refl _) (.cells #[.iface T1 x1, .iface T2 x2, .iface T3 x3] 116))
    have HW := Lib.hid HW0.1
    have HFR := Lib.hid (Fr.of_below (foot := foot) ((Below.refl w.heap.size w).alloc (Nat.le_refl _) (.cells #[.iface T1 x1, .iface T2 x2, .iface T3 x3] 116)) HW0.2)
    have HNF := Lib.hid (show ¬ foot _ w.heap.size from fun hf => Nat.lt_irrefl _ (HG.out _ _ w.heap.size h (HW0.2 _ hf)))
    clear HW0
    have HTC := Lib.hid (fun acc w => ht acc w hok.1)
    have HAC := Lib.hid (fun acc w => ha acc w hok.2.1)
    have HBC := Lib.hid (fun acc w => hb acc w hok.2.2)
    have hev : (Tm.ch t a b).ev vs = if t.ev vs == 0 then b.ev vs else a.ev vs := rfl
    have hrd : (Tm.ch t a b).rds vs = t.rds vs ++ (if t.ev vs == 0 then b.rds vs else a.rds vs) := rfl
    rw [hev, hrd]
    show Calls _ _ #[.iface 116 (.agg #[t.val, a.val, b.val]), _] _ _
    rw [e1, e2, e3]
    rw [e1] at HTC
    rw [e2] at HAC
    rw [e3] at HBC
    have t1 := fun w => ta_CN (.agg #[.iface T1 x1, .iface T2 x2, .iface T3 x3]) w
    have t2 := fun w => ta_CR (.agg #[.iface T1 x1, .iface T2 x2, .iface T3 x3]) w
    have t3 := fun w => ta_CP (.agg #[.iface T1 x1, .iface T2 x2, .iface T3 x3]) w
    have t4 := fun w => ta_CC (.agg #[.iface T1 x1, .iface T2 x2, .iface T3 x3]) w
    cases hz : (t.ev vs == 0)
    · have hz' : (t.ev vs != 0) = true := by simp [bne, hz]
      simp only [Bool.false_eq_true, if_false]
      generalize t.ev vs = xt at *
      generalize a.ev vs = xa at *
      generalize t.rds vs = rt at *
      generalize a.rds vs = ra at *
      clear h hok ht ha hb hev hrd e1 e2 e3 hz
      go_enter Try.func75, Try.ntmps75
      go_wp2_with fail
      refine (HTC.out acc _ HW.out).mono ?_
      rintro e w1 ⟨rfl, hI1, hg1⟩
      have q1 : w1.cell? ⟨w.heap.size, 1, none⟩ = some (.iface T2 x2) := hg1.cell (a := ⟨w.heap.size, 1, none⟩) (by simp) HNF.out (by go_simp)
      have H1 := Lib.hid hI1
      have HG1 := Lib.hid (HFR.out.tr hg1)
      clear hI1 hg1
      go_wp2_with fail
      refine (HAC.out _ _ H1.out).mono ?_
      rintro e w2 ⟨rfl, hI2, hg2⟩
      have H2 := Lib.hid hI2
      have HG2 := Lib.hid (HG1.out.tr hg2)
      clear hI2 hg2
      go_wp2
      go_ret
      exact ⟨by simp, by rw [← List.append_assoc]; exact H2.out, HG2.out⟩
    · have hz' : (t.ev vs != 0) = false := by simp [bne, hz]
      simp only [if_true]
      generalize t.ev vs = xt at *
      generalize b.ev vs = xb at *
      generalize t.rds vs = rt at *
      generalize b.rds vs = rb at *
      clear h hok ht ha hb hev hrd e1 e2 e3 hz
      go_enter Try.func75, Try.ntmps75
      go_wp2_with fail
      refine (HTC.out acc _ HW.out).mono ?_
      rintro e w1 ⟨rfl, hI1, hg1⟩
      have q1 : w1.cell? ⟨w.heap.size, 2, none⟩ = some (.iface T3 x3) := hg1.cell (a := ⟨w.heap.size, 2, none⟩) (by simp) HNF.out (by go_simp)
      have H1 := Lib.hid hI1
      have HG1 := Lib.hid (HFR.out.tr hg1)
      clear hI1 hg1
      go_wp2_with fail
      refine (HBC.out _ _ H1.out).mono ?_
      rintro e w2 ⟨rfl, hI2, hg2⟩
      have H2 := Lib.hid hI2
      have HG2 := Lib.hid (HG1.out.tr hg2)
      clear hI2 hg2
      go_wp2
      go_ret
      exact ⟨by simp, by rw [← List.append_assoc]; exact H2.out, HG2.out⟩
end Go.Proofs.Ytfooafnfdeofoaa

namespace Go.Proofs.Ytfooafnfdeofoaa
set_option linter.unusedSimpArgs false
set_option linter.unusedVariables false
/-- The part of a term, for the parts below it at some indices. -/
def Tm.own : Tm → List Int → Pt
  | .num v, _ => ⟨0, -1, -1, -1, v⟩
  | .rd v, _ => ⟨1, -1, -1, -1, v⟩
  | .pr K _ _, at_ => ⟨K, at_.getD 0 0, at_.getD 1 0, -1, 0⟩
  | .ch _ _ _, at_ => ⟨8, at_.getD 0 0, at_.getD 1 0, at_.getD 2 0, 0⟩
end Go.Proofs.Ytfooafnfdeofoaa

namespace Go.Proofs.Ytfooafnfdeofoaa
set_option linter.unusedSimpArgs false
set_option linter.unusedVariables false
open Go.RowKit
theorem allR_VOK (vs : List Int) (h : allR vs 0 999 = true) : VOK vs := by
  intro j hj
  unfold allR at h
  rw [List.all_eq_true] at h
  have := h (vs.getD j 0) (by simp [List.getD, hj])
  simpa [rng] using this
theorem canEv_parts (ps : List Pt) (vs : List Int) (h : canEv ps vs = true) : validF ps = true ∧ VOK vs ∧ vs.length ≤ 10 ∧ eachOK ps vs.length = true := by
  unfold canEv at h
  simp only [Bool.and_eq_true, decide_eq_true_eq] at h
  exact ⟨h.1, allR_VOK vs h.2.1.2, h.2.1.1, h.2.2⟩
/-- What ValueOf answers. -/
def valF (ps : List Pt) (vs : List Int) : Int := if canEv ps vs then (whole ps).ev vs else 0
end Go.Proofs.Ytfooafnfdeofoaa

namespace Go.Proofs.Ytfooafnfdeofoaa
set_option linter.unusedSimpArgs false
set_option linter.unusedVariables false
open Go.RowKit
set_option maxHeartbeats 400000 in
theorem look_value (A' : Option Addr) (m c' g q : Nat) (vs : List Int) (w : World) (B : Nat) (hm : m = vs.length) (hs' : m ≤ 2000000) (hq : q < vs.length) (hc : w.cell? ⟨g, 0, none⟩ = some (.slice A' m c')) (h : IS w B A' vs) :
    Calls Try.prog 86 #[.int .i64 q, .pointer (some ⟨g, 0, none⟩)] w fun e w' => e = .returned (.int .i64 (vs.getD q 0)) ∧ w = w' := by
  obtain ⟨b, off, rfl, hb, hcc⟩ := h (by omega)
  have hx := hcc q hq
  have hqm : q < m := by omega
  generalize vs.getD q 0 = x at *
  clear hcc h hm hq
  go_enter Try.func86, Try.ntmps86
  go_wp2
  go_ret
  exact ⟨rfl, rfl⟩
set_option maxHeartbeats 800000 in
theorem impl_ValueOf (A A' : Option Addr) (n c m c' : Nat) (ps : List Pt) (vs : List Int) (B : Nat) (hn : n = ps.length) (hm : m = vs.length) (hs : n ≤ 1999999) (hs' : m ≤ 2000000) (w : World) (hB : B ≤ w.heap.size) (h : PS w B A ps) (h' : IS w B A' vs) :
    Calls Try.prog 70 #[.agg #[.slice A n c], .slice A' m c'] w fun e w' => e = .returned (.tuple #[.int .i64 (valF ps vs), .bool (canEv ps vs)]) ∧ Below w.heap.size w w' := by
  have H := Lib.hid h
  have HN := Lib.hid hn
  have H' := Lib.hid h'
  have HM := Lib.hid hm
  clear hn h hm h'
  cases hc : canEv ps vs
  · have hr : valF ps vs = 0 := by simp [valF, hc]
    rw [hr]
    have HC := Lib.hid hc
    clear hr hc
    go_enter Try.func70, Try.ntmps70
    go_wp2_with fail
    refine (impl_canEvaluate _ _ _ _ _ _ ps vs _ B (by simp; omega) HN.out HM.out ((H.out.alloc hB _).alloc (by simp; omega) _) ((H'.out.alloc hB _).alloc (by simp; omega) _) (by omega) hs').mono ?_
    rintro e w1 ⟨rfl, hb⟩
    rw [HC.out]
    go_wp2
    go_ret2
    exact ⟨rfl, (((Below.refl _ _).alloc (Nat.le_refl _) _).alloc (by simp) _).trans (hb.mono (by simp; omega))⟩
  · have hr : valF ps vs = (whole ps).ev vs := by simp [valF, hc]
    rw [hr]
    obtain ⟨hv, hvo, hm10, hea⟩ := canEv_parts ps vs hc
    obtain ⟨hg, h1, h12⟩ := validF_good ps hv
    have hok : (whole ps).ok vs.length := tmAt_ok ps vs.length hg hea ps.length (ps.length - 1) (by omega) (by omega)
    have HWH := Lib.hid (fun (w : World) => impl_wholeOf A n c ps B HN.out hg (by omega) (by have := HN.out; omega) w)
    rw [show tmAt ps n (n - 1) = whole ps by rw [HN.out]; rfl] at HWH
    have HC := Lib.hid hc
    have HVO := Lib.hid hvo
    have HOK := Lib.hid hok
    clear hr hc hv hvo hea hg h1 h12 hok
    generalize whole ps = t at *
    go_enter Try.func70, Try.ntmps70
    go_wp2_with fail
    refine (impl_canEvaluate _ _ _ _ _ _ ps vs _ B (by simp; omega) HN.out HM.out ((H.out.alloc hB _).alloc (by simp; omega) _) ((H'.out.alloc hB _).alloc (by simp; omega) _) (by omega) hs').mono ?_
    rintro e w1 ⟨rfl, hb⟩
    rw [HC.out]
    have hz : w.heap.size + 1 + 1 ≤ w1.heap.size := by have := hb.size; simpa using this
    have hbox : w1.cell? ⟨w.heap.size, 0, none⟩ = some (.slice A n c) := (hb.cell (p := ⟨w.heap.size, 0, none⟩) (by simp; omega)).trans (by go_simp)
    have hbox2 : w1.cell? ⟨w.heap.size + 1, 0, none⟩ = some (.slice A' m c') := (hb.cell (p := ⟨w.heap.size + 1, 0, none⟩) (by simp)).trans (by go_simp)
    have HP1 := Lib.hid (((H.out.alloc hB (.cells #[.slice A n c] 56)).alloc (by simp; omega) (.cells #[.slice A' m c'] 33)).below hb (by simp; omega))
    have HI1 := Lib.hid (((H'.out.alloc hB (.cells #[.slice A n c] 56)).alloc (by simp; omega) (.cells #[.slice A' m c'] 33)).below hb (by simp; omega))
    have hB1 : Below w.heap.size w w1 := (((Below.refl _ _).alloc (Nat.le_refl _) _).alloc (by simp) _).trans (hb.mono (by simp; omega))
    clear hb
    go_wp2_with fail
    refine (HWH.out _ (by omega) HP1.out).mono ?_
    rintro e w2 ⟨T, x, rfl, hT, hb2⟩
    have HT := Lib.hid hT
    clear hT
    have hz2 : w.heap.size + 1 + 1 ≤ w2.heap.size := by have := hb2.size; omega
    have hbox3 : w2.cell? ⟨w.heap.size + 1, 0, none⟩ = some (.slice A' m c') := (hb2.cell (p := ⟨w.heap.size + 1, 0, none⟩) (by show w.heap.size + 1 < w1.heap.size; omega)).trans hbox2
    have HI2 := Lib.hid (HI1.out.below hb2 (by omega))
    have hB2 : Below w.heap.size w w2 := hB1.trans (hb2.mono (by omega))
    have HEV := Lib.hid (impl_evaluate1 86 (.pointer (some ⟨w.heap.size + 1, 0, none⟩)) vs HVO.out (fun _ _ => False) (fun _ w' => Below w2.heap.size w2 w')
      (fun acc w' k h hf => hf.elim) (fun acc wa wb h1 h2 => ⟨h1.trans (h2.mono h1.size), fun k hf => hf⟩) (fun q w => by kernel_rfl)
      (fun q acc wa hq h1 => (look_value A' m c' (w.heap.size + 1) q vs wa B HM.out hs' hq ((h1.cell (p := ⟨w.heap.size + 1, 0, none⟩) (by show w.heap.size + 1 < w2.heap.size; omega)).trans hbox3) (HI2.out.below h1 (by omega))).mono
        fun e wb ⟨he, hw⟩ => ⟨he, by rw [← hw]; exact h1, by rw [← hw]; exact Fr.of_below (Below.refl _ _) fun k hf => hf⟩) t)
    clear hb2
    go_wp2_with fail
    rw [← HT.out]
    refine (HEV.out [] _ HOK.out (Below.refl _ _)).mono ?_
    rintro e w3 ⟨rfl, hb3, _⟩
    go_wp2
    go_ret2
    exact ⟨by simp, hB2.trans (hb3.mono (by omega))⟩
end Go.Proofs.Ytfooafnfdeofoaa

namespace Go.Proofs.Ytfooafnfdeofoaa
set_option linter.unusedSimpArgs false
set_option linter.unusedVariables false
open Go.RowKit
/-- What MayRead answers. -/
def mayF (ps : List Pt) : List Int := if validF ps then mayR ps else []
/-- Ten marks: which nodes the first parts have. -/
def Mrk10 (w : World) (g : Nat) (ps : List Pt) : Prop :=
  g < w.heap.size ∧ ∀ t : Nat, t < 10 → w.cell? ⟨g, t, none⟩ = some (.bool (hasNode ps t)) ∧ w.frozen? ⟨g, t, none⟩ = false
theorem Mrk10.below {w w' : World} {g : Nat} {ps : List Pt} (h : Mrk10 w g ps) (hb : Below w.heap.size w w') : Mrk10 w' g ps :=
  ⟨Nat.lt_of_lt_of_le h.1 hb.size, fun t ht => ⟨(hb.cell (p := ⟨g, t, none⟩) h.1).trans (h.2 t ht).1, (hb.frozen (p := ⟨g, t, none⟩) h.1).trans (h.2 t ht).2⟩⟩
theorem hasNode_append (ps : List Pt) (p : Pt) (t : Nat) : hasNode (ps ++ [p]) t = (hasNode ps t || (p.k == 1 && p.n == (t : Int))) := by
  simp [hasNode, List.any_append]
theorem Mrk10.keep {w : World} {g : Nat} {ps : List Pt} {p : Pt} (h : Mrk10 w g ps) (hp : (p.k == 1) = false) : Mrk10 w g (ps ++ [p]) :=
  ⟨h.1, fun t ht => by rw [hasNode_append, hp]; simpa using h.2 t ht⟩
theorem Mrk10.set {w : World} {g : Nat} {ps : List Pt} {p : Pt} (h : Mrk10 w g ps) (q : Nat) (hq : q < 10) (hk : (p.k == 1) = true) (hn : p.n = (q : Int)) : Mrk10 (w.setCell ⟨g, q, none⟩ (.bool true)) g (ps ++ [p]) := by
  refine ⟨by simpa [World.setCell] using h.1, fun j hj => ?_⟩
  obtain ⟨h1, h2⟩ := h.2 j hj
  rw [hasNode_append, hk, hn]
  by_cases e : j = q
  · subst e
    refine ⟨?_, by simpa using h2⟩
    rw [World.cell?_setCell_same _ _ _ h1]; simp
  · refine ⟨?_, by simpa using h2⟩
    rw [World.cell?_setCell_other _ _ _ _ (by intro e'; simp at e'; try omega), h1]
    have : ((q : Int) == (j : Int)) = false := by simp; omega
    simp [this]
set_option maxRecDepth 100000 in
set_option maxHeartbeats 1600000 in
theorem impl_MayRead (A : Option Addr) (n c : Nat) (ps : List Pt) (w : World) (B : Nat) (hB : B ≤ w.heap.size) (hn : n = ps.length) (h : PS w B A ps) (hs : n ≤ 1999999) :
    Calls Try.prog 85 #[.agg #[.slice A n c]] w fun e w' => RetI w (mayF ps) e w' := by
  obtain ⟨i0, hi, hz0, hz1, hz2⟩ := info_parts info_int
  have H := Lib.hid h
  have HN := Lib.hid hn
  clear h hn
  cases hv : validF ps
  · have hd : mayF ps = [] := by simp [mayF, hv]
    rw [hd]
    have HV := Lib.hid hv
    clear hd hv
    go_enter Try.func85, Try.ntmps85
    go_wp2_with fail
    refine (impl_ValidFormula _ _ _ ps _ B (by simp; omega) HN.out (H.out.alloc hB _) (by omega)).mono ?_
    rintro e w1 ⟨rfl, hb⟩
    rw [HV.out]
    go_wp2
    go_ret
    exact ⟨_, rfl, World.ownsRow_nil _ _ _ _, ((Below.refl _ _).alloc (Nat.le_refl _) _).trans (hb.mono (by simp))⟩
  · have hd : mayF ps = mayR ps := by simp [mayF, hv]
    rw [hd]
    obtain ⟨hg, h1, h12⟩ := validF_good ps hv
    have HV := Lib.hid hv
    have HG := Lib.hid hg
    clear hd hv hg h1 h12
    go_enter Try.func85, Try.ntmps85
    go_wp2_with fail
    refine (impl_ValidFormula _ _ _ ps _ B (by simp; omega) HN.out (H.out.alloc hB _) (by omega)).mono ?_
    rintro e w1 ⟨rfl, hb⟩
    rw [HV.out]
    have hbox : w1.cell? ⟨w.heap.size, 0, none⟩ = some (.slice A n c) := (hb.cell (p := ⟨w.heap.size, 0, none⟩) (by simp)).trans (by go_simp)
    have HW := Lib.hid ((H.out.alloc hB _).below hb (by simp; omega))
    have hw1 : w.heap.size + 1 ≤ w1.heap.size := by have := hb.size; simpa using this
    have hB1 : Below w.heap.size w w1 := ((Below.refl _ _).alloc (Nat.le_refl _) _).trans (hb.mono (by simp))
    have hws : w.heap.size < w1.heap.size := by omega
    clear hb H
    go_wp2
    go_loopw [14] (fun i wr => ∃ k : Nat, k ≤ n ∧ i = .int .i64 k ∧ Hid (Mrk10 wr w1.heap.size (ps.take k)) ∧ Hid (Below w1.heap.size w1 wr)) (fun i _ => n - (intOf i).toNat)
    case atStart =>
      refine ⟨0, Nat.zero_le _, rfl, ⟨by simp, fun t ht => ?_⟩, below_new w1 _⟩
      have ht' : t = 0 ∨ t = 1 ∨ t = 2 ∨ t = 3 ∨ t = 4 ∨ t = 5 ∨ t = 6 ∨ t = 7 ∨ t = 8 ∨ t = 9 := by omega
      rcases ht' with rfl | rfl | rfl | rfl | rfl | rfl | rfl | rfl | rfl | rfl <;> exact ⟨by go_simp; rfl, by go_simp⟩
    case round =>
      obtain ⟨k, hk, rfl, HM, HB⟩ := hrel
      have hwr : w1.heap.size < wr.heap.size := HM.out.1
      by_cases hlt : k < n
      · obtain ⟨b, off, rfl, hbB, hc⟩ := HW.out (by have := HN.out; omega)
        obtain ⟨c0, c1, c2, c3, c4⟩ := hc k (by have := HN.out; omega)
        clear hc
        have hbw : b < w1.heap.size := by omega
        have b0 := (HB.out.cell (p := ⟨b, off + k * 5, none⟩) hbw).trans c0
        have b1 := (HB.out.cell (p := ⟨b, off + k * 5 + 1, none⟩) hbw).trans c1
        have b2 := (HB.out.cell (p := ⟨b, off + k * 5 + 2, none⟩) hbw).trans c2
        have b3 := (HB.out.cell (p := ⟨b, off + k * 5 + 3, none⟩) hbw).trans c3
        have b4 := (HB.out.cell (p := ⟨b, off + k * 5 + 4, none⟩) hbw).trans c4
        clear c0 c1 c2 c3 c4
        have hgk := HG.out k (by have := HN.out; omega)
        have HTS := Lib.hid (take_succ_getD ps k (by have := HN.out; omega))
        generalize ps.getD k default = p at *
        cases h1 : (p.k == 1)
        · have H1 := Lib.hid h1
          go_wp2
          go_roundw
          case rel => exact ⟨k + 1, by omega, by go_num, by rw [HTS.out]; exact (HM.out.below (below_new wr _)).keep H1.out, HB.out.alloc (by omega) _⟩
          case measure => simp [intOf]; omega
        · obtain ⟨q, hq⟩ : ∃ q : Nat, p.n = (q : Int) := by
            have := (good_num p k hgk).2 (by simpa using h1)
            exact ⟨p.n.toNat, by omega⟩
          have hq10 : q < 10 := by
            have := (good_num p k hgk).2 (by simpa using h1)
            omega
          have HMa := Lib.hid (HM.out.below (below_new wr (.cells #[.int .i64 p.k, .int .i64 p.a, .int .i64 p.b, .int .i64 p.c, .int .i64 p.n] 103)))
          rw [hq] at b4 HMa
          obtain ⟨hm1, hm2⟩ := HMa.out.2 q hq10
          have H1 := Lib.hid h1
          have HQ := Lib.hid hq
          clear hgk hq
          go_wp2
          go_roundw
          case rel => exact ⟨k + 1, by omega, by go_num, by rw [HTS.out]; exact (HM.out.set q hq10 H1.out HQ.out).below (below_new _ _), (HB.out.setCell (p := ⟨w1.heap.size, q, none⟩) (Nat.le_refl _) _).alloc (by simp [World.setCell]; omega) _⟩
          case measure => simp [intOf]; omega
      · obtain rfl : k = n := by omega
        rw [List.take_of_length_le (by have := HN.out; omega)] at HM
        clear hlt hk
        go_wp2
        go_loopw [6, 25] (fun v i wi => ∃ m : Nat, m ≤ 10 ∧ i = .int .i64 m ∧ Hid (OwnI wi (w1.heap.size + 1) v (((List.range m).filter (hasNode ps)).map fun m : Nat => (m : Int))) ∧ Hid (Below (w1.heap.size + 1) wr wi)) (fun _ i _ => 10 - (intOf i).toNat)
        case atStart => exact ⟨0, by omega, rfl, World.ownsRow_nil _ _ _ _, Below.refl _ _⟩
        case round =>
          obtain ⟨m, hm, rfl, HO, HBi⟩ := hrel
          by_cases hm10 : m < 10
          · have hc := (HBi.out.cell (p := ⟨w1.heap.size, m, none⟩) (by simp)).trans (HM.out.2 m hm10).1
            have HST := Lib.hid (mayR_step ps m)
            have hml := mayR_len ps m
            generalize hF : (((List.range m).filter (hasNode ps)).map fun m : Nat => (m : Int)) = F at *
            clear hF
            cases hh : hasNode ps m
            · rw [hh] at hc
              have HH := Lib.hid hh
              clear hh
              go_wp2
              go_roundw
              case rel => exact ⟨m + 1, by omega, by go_num, by rw [HST.out, HH.out]; simpa [Hid] using HO.out, HBi.out⟩
              case measure => simp [intOf]; omega
            · rw [hh] at hc
              have HH := Lib.hid hh
              clear hh
              obtain ⟨wi, hwi⟩ : ∃ wi : World, wi = wr := ⟨_, rfl⟩
              have hsz : w1.heap.size + 1 ≤ wi.heap.size := by have := HBi.out.size; rw [hwi]; omega
              rw [hwi] at hsz
              clear hwi
              go_wp2_with (at_builtin; refine wpList_append_own _ rfl _ _ 33 rfl (w1.heap.size + 1) 3 i0 (.int .i64 0) 1 8 Try.underlying33 hi hz0 hz1 hz2 rfl (by decide) _ _ _ rfl (HO.out.alloc _) ⟨_, 0, none⟩ 1 1 [.int .i64 m] rfl rfl (cell_one_new _ _ _) ?c2 ?c3 ?c4 ?c5 ?_)
              case c2 => intro u hu; simp at hu; subst hu; rfl
              case c3 => unfold maxLen; omega
              case c4 => omega
              case c5 => simp; omega
              intro v' w3 hown' hgrow _
              have hpos := (HO.out.alloc (.cells #[.int .i64 m] 3)).lt
              have HO' : Hid (OwnI w3 (w1.heap.size + 1) v' (((List.range (m + 1)).filter (hasNode ps)).map fun m : Nat => (m : Int))) := by
                rw [HST.out, HH.out]
                simpa [OwnI, Hid] using hown'
              have HB' := Lib.hid ((HBi.out.alloc hsz (.cells #[.int .i64 m] 3)).grown hgrow (by simp; omega) (fun q hq => (hpos q hq).1))
              clear hown' hgrow hpos
              go_wp2
              go_roundw
              case rel => exact ⟨m + 1, by omega, by go_num, HO'.out, HB'.out⟩
              case measure => simp [intOf]; omega
          · obtain rfl : m = 10 := by omega
            rw [mayR_below] at HO
            go_wp2
            go_ret
            exact ⟨_, rfl, own_mono HO.out (by omega), hB1.trans ((HB.out.trans (HBi.out.mono (by omega))).mono (by omega))⟩
end Go.Proofs.Ytfooafnfdeofoaa

namespace Go.Proofs.Ytfooafnfdeofoaa
set_option linter.unusedSimpArgs false
set_option linter.unusedVariables false
open Go.RowKit
theorem validG_long (gs : List Nd) (h : 10 < gs.length) : validG gs = false := by
  unfold validG
  rw [decide_eq_false (p := gs.length ≤ 10) (by omega), Bool.and_false]
theorem validG_parts (gs : List Nd) (h : validG gs = true) : gs.length ≤ 10 ∧ ∀ i, i < gs.length → nodeOK gs i = true := by
  unfold validG at h
  simp only [Bool.and_eq_true, decide_eq_true_eq] at h
  exact ⟨h.2, h.1⟩
theorem nodeOK_cell (gs : List Nd) (i : Nat) (h : nodeOK gs i = true) (hk : ((gs.getD i default).k == 0) = true) : (gs.getD i default).ps = [] := by
  unfold nodeOK at h
  rw [if_pos hk] at h
  exact List.eq_nil_of_length_eq_zero (by simpa using h)
theorem nodeOK_formula (gs : List Nd) (i : Nat) (h : nodeOK gs i = true) (hk : ((gs.getD i default).k == 0) = false) : validF (gs.getD i default).ps = true ∧ goodRd gs i = true := by
  unfold nodeOK at h
  rw [if_neg (by rw [hk]; decide)] at h
  cases h1 : ((gs.getD i default).k == 1)
  · rw [if_neg (by rw [h1]; decide)] at h
    cases h2 : ((gs.getD i default).k == 2)
    · rw [if_neg (by rw [h2]; decide)] at h; cases h
    · rw [if_pos h2] at h; simpa using h
  · rw [if_pos h1] at h; simpa using h
theorem mayR_nil : mayR [] = [] := by
  unfold mayR hasNode
  simp
/-- All nodes that a node of a valid graph may read are ahead of it. -/
theorem mayR_ahead (gs : List Nd) (i : Nat) (h : validG gs = true) (hi : i < gs.length) (x : Int) (hx : x ∈ mayR (gs.getD i default).ps) : 0 ≤ x ∧ x < (i : Int) := by
  obtain ⟨h10, hok⟩ := validG_parts gs h
  have hb := mem_mayR_bd _ _ hx
  cases hk : ((gs.getD i default).k == 0)
  · obtain ⟨_, hg⟩ := nodeOK_formula gs i (hok i hi) hk
    unfold goodRd at hg
    rw [List.all_eq_true] at hg
    have := hg x hx
    unfold rdOK at this
    simp only [Bool.and_eq_true, decide_eq_true_eq] at this
    omega
  · rw [nodeOK_cell gs i (hok i hi) hk, mayR_nil] at hx
    cases hx
/-- Values for all nodes ahead are enough for the formula of a node. -/
theorem each_ahead (gs : List Nd) (i m : Nat) (h : validG gs = true) (hi : i < gs.length) (hk : ((gs.getD i default).k == 0) = false) (hm : i ≤ m) : eachOK (gs.getD i default).ps m = true := by
  obtain ⟨h10, hok⟩ := validG_parts gs h
  obtain ⟨hv, hg⟩ := nodeOK_formula gs i (hok i hi) hk
  unfold eachOK
  rw [List.all_eq_true]
  intro p hp
  cases h1 : (p.k == 1)
  · simp
  · obtain ⟨j, hj, rfl⟩ := List.mem_iff_getElem.1 hp
    have hgd := (validF_good _ hv).1 j hj
    have hah := fun x hx => mayR_ahead gs i h hi x hx
    clear hg hok
    generalize gs.getD i default = d at *
    have e : d.ps.getD j default = d.ps[j] := by simp [List.getD, hj]
    rw [e] at hgd
    have hb := (good_num _ _ hgd).2 (by simpa using h1)
    have hx : (d.ps[j]).n ∈ mayR d.ps := by
      rw [mem_mayR]
      refine ⟨(d.ps[j]).n.toNat, by omega, ?_, by omega⟩
      unfold hasNode
      rw [List.any_eq_true]
      exact ⟨_, hp, by simp only [Bool.and_eq_true]; exact ⟨h1, by simp; omega⟩⟩
    have := hah _ hx
    simp
    omega
theorem validC_parts (gs : List Nd) (cs : List Int) (h : validC gs cs = true) : cs.length = gs.length ∧ ∀ i, i < gs.length → cellOK gs cs i = true := by
  unfold validC at h
  simpa only [Bool.and_eq_true, decide_eq_true_eq] using h
theorem cellOK_bd (gs : List Nd) (cs : List Int) (i : Nat) (h : cellOK gs cs i = true) : 0 ≤ cs.getD i 0 ∧ cs.getD i 0 ≤ 999 := by
  unfold cellOK rng at h
  simp only [Bool.and_eq_true, decide_eq_true_eq] at h
  exact h.1
theorem validC_VOK (gs : List Nd) (cs : List Int) (h : validC gs cs = true) : VOK cs := by
  obtain ⟨hl, hc⟩ := validC_parts gs cs h
  intro j hj
  exact cellOK_bd gs cs j (hc j (by omega))
theorem validC_allR (gs : List Nd) (cs : List Int) (h : validC gs cs = true) : allR cs 0 999 = true := by
  refine allR_true _ _ _ fun k hk => ?_
  have := validC_VOK gs cs h k hk
  unfold rng
  simpa using this
theorem validC_range (gs : List Nd) (cs : List Int) (h : allR cs 0 999 = false) : validC gs cs = false := by
  cases hv : validC gs cs
  · rfl
  · rw [validC_allR gs cs hv] at h; cases h
def meanF (gs : List Nd) (cs : List Int) : List Int := if okC gs cs then mean gs cs else []
theorem meanTo_len (gs : List Nd) (cs : List Int) (i : Nat) : (meanTo gs cs i).length = i := by
  induction i with
  | zero => rfl
  | succ i ih => simp [meanTo, ih]
theorem whole_ok (ps : List Pt) (m : Nat) (hv : validF ps = true) (he : eachOK ps m = true) : (whole ps).ok m := by
  obtain ⟨hg, h1, h12⟩ := validF_good ps hv
  exact tmAt_ok ps m hg he ps.length (ps.length - 1) (by omega) (by omega)
theorem meanTo_VOK (gs : List Nd) (cs : List Int) (h : okC gs cs = true) (i : Nat) (hi : i ≤ gs.length) : VOK (meanTo gs cs i) := by
  unfold okC at h
  simp only [Bool.and_eq_true] at h
  obtain ⟨hg, hc⟩ := h
  induction i with
  | zero => intro j hj; simp [meanTo] at hj
  | succ i ih =>
    have ih := ih (by omega)
    have hl := meanTo_len gs cs i
    intro j hj
    rw [meanTo_len] at hj
    rcases Nat.lt_or_ge j i with h1 | h1
    · have := ih j (by omega)
      simpa [meanTo, List.getD, List.getElem?_append, hl, h1] using this
    · obtain rfl : j = i := by omega
      have e : (meanTo gs cs (j + 1)).getD j 0 = (if (gs.getD j default).k == 0 then cs.getD j 0 else (whole (gs.getD j default).ps).ev (meanTo gs cs j)) := by
        simp [meanTo, List.getD, List.getElem?_append, hl]
      rw [e]
      cases hk : ((gs.getD j default).k == 0)
      · simp only [Bool.false_eq_true, if_false]
        refine Tm.ev_bd _ ih _ ?_
        rw [hl]
        exact whole_ok _ _ (nodeOK_formula gs j ((validG_parts gs hg).2 j (by omega)) hk).1 (each_ahead gs j j hg (by omega) hk (Nat.le_refl _))
      · simp only [if_true]
        exact cellOK_bd gs cs j ((validC_parts gs cs hc).2 j (by omega))
theorem canEv_of (ps : List Pt) (vs : List Int) (hv : validF ps = true) (hl : vs.length ≤ 10) (hr : VOK vs) (he : eachOK ps vs.length = true) : canEv ps vs = true := by
  unfold canEv
  rw [hv, he, decide_eq_true hl]
  simp only [Bool.true_and, Bool.and_true]
  refine allR_true _ _ _ fun k hk => ?_
  have := hr k hk
  unfold rng
  simpa using this
/-- The formula of a node can be evaluated with the values of the nodes ahead. -/
theorem mean_canEv (gs : List Nd) (cs : List Int) (h : okC gs cs = true) (i : Nat) (hi : i < gs.length) (hk : ((gs.getD i default).k == 0) = false) : canEv (gs.getD i default).ps (meanTo gs cs i) = true := by
  have hv := meanTo_VOK gs cs h i (by omega)
  unfold okC at h
  simp only [Bool.and_eq_true] at h
  obtain ⟨hg, hc⟩ := h
  have hl := meanTo_len gs cs i
  have h10 := (validG_parts gs hg).1
  refine canEv_of _ _ (nodeOK_formula gs i ((validG_parts gs hg).2 i hi) hk).1 (by omega) hv ?_
  rw [hl]
  exact each_ahead gs i i hg hi hk (Nat.le_refl _)
theorem okC_parts (gs : List Nd) (cs : List Int) (h : okC gs cs = true) : validG gs = true ∧ validC gs cs = true := by
  unfold okC at h
  simpa only [Bool.and_eq_true] using h
end Go.Proofs.Ytfooafnfdeofoaa

namespace Go.Proofs.Ytfooafnfdeofoaa
set_option linter.unusedSimpArgs false
set_option linter.unusedVariables false
open Go.RowKit
/-- A node of the list ahead that is no effect. -/
def rdA (gs : List Nd) (x : Int) : Bool := decide (x < (gs.length : Int)) && !((gs.getD x.toNat default).k == 2)
theorem rdA_take (gs : List Nd) (i : Nat) (hi : i ≤ gs.length) (x : Int) (hx : 0 ≤ x) : rdA (gs.take i) x = rdOK gs i x := by
  unfold rdA rdOK
  rw [List.length_take, Nat.min_eq_left hi]
  by_cases h : x < (i : Int)
  · have : (gs.take i).getD x.toNat default = gs.getD x.toNat default := by
      simp only [List.getD, List.getElem?_take, if_pos (show x.toNat < i by omega)]
    rw [this]
  · rw [decide_eq_false h]; rfl
set_option maxRecDepth 100000 in
set_option maxHeartbeats 1600000 in
theorem impl_areReadable (A A' : Option Addr) (n c l c' : Nat) (gs : List Nd) (L : List Int) (w : World) (B : Nat) (hB : B ≤ w.heap.size) (hn : n = gs.length) (hl : l = L.length) (h : GS w B A gs) (h' : IS w B A' L) (hs : n ≤ 2000000) (hs' : l ≤ 2000000) (hbd : ∀ j, j < l → 0 ≤ L.getD j 0) :
    Calls Try.prog 84 #[.slice A n c, .slice A' l c'] w fun e w' => e = .returned (.bool (L.all (rdA gs))) ∧ w = w' := by
  have H := Lib.hid h
  have HI := Lib.hid h'
  have HN := Lib.hid hn
  have HL := Lib.hid hl
  have HBD := Lib.hid hbd
  clear h h' hn hl hbd
  go_enter Try.func84, Try.ntmps84
  go_wp2
  go_loop [9] (fun u => ∃ k : Nat, k ≤ l ∧ u = .int .i64 k ∧ Hid (∀ j, j < k → rdA gs (L.getD j 0) = true)) (fun u => l - (intOf u).toNat)
  case atStart => exact ⟨0, by omega, rfl, by intro j hj; omega⟩
  case round =>
    obtain ⟨k, hk, rfl, HK⟩ := hrel
    by_cases hlt : k < l
    · obtain ⟨b', off', rfl, hb', hc⟩ := HI.out (by have := HL.out; omega)
      have hx := hc k (by have := HL.out; omega)
      have hx0 := HBD.out k hlt
      clear hc
      generalize hxx : L.getD k 0 = x at *
      have HX := Lib.hid hxx
      clear hxx
      obtain ⟨t, rfl⟩ : ∃ t : Nat, x = (t : Int) := ⟨x.toNat, by omega⟩
      by_cases htn : t < n
      · obtain ⟨b, off, rfl, hbB, c3, _⟩ := H.out.at_ t (by have := HN.out; omega)
        have hro : rdA gs (t : Int) = !((gs.getD t default).k == 2) := by unfold rdA; rw [decide_eq_true (by have := HN.out; omega)]; simp
        generalize gs.getD t default = q at *
        cases hq : (q.k == 2)
        all_goals
          have HR := Lib.hid hro
          have HQ := Lib.hid hq
          clear hro
          go_wp2
        · go_round
          case rel => exact ⟨k + 1, by omega, by go_num, fun j hj => by
            rcases Nat.lt_or_ge j k with h1 | h1
            · exact HK.out j h1
            · obtain rfl : j = k := by omega
              rw [HX.out, HR.out, HQ.out]; rfl⟩
          case measure => simp [intOf]; omega
        · go_ret
          refine ⟨ret_b ?_, rfl⟩
          exact (all_bad L (rdA gs) k (by have := HL.out; omega) (by rw [HX.out, HR.out, HQ.out]; rfl)).symm
      · have hro : rdA gs (t : Int) = false := by unfold rdA; rw [decide_eq_false (by have := HN.out; omega)]; rfl
        have HR := Lib.hid hro
        clear hro
        go_wp2
        go_ret
        refine ⟨ret_b ?_, rfl⟩
        exact (all_bad L (rdA gs) k (by have := HL.out; omega) (by rw [HX.out, HR.out])).symm
    · go_wp2
      go_ret
      refine ⟨ret_b ?_, rfl⟩
      exact (all_good L (rdA gs) fun j hj => HK.out j (by have := HL.out; omega)).symm
/-- Whether a node fits behind others. -/
def fitsB (gs : List Nd) (d : Nd) : Bool :=
  if d.k == 0 then decide (d.ps.length = 0)
  else if d.k == 1 then validF d.ps && (mayR d.ps).all (rdA gs)
  else if d.k == 2 then validF d.ps && (mayR d.ps).all (rdA gs)
  else false
theorem fits_node (gs : List Nd) (i : Nat) (hi : i ≤ gs.length) : fitsB (gs.take i) (gs.getD i default) = nodeOK gs i := by
  unfold fitsB nodeOK goodRd
  have e : (mayR (gs.getD i default).ps).all (rdA (gs.take i)) = (mayR (gs.getD i default).ps).all (rdOK gs i) := by
    rw [Bool.eq_iff_iff, List.all_eq_true, List.all_eq_true]
    constructor
    · intro h x hx; rw [← rdA_take gs i hi x (mem_mayR_bd _ _ hx).1]; exact h x hx
    · intro h x hx; rw [rdA_take gs i hi x (mem_mayR_bd _ _ hx).1]; exact h x hx
  rw [e]
set_option maxRecDepth 100000 in
set_option maxHeartbeats 1600000 in
theorem impl_fitsBehind (A A1 : Option Addr) (n c n1 c1 : Nat) (gs : List Nd) (k : Int) (ps : List Pt) (w : World) (B : Nat) (hB : B ≤ w.heap.size) (hn : n = gs.length) (hn1 : n1 = ps.length) (h : GS w B A gs) (h1 : PS w B A1 ps) (hs : n ≤ 2000000) (hs1 : n1 ≤ 1999999) :
    Calls Try.prog 68 #[.slice A n c, .agg #[.int .i64 k, .slice A1 n1 c1]] w fun e w' => e = .returned (.bool (fitsB gs ⟨k, ps⟩)) ∧ Below w.heap.size w w' := by
  have H := Lib.hid h
  have H1 := Lib.hid h1
  have HN := Lib.hid hn
  have HN1 := Lib.hid hn1
  have hfe : fitsB gs ⟨k, ps⟩ = if k == 0 then decide (ps.length = 0) else if k == 1 then validF ps && (mayR ps).all (rdA gs) else if k == 2 then validF ps && (mayR ps).all (rdA gs) else false := rfl
  cases h0 : (k == 0)
  · by_cases h12 : (k == 1) = true ∨ (k == 2) = true
    · have hfe2 : fitsB gs ⟨k, ps⟩ = (validF ps && (mayR ps).all (rdA gs)) := by
        rw [hfe, h0]
        rcases h12 with e | e
        · rw [e]; rfl
        · rw [e]; cases (k == 1) <;> rfl
      rw [hfe2]
      have HVF := Lib.hid fun (w : World) (hB : B ≤ w.heap.size) (h : PS w B A1 ps) => impl_ValidFormula A1 n1 c1 ps w B hB hn1 h (by omega)
      have HMR := Lib.hid fun (w : World) (hB : B ≤ w.heap.size) (h : PS w B A1 ps) => impl_MayRead A1 n1 c1 ps w B hB hn1 h (by omega)
      clear h h1 hn hn1 hfe hfe2
      cases hv : validF ps
      · rw [hv] at HVF
        clear hv HMR
        rw [show (false && (mayR ps).all (rdA gs)) = false from rfl]
        cases ha : (k == 1)
        · have hb : (k == 2) = true := by rcases h12 with e | e; rw [ha] at e; cases e; exact e
          clear h12
          go_enter Try.func68, Try.ntmps68
          go_wp2_with fail
          refine (HVF.out _ (by simp; omega) (H1.out.alloc hB _)).mono ?_
          rintro e w1 ⟨rfl, hb1⟩
          go_wp2
          go_ret
          exact ⟨rfl, ((Below.refl _ _).alloc (Nat.le_refl _) _).trans (hb1.mono (by simp))⟩
        · clear h12
          go_enter Try.func68, Try.ntmps68
          go_wp2_with fail
          refine (HVF.out _ (by simp; omega) (H1.out.alloc hB _)).mono ?_
          rintro e w1 ⟨rfl, hb1⟩
          go_wp2
          go_ret
          exact ⟨rfl, ((Below.refl _ _).alloc (Nat.le_refl _) _).trans (hb1.mono (by simp))⟩
      · have hmf : mayF ps = mayR ps := by simp [mayF, hv]
        rw [hv] at HVF
        rw [hmf] at HMR
        have hlen := mayR_len ps 10
        rw [mayR_below] at hlen
        have hbd := mayR_getD_bd ps
        clear hv hmf
        generalize mayR ps = L at *
        generalize hl : L.length = l at *
        have HL := Lib.hid hl
        have HAR := Lib.hid fun (A' : Option Addr) (c' : Nat) (w : World) (B : Nat) (hB : B ≤ w.heap.size) (h : GS w B A gs) (h' : IS w B A' L) => impl_areReadable A A' n c l c' gs L w B hB HN.out hl.symm h h' hs (by omega) (fun j hj => (hbd j hj).1)
        clear hl hbd
        rw [show (true && L.all (rdA gs)) = L.all (rdA gs) from Bool.true_and _]
        generalize L.all (rdA gs) = r at *
        cases ha : (k == 1)
        · have hb : (k == 2) = true := by rcases h12 with e | e; rw [ha] at e; cases e; exact e
          clear h12
          go_enter Try.func68, Try.ntmps68
          go_wp2_with fail
          refine (HVF.out _ (by simp; omega) (H1.out.alloc hB _)).mono ?_
          rintro e w1 ⟨rfl, hb1⟩
          have hz1 : w.heap.size < w1.heap.size := by have := hb1.size; simp at this; omega
          have hbx : w1.cell? ⟨w.heap.size, 1, none⟩ = some (.slice A1 n1 c1) := (hb1.cell (p := ⟨w.heap.size, 1, none⟩) (by simp)).trans (by go_simp)
          have HP1 := Lib.hid ((H1.out.alloc hB (.cells #[.int .i64 k, .slice A1 n1 c1] 58)).below hb1 (by simp; omega))
          have HG1 := Lib.hid ((H.out.alloc hB (.cells #[.int .i64 k, .slice A1 n1 c1] 58)).below hb1 (by simp; omega))
          have hB1 : Below w.heap.size w w1 := ((Below.refl _ _).alloc (Nat.le_refl _) _).trans (hb1.mono (by simp))
          clear hb1
          go_wp2_with fail
          refine (HMR.out _ (by omega) HP1.out).mono ?_
          rintro e w2 ⟨v2, rfl, hown, hb2⟩
          obtain ⟨A2, c2, rfl, hI⟩ := hown.form
          have HI := Lib.hid hI
          have HG2 := Lib.hid ((HG1.out.below hb2 (by omega)).more (B' := w2.heap.size) (by have := hb2.size; omega))
          rw [HL.out]
          clear hI hown
          go_wp2_with fail
          refine (HAR.out _ _ _ _ (Nat.le_refl _) HG2.out HI.out).mono ?_
          rintro e w3 ⟨rfl, rfl⟩
          go_wp2
          go_ret
          exact ⟨rfl, hB1.trans (hb2.mono (by omega))⟩
        · clear h12
          go_enter Try.func68, Try.ntmps68
          go_wp2_with fail
          refine (HVF.out _ (by simp; omega) (H1.out.alloc hB _)).mono ?_
          rintro e w1 ⟨rfl, hb1⟩
          have hz1 : w.heap.size < w1.heap.size := by have := hb1.size; simp at this; omega
          have hbx : w1.cell? ⟨w.heap.size, 1, none⟩ = some (.slice A1 n1 c1) := (hb1.cell (p := ⟨w.heap.size, 1, none⟩) (by simp)).trans (by go_simp)
          have HP1 := Lib.hid ((H1.out.alloc hB (.cells #[.int .i64 k, .slice A1 n1 c1] 58)).below hb1 (by simp; omega))
          have HG1 := Lib.hid ((H.out.alloc hB (.cells #[.int .i64 k, .slice A1 n1 c1] 58)).below hb1 (by simp; omega))
          have hB1 : Below w.heap.size w w1 := ((Below.refl _ _).alloc (Nat.le_refl _) _).trans (hb1.mono (by simp))
          clear hb1
          go_wp2_with fail
          refine (HMR.out _ (by omega) HP1.out).mono ?_
          rintro e w2 ⟨v2, rfl, hown, hb2⟩
          obtain ⟨A2, c2, rfl, hI⟩ := hown.form
          have HI := Lib.hid hI
          have HG2 := Lib.hid ((HG1.out.below hb2 (by omega)).more (B' := w2.heap.size) (by have := hb2.size; omega))
          rw [HL.out]
          clear hI hown
          go_wp2_with fail
          refine (HAR.out _ _ _ _ (Nat.le_refl _) HG2.out HI.out).mono ?_
          rintro e w3 ⟨rfl, rfl⟩
          go_wp2
          go_ret
          exact ⟨rfl, hB1.trans (hb2.mono (by omega))⟩
    · have ha : (k == 1) = false := by cases e : (k == 1); rfl; exact absurd (.inl e) h12
      have hb : (k == 2) = false := by cases e : (k == 2); rfl; exact absurd (.inr e) h12
      rw [hfe, h0, ha, hb]
      clear h h1 hn hn1 hfe h12
      go_enter Try.func68, Try.ntmps68
      go_wp2
      go_ret
      exact ⟨rfl, (Below.refl _ _).alloc (Nat.le_refl _) _⟩
  · rw [hfe, h0]
    clear h h1 hn hn1 hfe
    go_enter Try.func68, Try.ntmps68
    go_wp2
    go_ret
    refine ⟨ret_b ?_, (Below.refl _ _).alloc (Nat.le_refl _) _⟩
    rw [HN1.out]
    cases ps <;> simp
    omega
set_option maxRecDepth 100000 in
set_option maxHeartbeats 1600000 in
theorem impl_ValidGraph (A : Option Addr) (n c : Nat) (gs : List Nd) (w : World) (B : Nat) (hB : B ≤ w.heap.size) (hn : n = gs.length) (h : GS w B A gs) (hs : GB gs) (hnc : n ≤ c) :
    Calls Try.prog 41 #[.agg #[.slice A n c]] w fun e w' => e = .returned (.bool (validG gs)) ∧ Below w.heap.size w w' := by
  have hn1 : n ≤ 1048576 := by rw [hn]; exact hs.1
  by_cases h10 : 10 < n
  · rw [validG_long gs (by omega)]
    clear h hn hs
    go_enter Try.func41, Try.ntmps41
    go_wp2
    go_ret
    exact ⟨rfl, (Below.refl _ _).alloc (Nat.le_refl _) _⟩
  have H := Lib.hid h
  have HN := Lib.hid hn
  have HS := Lib.hid hs
  clear h hn hs
  go_enter Try.func41, Try.ntmps41
  go_wp2
  go_loopw [12] (fun u wr => ∃ k : Nat, k ≤ n ∧ u = .int .i64 k ∧ Hid (∀ j, j < k → nodeOK gs j = true) ∧ Below (w.heap.size + 1) (w.alloc (.cells #[.slice A n c] 25)) wr) (fun u _ => n - (intOf u).toNat)
  case atStart => exact ⟨0, by omega, rfl, by intro j hj; omega, Below.refl _ _⟩
  case round =>
    obtain ⟨k, hk, rfl, HK, hbr⟩ := hrel
    have hbox : wr.cell? ⟨w.heap.size, 0, none⟩ = some (.slice A n c) := (hbr.cell (p := ⟨w.heap.size, 0, none⟩) (by simp)).trans (by go_simp)
    have hwr : w.heap.size + 1 ≤ wr.heap.size := by have := hbr.size; simpa using this
    have hws : w.heap.size < wr.heap.size := by omega
    by_cases hlt : k < n
    · obtain ⟨b, off, rfl, hbB, c0, A1, n1, c1, c2, hn1', hps⟩ := H.out.at_ k (by have := HN.out; omega)
      have hx := HS.out.2 k
      have b0 : wr.cell? ⟨b, off + k * 2, none⟩ = _ := ((hbr.cell (p := ⟨b, off + k * 2, none⟩) (by simp; omega)).trans (World.cell?_alloc_lt _ _ _ (by simp; omega))).trans c0
      have b1 : wr.cell? ⟨b, off + k * 2 + 1, none⟩ = _ := ((hbr.cell (p := ⟨b, off + k * 2 + 1, none⟩) (by simp; omega)).trans (World.cell?_alloc_lt _ _ _ (by simp; omega))).trans c2
      have HPS := Lib.hid ((hps.alloc hB (.cells #[.slice (some ⟨b, off, none⟩) n c] 25)).below hbr (by omega))
      have HGS := Lib.hid (((H.out.take k (by have := HN.out; omega)).alloc hB (.cells #[.slice (some ⟨b, off, none⟩) n c] 25)).below hbr (by omega))
      have hfn := fits_node gs k (by have := HN.out; omega)
      have hlen : k = (gs.take k).length := by rw [List.length_take]; have := HN.out; omega
      clear c0 c2 hps
      generalize gs.getD k default = d at *
      have hy1 : n1 ≤ 1999999 := by omega
      have HFB := Lib.hid fun (w : World) (hB : B ≤ w.heap.size) (h : GS w B (some ⟨b, off, none⟩) (gs.take k)) (h1 : PS w B A1 d.ps) => impl_fitsBehind (some ⟨b, off, none⟩) A1 k c n1 c1 (gs.take k) d.k d.ps w B hB hlen hn1' h h1 (by omega) hy1
      rw [show fitsB (gs.take k) ⟨d.k, d.ps⟩ = nodeOK gs k from hfn] at HFB
      have HNK := Lib.hid fun (h : nodeOK gs k = false) => validG_bad gs k (by have := HN.out; omega) h
      have HNT : Hid (nodeOK gs k = true → ∀ j, j < k + 1 → nodeOK gs j = true) := fun h j hj => by
        rcases Nat.lt_or_ge j k with h1 | h1
        · exact HK.out j h1
        · obtain rfl : j = k := by omega
          exact h
      clear hfn hlen hn1' hx
      generalize nodeOK gs k = r at *
      cases r
      all_goals
        go_wp2
        obtain ⟨W2, hW2⟩ : ∃ W2, W2 = wr.alloc (.cells #[.int .i64 d.k, .slice A1 n1 c1] 58) := ⟨_, rfl⟩
        have q0 : W2.cell? ⟨w.heap.size, 0, none⟩ = some (.slice (some ⟨b, off, none⟩) n c) := by rw [hW2]; exact (World.cell?_alloc_lt _ _ _ hws).trans hbox
        have q1 : W2.cell? ⟨wr.heap.size, 0, none⟩ = some (.int .i64 d.k) := by rw [hW2]; go_simp
        have q2 : W2.cell? ⟨wr.heap.size, 1, none⟩ = some (.slice A1 n1 c1) := by rw [hW2]; go_simp
        have HP2 : Hid (PS W2 B A1 d.ps) := by rw [hW2]; exact HPS.out.alloc (by omega) _
        have HG2 : Hid (GS W2 B (some ⟨b, off, none⟩) (gs.take k)) := by rw [hW2]; exact HGS.out.alloc (by omega) _
        have hb2 : Below (w.heap.size + 1) (w.alloc (.cells #[.slice (some ⟨b, off, none⟩) n c] 25)) W2 := by rw [hW2]; exact hbr.alloc (by omega) _
        have hz2 : w.heap.size + 1 < W2.heap.size := by rw [hW2]; simp; omega
        have hkc : k ≤ c := by omega
        rw [← hW2]
        clear hW2 HPS HGS b0 b1
        go_still_tail 5, (by kernel_rfl)
        go_wp2_with fail
        refine (HFB.out W2.drew (show B ≤ W2.heap.size by omega) HG2.out HP2.out).mono ?_
        rintro e w3 ⟨rfl, hb3⟩
        have hB3 := hb2.drew.trans (hb3.mono (show w.heap.size + 1 ≤ W2.heap.size by omega))
        go_wp2
      · go_ret
        exact ⟨ret_b (HNK.out trivial).symm, ((Below.refl _ _).alloc (Nat.le_refl _) _).trans (hB3.mono (by omega))⟩
      · go_roundw
        case rel => exact ⟨k + 1, by omega, by go_num, HNT.out trivial, hB3⟩
        case measure => simp [intOf]; omega
    · go_wp2
      go_ret
      refine ⟨ret_b ?_, ((Below.refl _ _).alloc (Nat.le_refl _) _).trans (hbr.mono (by omega))⟩
      rw [validG_fin gs fun j hj => HK.out j (by have := HN.out; omega)]
      have := HN.out
      simp
      omega
end Go.Proofs.Ytfooafnfdeofoaa

namespace Go.Proofs.Ytfooafnfdeofoaa
set_option linter.unusedSimpArgs false
set_option linter.unusedVariables false
open Go.RowKit
set_option maxRecDepth 100000 in
set_option maxHeartbeats 1600000 in
theorem impl_ValidCells (A A' : Option Addr) (n c m c' : Nat) (gs : List Nd) (xs : List Int) (w : World) (B : Nat) (hB : B ≤ w.heap.size) (hn : n = gs.length) (hnc : n ≤ c) (hm : m = xs.length) (h : GS w B A gs) (h' : IS w B A' xs) (hs : GB gs) (hs' : m ≤ 2000000) :
    Calls Try.prog 15 #[.agg #[.slice A n c], .slice A' m c'] w fun e w' => e = .returned (.bool (okC gs xs)) ∧ Below w.heap.size w w' := by
  have hn1 : n ≤ 1048576 := by rw [hn]; exact hs.1
  have HVG := Lib.hid fun (w' : World) (hB : B ≤ w'.heap.size) (h : GS w' B A gs) => impl_ValidGraph A n c gs w' B hB hn h hs hnc
  have hok : okC gs xs = (validG gs && validC gs xs) := rfl
  cases hv : validG gs
  · have : okC gs xs = false := by rw [hok, hv]; rfl
    rw [this]
    rw [hv] at HVG
    have H := Lib.hid h
    clear this h h' hn hm hok hv
    go_enter Try.func15, Try.ntmps15
    go_wp2_with fail
    refine (HVG.out _ (by simp; omega) (H.out.alloc hB _)).mono ?_
    rintro e w1 ⟨rfl, hb⟩
    go_wp2
    go_ret
    exact ⟨rfl, ((Below.refl _ _).alloc (Nat.le_refl _) _).trans (hb.mono (by simp))⟩
  have : okC gs xs = validC gs xs := by rw [hok, hv]; rfl
  rw [this]
  rw [hv] at HVG
  have h10 := (validG_parts gs hv).1
  have hn10 : n ≤ 10 := by omega
  clear this hok hv h10
  by_cases hl : m = n
  · have hne : ((m : Int) != (n : Int)) = false := by simp [hl]
    have hlx : xs.length ≤ 10 := by omega
    have hdx : decide (xs.length ≤ 10) = true := by simpa using hlx
    have HAR := Lib.hid fun (w' : World) (hB : B ≤ w'.heap.size) (h : IS w' B A' xs) => impl_allInRange A' m c' xs 999 w' B hB hm h hs'
    rw [hdx] at HAR
    have H := Lib.hid h
    have HI := Lib.hid h'
    have HN := Lib.hid hn
    have HM := Lib.hid hm
    have HE := Lib.hid hl
    clear h h' hn hm hl hlx hdx
    cases ha : allR xs 0 999
    · rw [validC_range gs xs ha]
      rw [ha] at HAR
      clear ha
      go_enter Try.func15, Try.ntmps15
      go_wp2_with fail
      refine (HVG.out _ (by simp; omega) (H.out.alloc hB _)).mono ?_
      rintro e w1 ⟨rfl, hb⟩
      have q : w1.cell? ⟨w.heap.size, 0, none⟩ = some (.slice A n c) := (hb.cell (p := ⟨w.heap.size, 0, none⟩) (by simp)).trans (by go_simp)
      have HI1 := Lib.hid ((HI.out.alloc hB (.cells #[.slice A n c] 25)).below hb (by simp; omega))
      have hz : B ≤ w1.heap.size := by have := hb.size; simp at this; omega
      go_wp2_with fail
      refine (HAR.out _ hz HI1.out).mono ?_
      rintro e w2 ⟨rfl, rfl⟩
      go_wp2
      go_ret
      exact ⟨rfl, ((Below.refl _ _).alloc (Nat.le_refl _) _).trans (hb.mono (by simp))⟩
    · have HALL := Lib.hid ha
      rw [ha] at HAR
      clear ha
      go_enter Try.func15, Try.ntmps15
      go_wp2_with fail
      refine (HVG.out _ (by simp; omega) (H.out.alloc hB _)).mono ?_
      rintro e w1 ⟨rfl, hb⟩
      have q : w1.cell? ⟨w.heap.size, 0, none⟩ = some (.slice A n c) := (hb.cell (p := ⟨w.heap.size, 0, none⟩) (by simp)).trans (by go_simp)
      have HI1 := Lib.hid ((HI.out.alloc hB (.cells #[.slice A n c] 25)).below hb (by simp; omega))
      have HG1 := Lib.hid ((H.out.alloc hB (.cells #[.slice A n c] 25)).below hb (by simp; omega))
      have hz : B ≤ w1.heap.size := by have := hb.size; simp at this; omega
      have hB1 : Below w.heap.size w w1 := ((Below.refl _ _).alloc (Nat.le_refl _) _).trans (hb.mono (by simp))
      clear hb H HI
      go_wp2_with fail
      refine (HAR.out _ hz HI1.out).mono ?_
      rintro e w2 ⟨rfl, rfl⟩
      go_wp2
      go_loopw [26] (fun u wr => ∃ k : Nat, k ≤ n ∧ u = .int .i64 k ∧ Hid (∀ j, j < k → cellOK gs xs j = true) ∧ Below w1.heap.size w1 wr) (fun u _ => n - (intOf u).toNat)
      case atStart => exact ⟨0, by omega, rfl, by intro j hj; omega, Below.refl _ _⟩
      case round =>
        obtain ⟨k, hk, rfl, HK, hbr⟩ := hrel
        by_cases hlt : k < n
        · have hkm : k < m := by have := HE.out; omega
          obtain ⟨b, off, rfl, hbB, c0, A1, n1, c1, c2, _⟩ := HG1.out.at_ k (by have := HN.out; omega)
          obtain ⟨b', off', rfl, hb', hc⟩ := HI1.out (by have := HM.out; omega)
          have hx := hc k (by have := HM.out; omega)
          clear hc
          have e0 := (hbr.cell (p := ⟨b, off + k * 2, none⟩) (by simp; omega)).trans c0
          have e1 := (hbr.cell (p := ⟨b, off + k * 2 + 1, none⟩) (by simp; omega)).trans c2
          have e2 := (hbr.cell (p := ⟨b', off' + k, none⟩) (by simp; omega)).trans hx
          have hbw : b < wr.heap.size := by have := hbr.size; omega
          have hbw' : b' < wr.heap.size := by have := hbr.size; omega
          have hco : cellOK gs xs k = (rng (xs.getD k 0) 0 999 && ((gs.getD k default).k == 0 || xs.getD k 0 == 0)) := rfl
          have hrg : rng (xs.getD k 0) 0 999 = true := by
            have := HALL.out
            unfold allR at this
            rw [List.all_eq_true] at this
            exact this _ (by have := HM.out; have h2 : k < xs.length := by omega
                             simp [List.getD, h2])
          have HNK := Lib.hid fun (h : cellOK gs xs k = false) => validC_bad gs xs k (by have := HN.out; omega) h
          have HNT : Hid (cellOK gs xs k = true → ∀ j, j < k + 1 → cellOK gs xs j = true) := fun h j hj => by
            rcases Nat.lt_or_ge j k with h1 | h1
            · exact HK.out j h1
            · obtain rfl : j = k := by omega
              exact h
          generalize cellOK gs xs k = r at *
          generalize gs.getD k default = d at *
          generalize xs.getD k 0 = x at *
          subst hco
          have HR := Lib.hid hrg
          clear c0 c2 hx hrg
          cases hd : (d.k == 0)
          · have hd' : (d.k != 0) = true := by simp [bne, hd]
            have HD := Lib.hid hd
            cases hz' : (x == 0)
            · have hz2 : (x != 0) = true := by simp [bne, hz']
              have HZ := Lib.hid hz'
              go_wp2
              go_ret
              exact ⟨ret_b (HNK.out (by rw [HR.out, HD.out, HZ.out]; rfl)).symm, hB1.trans ((hbr.alloc (by have := hbr.size; omega) _).mono hB1.size)⟩
            · have hz2 : (x != 0) = false := by simp [bne, hz']
              have HZ := Lib.hid hz'
              go_wp2
              go_roundw
              case rel => exact ⟨k + 1, by omega, by go_num, HNT.out (by rw [HR.out, HD.out, HZ.out]; rfl), hbr.alloc (by have := hbr.size; omega) _⟩
              case measure => simp [intOf]; omega
          · have hd' : (d.k != 0) = false := by simp [bne, hd]
            have HD := Lib.hid hd
            go_wp2
            go_roundw
            case rel => exact ⟨k + 1, by omega, by go_num, HNT.out (by rw [HR.out, HD.out]; rfl), hbr.alloc (by have := hbr.size; omega) _⟩
            case measure => simp [intOf]; omega
        · go_wp2
          go_ret
          refine ⟨ret_b ?_, hB1.trans (hbr.mono hB1.size)⟩
          exact (validC_fin gs xs (by have := HN.out; have := HM.out; have := HE.out; omega) fun j hj => HK.out j (by have := HN.out; omega)).symm
  · have hne : ((m : Int) != (n : Int)) = true := by simp; omega
    rw [validC_len gs xs (by omega)]
    have H := Lib.hid h
    clear hl hn hm h h'
    go_enter Try.func15, Try.ntmps15
    go_wp2_with fail
    refine (HVG.out _ (by simp; omega) (H.out.alloc hB _)).mono ?_
    rintro e w1 ⟨rfl, hb⟩
    have q : w1.cell? ⟨w.heap.size, 0, none⟩ = some (.slice A n c) := (hb.cell (p := ⟨w.heap.size, 0, none⟩) (by simp)).trans (by go_simp)
    go_wp2
    go_ret
    exact ⟨rfl, ((Below.refl _ _).alloc (Nat.le_refl _) _).trans (hb.mono (by simp))⟩
theorem top_impl_ValidCells (gs : List Nd) (xs : List Int) (hG : GB gs) (hL : xs.length ≤ 1048576) : ∀ (A : Option Addr) (n c : Nat) (A' : Option Addr) (m c' : Nat) (w : World), n = gs.length → n ≤ c → GS w w.heap.size A gs → m = xs.length → IS w w.heap.size A' xs →
    Calls Try.prog 15 #[.agg #[.slice A n c], .slice A' m c'] w fun e w' => e = .returned (.bool (okC gs xs)) ∧ Below w.heap.size w w' :=
  fun A n c A' m c' w hn hc h hm h' => impl_ValidCells A A' n c m c' gs xs w w.heap.size (Nat.le_refl _) hn hc hm h h' hG (by omega)
end Go.Proofs.Ytfooafnfdeofoaa

namespace Go.Proofs.Ytfooafnfdeofoaa
set_option linter.unusedSimpArgs false
set_option linter.unusedVariables false
open Go.RowKit
theorem mean_step (gs : List Nd) (xs : List Int) (k : Nat) : meanTo gs xs (k + 1) = meanTo gs xs k ++ [if (gs.getD k default).k == 0 then xs.getD k 0 else (whole (gs.getD k default).ps).ev (meanTo gs xs k)] := rfl
theorem own_heap {w : World} {base e n cap g : Nat} {xs : List Value} (h : w.ownsRow base e 1 (.slice (some ⟨g, 0, none⟩) n cap) n xs) : ∃ cur : List Value, w.heap[g]? = some (.cells cur.toArray e (0, 0)) ∧ cur.length = cap ∧ base ≤ g := by
  rcases h.2 with ⟨hv, _⟩ | ⟨g', cap', cur, hv, hb, hh, h1, h2, h3, h4⟩
  · simp at hv
  · simp only [Value.slice.injEq, Option.some.injEq, Addr.mk.injEq, and_true, true_and] at hv
    obtain ⟨rfl, rfl⟩ := hv
    exact ⟨cur.toList, by simpa using hh, by simpa using h3, hb⟩
set_option maxRecDepth 100000 in
set_option maxHeartbeats 1600000 in
theorem impl_copyOf (A : Option Addr) (n c : Nat) (xs : List Int) (w : World) (B : Nat) (hB : B ≤ w.heap.size) (hn : n = xs.length) (h : IS w B A xs) (hs : n ≤ 2000000) :
    Calls Try.prog 44 #[.slice A n c] w fun e w' => e = .returned (.slice (some ⟨w.heap.size, 0, none⟩) n n) ∧ w'.ownsRow w.heap.size 3 1 (.slice (some ⟨w.heap.size, 0, none⟩) n n) n (xs.map (Value.int .i64)) ∧ Below w.heap.size w w' := by
  obtain ⟨i0, hi, hz0, hz1, hz2⟩ := info_parts info_int
  obtain ⟨w0, hmk, hown0, hgr0⟩ := run_make_full (P := Try.prog) w w.heap.size 33 3 i0 _ 1 Try.underlying33 hi hz0 hz1 .i64 .i64 n (by rw [hz2]; omega) (by unfold maxLen; omega) (Nat.le_refl _)
  obtain ⟨cur, hcur, hcl, _⟩ := own_heap hown0
  have hb0 : Below w.heap.size w w0 := ⟨hgr0.os, hgr0.tape, hgr0.output, hgr0.size, fun k hk => hgr0.block k hk (by simp)⟩
  obtain ⟨cs, hcs⟩ : ∃ cs : List Value, cs = xs.map (Value.int .i64) := ⟨_, rfl⟩
  have hsz : (Try.prog.info? 3).map (·.size) = some 1 := by kernel_rfl
  have hcl2 : cs.length = n := by rw [hcs, List.length_map]; exact hn.symm
  have hsrc : 0 < cs.length → some (⟨w.heap.size, 0, none⟩ : Addr) = some ⟨w.heap.size, 0, none⟩ ∧ ∃ ad, A = some ad ∧ ∀ j v, cs[j]? = some v → w0.cell? (ad.add j) = some v := by
    intro hp
    obtain ⟨b, off, e, hb, hc⟩ := h (by omega)
    refine ⟨rfl, _, e, fun j v hv => ?_⟩
    have hj : j < xs.length := by
      rcases Nat.lt_or_ge j cs.length with h1 | h1
      · omega
      · rw [List.getElem?_eq_none h1] at hv; cases hv
    have hadd : (⟨b, off, none⟩ : Addr).add j = ⟨b, off + j, none⟩ := by unfold Addr.add; split <;> simp_all
    rw [hadd, hb0.cell (p := ⟨b, off + j, none⟩) (by simp; omega), hc j hj, ← hv, hcs]
    simp [List.getD, hj]
  have h1 : ∀ v ∈ cs, v.oneCell' = true := by
    intro v hv
    rw [hcs] at hv
    obtain ⟨x, _, rfl⟩ := List.mem_map.1 hv
    rfl
  have HCUR := Lib.hid hcur
  have HCL := Lib.hid hcl
  have HCL2 := Lib.hid hcl2
  have HCS := Lib.hid hcs
  have HSRC := Lib.hid hsrc
  have HONE := Lib.hid h1
  have HB0 := Lib.hid hb0
  have HSZ := Lib.hid hsz
  clear hcur hcl hcl2 hcs hsrc h1 hb0 hsz hown0 hgr0 h hn
  go_enter Try.func44, Try.ntmps44
  go_wp2_with (with_reducible refine wpList_copy_splice rfl (.tmp 7) (.tmp 8) 33 33 rfl 3 Try.underlying33 HSZ.out _ _ _ _ _ _ rfl rfl w.heap.size 0 cur 3 HCUR.out cs ?c1 HSRC.out ?c2 HONE.out w.heap.size w HB0.out (Nat.le_refl _) ?_)
  case c1 => have := HCL2.out; omega
  case c2 => have := HCL2.out; have := HCL.out; omega
  intro w2 HG2 hB2
  go_wp2
  go_ret
  have hsp : splice cur 0 cs = cs := by
    unfold splice
    rw [List.take_zero, List.nil_append, List.drop_of_length_le (by have := HCL2.out; have := HCL.out; omega), List.append_nil]
  have hg2 := HG2.out
  rw [hsp] at hg2
  refine ⟨by simp, ⟨by rw [← HCS.out, HCL2.out]; simp, .inr ⟨w.heap.size, n, cs.toArray, rfl, Nat.le_refl _, hg2, Nat.le_refl _, by unfold maxLen; omega, by simpa using HCL2.out, ?_⟩⟩, hB2⟩
  rw [← HCS.out]
  exact List.take_of_length_le (by have := HCL2.out; simp; omega)
end Go.Proofs.Ytfooafnfdeofoaa

namespace Go.Proofs.Ytfooafnfdeofoaa
set_option linter.unusedSimpArgs false
set_option linter.unusedVariables false
open Go.RowKit
/-- The values of the first nodes, and the cells of the others. -/
def mixTo (gs : List Nd) (xs : List Int) (k : Nat) : List Int := meanTo gs xs k ++ xs.drop k
theorem mixTo_zero (gs : List Nd) (xs : List Int) : mixTo gs xs 0 = xs := by simp [mixTo, meanTo]
theorem mixTo_len (gs : List Nd) (xs : List Int) (k : Nat) (h : k ≤ xs.length) : (mixTo gs xs k).length = xs.length := by
  unfold mixTo; rw [List.length_append, meanTo_len, List.length_drop]; omega
theorem mixTo_all (gs : List Nd) (xs : List Int) (k : Nat) (h : k = xs.length) : mixTo gs xs k = meanTo gs xs k := by
  unfold mixTo; rw [h, List.drop_length]; simp
theorem mixTo_take (gs : List Nd) (xs : List Int) (k : Nat) : (mixTo gs xs k).take k = meanTo gs xs k := by
  unfold mixTo
  have := meanTo_len gs xs k
  rw [List.take_append_of_le_length (by omega), List.take_of_length_le (by omega)]
theorem mixTo_step (gs : List Nd) (xs : List Int) (k : Nat) (h : k < xs.length) : mixTo gs xs (k + 1) = if (gs.getD k default).k == 0 then mixTo gs xs k else (mixTo gs xs k).set k ((whole (gs.getD k default).ps).ev (meanTo gs xs k)) := by
  have hl := meanTo_len gs xs k
  have hd : xs.drop k = xs.getD k 0 :: xs.drop (k + 1) := by rw [List.drop_eq_getElem_cons h]; simp [List.getD, h]
  unfold mixTo
  rw [mean_step, hd]
  cases hk : ((gs.getD k default).k == 0)
  · simp only [Bool.false_eq_true, if_false]
    rw [List.set_append_right _ _ (by omega), hl, Nat.sub_self, List.set_cons_zero, List.append_assoc]
    rfl
  · simp only [if_true]
    rw [List.append_assoc]; rfl
set_option maxRecDepth 100000 in
set_option maxHeartbeats 3200000 in
theorem impl_MeaningOf (A A' : Option Addr) (n c m c' : Nat) (gs : List Nd) (xs : List Int) (w : World) (B : Nat) (hB : B ≤ w.heap.size) (hn : n = gs.length) (hnc : n ≤ c) (hm : m = xs.length) (h : GS w B A gs) (h' : IS w B A' xs) (hs : GB gs) (hs' : m ≤ 2000000) :
    Calls Try.prog 49 #[.agg #[.slice A n c], .slice A' m c'] w fun e w' => RetI w (meanF gs xs) e w' := by
  have HVC := Lib.hid fun (w' : World) (hB : B ≤ w'.heap.size) (h : GS w' B A gs) (h' : IS w' B A' xs) => impl_ValidCells A A' n c m c' gs xs w' B hB hn hnc hm h h' hs hs'
  have H := Lib.hid h
  have HI := Lib.hid h'
  have HN := Lib.hid hn
  have HM := Lib.hid hm
  clear h h' hn hm
  cases hok : okC gs xs
  · have hf : meanF gs xs = [] := by unfold meanF; rw [hok]; rfl
    rw [hf]
    rw [hok] at HVC
    clear hf hok hs
    go_enter Try.func49, Try.ntmps49
    go_wp2_with fail
    refine (HVC.out _ (by simp; omega) (H.out.alloc hB _) (HI.out.alloc hB _)).mono ?_
    rintro e w1 ⟨rfl, hb⟩
    go_wp2
    go_ret
    exact ⟨_, rfl, World.ownsRow_nil _ _ _ _, ((Below.refl _ _).alloc (Nat.le_refl _) _).trans (hb.mono (by simp))⟩
  have hf : meanF gs xs = mean gs xs := by unfold meanF; rw [hok]; rfl
  rw [hf]
  rw [hok] at HVC
  obtain ⟨hvg, hvc⟩ := okC_parts gs xs hok
  have hmn : m = n := by have := (validC_parts gs xs hvc).1; have := HN.out; have := HM.out; omega
  have hn10 : n ≤ 10 := by have := (validG_parts gs hvg).1; have := HN.out; omega
  have HOK := Lib.hid hok
  have HMN := Lib.hid hmn
  have hm10 : m ≤ 10 := by omega
  clear hf hok hvg hvc hmn hs
  go_enter Try.func49, Try.ntmps49
  go_wp2_with fail
  refine (HVC.out _ (by simp; omega) (H.out.alloc hB _) (HI.out.alloc hB _)).mono ?_
  rintro e w1 ⟨rfl, hb⟩
  have q : w1.cell? ⟨w.heap.size, 0, none⟩ = some (.slice A n c) := (hb.cell (p := ⟨w.heap.size, 0, none⟩) (by simp)).trans (by go_simp)
  have HI1 := Lib.hid ((HI.out.alloc hB (.cells #[.slice A n c] 25)).below hb (by simp; omega))
  have HG1 := Lib.hid ((H.out.alloc hB (.cells #[.slice A n c] 25)).below hb (by simp; omega))
  have hz : w.heap.size < w1.heap.size := by have := hb.size; simp at this; omega
  have hB1 : Below w.heap.size w w1 := ((Below.refl _ _).alloc (Nat.le_refl _) _).trans (hb.mono (by simp))
  clear hb H HI
  go_wp2_with fail
  refine (impl_copyOf A' m c' xs w1 B (by omega) HM.out HI1.out (by omega)).mono ?_
  rintro e w2 ⟨rfl, hown2, hb2⟩
  have q2 := (hb2.cell (p := ⟨w.heap.size, 0, none⟩) hz).trans q
  have HG2 := Lib.hid (HG1.out.below hb2 (by omega))
  have HO2 := Lib.hid hown2
  have hgl := (hown2.lt _ rfl).2
  have hB2 := hB1.trans (hb2.mono (by omega))
  clear hown2 hb2 q HG1 HI1 hB1
  go_wp2
  go_loopw [17] (fun u wr => ∃ k : Nat, k ≤ n ∧ u = .int .i64 k ∧ Hid (wr.ownsRow w1.heap.size 3 1 (.slice (some ⟨w1.heap.size, 0, none⟩) m m) m ((mixTo gs xs k).map (Value.int .i64))) ∧ Hid (Below w1.heap.size w2 wr) ∧ w2.heap.size ≤ wr.heap.size) (fun u _ => n - (intOf u).toNat)
  case atStart => exact ⟨0, Nat.zero_le _, rfl, by rw [mixTo_zero]; exact HO2.out, Below.refl _ _, Nat.le_refl _⟩
  case round =>
    obtain ⟨k, hk, rfl, HO, HBR, hwr⟩ := hrel
    by_cases hlt : k < n
    · have hkm : k < m := by have := HMN.out; omega
      have hkg : k < gs.length := by have := HN.out; omega
      have hkx : k < xs.length := by have := HM.out; omega
      obtain ⟨b, off, rfl, hbB, c0, A1, n1, c1, c2, hn1', hps⟩ := HG2.out.at_ k hkg
      have e0 := (HBR.out.cell (p := ⟨b, off + k * 2, none⟩) (by simp; omega)).trans c0
      have e1 := (HBR.out.cell (p := ⟨b, off + k * 2 + 1, none⟩) (by simp; omega)).trans c2
      have HPS := Lib.hid (hps.below HBR.out (by omega))
      have HST := Lib.hid (mixTo_step gs xs k hkx)
      have HIR := Lib.hid ((IS.of_own HO.out).take k)
      rw [mixTo_take] at HIR
      have hml := meanTo_len gs xs k
      have hcE : ((gs.getD k default).k == 0) = false → canEv (gs.getD k default).ps (meanTo gs xs k) = true := mean_canEv gs xs HOK.out k hkg
      clear c0 c2 hps
      generalize gs.getD k default = d at *
      generalize meanTo gs xs k = M at *
      cases hd : (d.k == 0)
      · have hd' : (d.k != 0) = true := by simp [bne, hd]
        have hce := hcE hd
        obtain ⟨hv1, hvo, hl10, hea⟩ := canEv_parts d.ps M hce
        obtain ⟨hg, h1, h12⟩ := validF_good d.ps hv1
        have hvf : valF d.ps M = (whole d.ps).ev M := by unfold valF; rw [hce]; rfl
        have HVAL := Lib.hid fun (w' : World) (B : Nat) (hB : B ≤ w'.heap.size) (h : PS w' B A1 d.ps) (h' : IS w' B (some ⟨w1.heap.size, 0, none⟩) M) => impl_ValueOf A1 (some ⟨w1.heap.size, 0, none⟩) n1 c1 k m d.ps M B hn1' hml.symm (by omega) (by omega) w' hB h h'
        rw [hvf, hce] at HVAL
        rw [hd] at HST
        generalize (whole d.ps).ev M = E at *
        have HD := Lib.hid hd
        clear hcE hce hv1 hvo hl10 hea hg h1 h12 hvf hd hn1' hml
        go_wp2
        obtain ⟨W2, hW2⟩ : ∃ W2, W2 = wr.alloc (.cells #[.int .i64 d.k, .slice A1 n1 c1] 58) := ⟨_, rfl⟩
        have q1 : W2.cell? ⟨wr.heap.size, 0, none⟩ = some (.int .i64 d.k) := by rw [hW2]; go_simp
        have q3 : W2.cell? ⟨wr.heap.size, 1, none⟩ = some (.slice A1 n1 c1) := by rw [hW2]; go_simp
        have HP2 : Hid (PS W2 W2.heap.size A1 d.ps) := by rw [hW2]; exact (HPS.out.alloc (by omega) _).more (by simp; omega)
        have HIR2 : Hid (IS W2 W2.heap.size (some ⟨w1.heap.size, 0, none⟩) M) := by rw [hW2]; exact (HIR.out.alloc (Nat.le_refl _) _).more (by simp)
        have HB2' : Hid (Below w1.heap.size w2 W2) := by rw [hW2]; exact HBR.out.alloc (by omega) _
        have HO2' : Hid (W2.ownsRow w1.heap.size 3 1 (.slice (some ⟨w1.heap.size, 0, none⟩) m m) m ((mixTo gs xs k).map (Value.int .i64))) := by rw [hW2]; exact HO.out.alloc _
        have hz2 : w2.heap.size ≤ W2.heap.size := by rw [hW2]; simp; omega
        rw [← hW2]
        clear hW2 HPS HIR e0 e1
        have hkm2 : k ≤ m := by omega
        have hmx : (mixTo gs xs k).length = m := by rw [mixTo_len gs xs k (by omega)]; have := HM.out; omega
        obtain ⟨y, hy⟩ : ∃ y : Int, (mixTo gs xs k)[k]? = some y := ⟨_, List.getElem?_eq_getElem (by omega)⟩
        have HY := Lib.hid hy
        clear hy hmx
        go_region_with (first | (go_at_call 70; refine (HVAL.out W2.drew W2.heap.size (Nat.le_refl _) HP2.out HIR2.out).mono ?_; rintro e w3 ⟨rfl, hb3⟩; have hgg : w1.heap.size < w3.heap.size := Nat.lt_of_lt_of_le (show w1.heap.size < W2.heap.size by omega) hb3.size; have HO3 := Lib.hid (own_below (w := W2.drew) HO2'.out hb3); have u3 : w3.cell? ⟨w1.heap.size, k, none⟩ = some (.int .i64 y) := (HO3.out.cellAt k (by omega)).trans (by simp [HY.out]); have f3 : w3.frozen? ⟨w1.heap.size, k, none⟩ = false := HO3.out.frozenAt k))
        have HO4 := HO3.out.stored k (.int .i64 E)
        rw [← List.map_set] at HO4
        rw [show (mixTo gs xs k).set k E = mixTo gs xs (k + 1) from HST.out.symm] at HO4
        have HO5 := Lib.hid HO4.1
        have HB5 := Lib.hid (((HB2'.out.drew.trans (hb3.mono (show w1.heap.size ≤ W2.heap.size by omega))).setCell (p := ⟨w1.heap.size, k, none⟩) (Nat.le_refl _) (.int .i64 E)))
        have hz3 : w2.heap.size ≤ w3.heap.size := Nat.le_trans hz2 hb3.size
        clear HO4
        go_wp2
        go_roundw
        case rel => exact ⟨k + 1, by omega, by go_num, HO5.out, HB5.out, by simp [World.setCell]; omega⟩
        case measure => simp [intOf]; omega
      · have hd' : (d.k != 0) = false := by simp [bne, hd]
        rw [hd] at HST
        clear hcE hd hn1' hml
        go_wp2
        go_roundw
        case rel => exact ⟨k + 1, by omega, by go_num, by rw [HST.out]; exact HO.out.alloc _, HBR.out.alloc (by omega) _, by simp; omega⟩
        case measure => simp [intOf]; omega
    · obtain rfl : k = n := by omega
      go_wp2
      go_ret
      have hkx : k = xs.length := by have := HMN.out; have := HM.out; omega
      have hkm : k = m := by have := HMN.out; omega
      have hml : (mean gs xs).length = m := by unfold mean; rw [meanTo_len]; have := HN.out; omega
      refine ⟨_, rfl, ?_, hB2.trans (HBR.out.mono (by omega))⟩
      have := HO.out
      rw [mixTo_all gs xs k hkx, HN.out] at this
      unfold OwnI
      rw [hml]
      exact own_mono this (by omega)
end Go.Proofs.Ytfooafnfdeofoaa

namespace Go.Proofs.Ytfooafnfdeofoaa
set_option linter.unusedSimpArgs false
set_option linter.unusedVariables false
open Go.RowKit
theorem mean_len (gs : List Nd) (xs : List Int) : (mean gs xs).length = gs.length := meanTo_len _ _ _
end Go.Proofs.Ytfooafnfdeofoaa

namespace Go.Proofs.Ytfooafnfdeofoaa
set_option linter.unusedSimpArgs false
set_option linter.unusedVariables false
open Go.RowKit
/-- Returns lists of numbers in fresh blocks. -/
def RetSS (w : World) (xss : List (List Int)) (e : Ending) (w' : World) : Prop := ∃ v, e = .returned v ∧ OwSS w.heap.size w'.heap.size v xss.length xss w' ∧ Below w.heap.size w w'
theorem RetSS.nil {w w' : World} (hb : Below w.heap.size w w') : RetSS w [] (.returned (.slice none 0 0)) w' := ⟨_, rfl, OwSS.nil _ _ _, hb⟩
end Go.Proofs.Ytfooafnfdeofoaa

namespace Go.Proofs.Ytfooafnfdeofoaa
set_option linter.unusedSimpArgs false
set_option linter.unusedVariables false
open Go.RowKit
theorem len_le_sum (xss : List (List Int)) (j : Nat) : (xss.getD j []).length ≤ (xss.map List.length).sum := by
  induction xss generalizing j with
  | nil => simp
  | cons x xs ih =>
    cases j with
    | zero => simp [List.getD]
    | succ j => have := ih j; simp [List.getD] at *; omega
theorem SB.of_sum {xss : List (List Int)} (h : xss.length ≤ 1048576) (h' : (xss.map List.length).sum ≤ 1048576) : SB xss :=
  ⟨h, fun j => Nat.le_trans (len_le_sum xss j) h'⟩
/-- The first lists, and nothing for the others. -/
def cpTo (xss : List (List Int)) (n k : Nat) : List (List Int) := xss.take k ++ List.replicate (n - k) []
theorem cpTo_all (xss : List (List Int)) (n : Nat) (h : n = xss.length) : cpTo xss n n = xss := by unfold cpTo; simp [h]
theorem cpTo_at (xss : List (List Int)) (n k : Nat) (h : k < n) (hn : n = xss.length) : (cpTo xss n (k + 1)).getD k [] = xss.getD k [] := by
  unfold cpTo
  have h1 : k < min (k + 1) xss.length := by omega
  have h2 : k < k + 1 := by omega
  simp only [List.getD, List.getElem?_append, List.length_take, if_pos h1, List.getElem?_take, if_pos h2]
theorem cpTo_other (xss : List (List Int)) (n k j : Nat) (h : k < n) (hn : n = xss.length) (hj : j ≠ k) : (cpTo xss n (k + 1)).getD j [] = (cpTo xss n k).getD j [] := by
  unfold cpTo
  rcases Nat.lt_or_ge j k with h2 | h2
  · have h3 : j < min (k + 1) xss.length := by omega
    have h4 : j < min k xss.length := by omega
    have h5 : j < k + 1 := by omega
    simp only [List.getD, List.getElem?_append, List.length_take, if_pos h3, if_pos h4, List.getElem?_take, if_pos h5, if_pos h2]
  · have e1 : ¬ j < min k xss.length := by omega
    have e2 : ¬ j < min (k + 1) xss.length := by omega
    simp only [List.getD, List.getElem?_append, List.length_take, if_neg e1, if_neg e2, List.getElem?_replicate]
    split <;> split <;> rfl
end Go.Proofs.Ytfooafnfdeofoaa

namespace Go.Proofs.Ytfooafnfdeofoaa
set_option linter.unusedSimpArgs false
set_option linter.unusedVariables false
open Go.RowKit
def hsz (e : Hi) : Nat := e.ss.length + (e.ss.map List.length).sum
theorem HiB.of_hsz {e : Hi} (h : hsz e ≤ 1048576) : HiB e := by
  unfold hsz at h
  exact ⟨by omega, SB.of_sum (by omega) (by omega), by omega⟩
/-- The slice at A reads as the states of e; all of it lies below block B. -/
def HiS (w : World) (B : Nat) (A : Option Addr) (e : Hi) : Prop := SS w B A e.ss
theorem HiS.loc (B : Nat) (A : Option Addr) (e : Hi) : Loc 0 B fun w => HiS w B A e := SS.loc B A e.ss
theorem HiS.step {A : Option Addr} {e : Hi} {wk wl : World} (h : HiS wk wk.heap.size A e) (hb : Below wk.heap.size wk wl) : HiS wl wl.heap.size A e := SS.step h hb
/-- A history of the call's own. -/
def OwH (lo hi : Nat) (A : Option Addr) (n c : Nat) (st : Hi) (w : World) : Prop := OwSS lo hi (.slice A n c) n st.ss w
/-- Returns a history in fresh blocks. -/
def RetH (w : World) (st : Hi) (e : Ending) (w' : World) : Prop := ∃ A n c, e = .returned (.agg #[.slice A n c, .int .i64 st.ix]) ∧ OwH w.heap.size w'.heap.size A n c st w' ∧ Below w.heap.size w w'
theorem OwH.hist {lo hi n c : Nat} {A : Option Addr} {st : Hi} {w : World} (h : OwH lo hi A n c st w) : HiS w hi A st := OwSS.lists h
theorem As.hist {lo hi n c : Nat} {A : Option Addr} {st : Hi} {w : World} (h : As lo hi (OwH lo hi A n c st) w) : HiS w w.heap.size A st := (OwH.hist h.it).more h.le
theorem OwH.nil (lo hi : Nat) (w : World) : OwH lo hi none 0 0 ⟨[], 0⟩ w := OwSS.nil _ _ _
theorem RetH.nil {w w' : World} (hb : Below w.heap.size w w') : RetH w ⟨[], 0⟩ (.returned (.agg #[.slice none 0 0, .int .i64 0])) w' := ⟨_, _, _, rfl, OwH.nil _ _ _, hb⟩
end Go.Proofs.Ytfooafnfdeofoaa

namespace Go.Proofs.Ytfooafnfdeofoaa
set_option linter.unusedSimpArgs false
set_option linter.unusedVariables false
open Go.RowKit
theorem allS_bad (l : List (List Int)) (p : List Int → Bool) (k : Nat) (h : k < l.length) (hp : p (l.getD k []) = false) : l.all p = false := by
  rw [List.all_eq_false]
  exact ⟨l.getD k [], by rw [List.getD_eq_getElem?_getD, List.getElem?_eq_getElem h]; exact List.getElem_mem _, by rw [hp]; simp⟩
theorem allS_good (l : List (List Int)) (p : List Int → Bool) (h : ∀ k, k < l.length → p (l.getD k []) = true) : l.all p = true := by
  rw [List.all_eq_true]
  intro x hx
  obtain ⟨k, hk, rfl⟩ := List.getElem_of_mem hx
  have := h k hk
  rwa [List.getD_eq_getElem?_getD, List.getElem?_eq_getElem hk] at this
set_option maxRecDepth 100000 in
set_option maxHeartbeats 1600000 in
theorem spec_validHistory (A A1 : Option Addr) (n c m c1 : Nat) (gs : List Nd) (st : Hi) (w : World) (B : Nat) (hB : B ≤ w.heap.size) (hn : n = gs.length) (hm : m = st.ss.length) (h : GS w B A gs) (h' : HiS w B A1 st) (hG : GB gs) (hH : HiB st) :
    Calls Try.prog 34 #[.agg #[.slice A n c], .agg #[.slice A1 m c1, .int .i64 st.ix]] w fun e w' => e = .returned (.bool (validHi gs st)) ∧ Below w.heap.size w w' := by
  have hm1 : m ≤ 1048576 := by rw [hm]; exact hH.1
  have H := Lib.hid h
  have HI := Lib.hid (show SS w B A1 st.ss from h')
  have HM := Lib.hid hm
  have HV := Lib.hid fun (w' : World) (hB : B ≤ w'.heap.size) (h : GS w' B A gs) => spec_validGraph A n c gs w' B hB hn h hG
  have HD := Lib.hid fun (A' : Option Addr) (m' c' : Nat) (xs : List Int) (w' : World) (hB : B ≤ w'.heap.size) (hm' : m' = xs.length) (hl : m' ≤ 2000000) (h : GS w' B A gs) (h' : IS w' B A' xs) => spec_validCells A A' n c m' c' gs xs w' B hB hn hm' h h' (by have := hG.1; omega) hl
  have HLB := Lib.hid hH.2.1.2
  have hval : validHi gs st = (validG gs && rng st.ss.length 1 10 && rng st.ix 0 (st.ss.length - 1) && st.ss.all (validC gs)) := rfl
  rw [← hm] at hval
  rw [hval]
  obtain ⟨xss, ix⟩ := st
  dsimp only at *
  generalize hvg : validG gs = vg at *
  have HALL := Lib.hid (allS_bad xss (validC gs))
  have HGOOD := Lib.hid (allS_good xss (validC gs))
  generalize validC gs = P at *
  generalize xss.all P = al at *
  clear h h' hn hm hG hH hval hvg
  obtain ⟨W2, hW2⟩ : ∃ W, W = (w.alloc (.cells #[.slice A n c] 25)).alloc (.cells #[.slice A1 m c1, .int .i64 ix] 28) := ⟨_, rfl⟩
  have hb2 : Below w.heap.size w W2 := by rw [hW2]; exact ((Below.refl _ _).alloc (Nat.le_refl _) _).alloc (by simp) _
  have hs2 : W2.heap.size = w.heap.size + 2 := by rw [hW2]; simp
  have q0 : W2.cell? ⟨w.heap.size, 0, none⟩ = some (.slice A n c) := by rw [hW2]; go_simp
  have q1 : W2.cell? ⟨w.heap.size + 1, 0, none⟩ = some (.slice A1 m c1) := by rw [hW2]; go_simp
  have q2 : W2.cell? ⟨w.heap.size + 1, 1, none⟩ = some (.int .i64 ix) := by rw [hW2]; go_simp
  have HB2 := Lib.hid hb2
  have HQ0 := Lib.hid q0
  have HQ1 := Lib.hid q1
  have HQ2 := Lib.hid q2
  have HS2 := Lib.hid hs2
  have hs3 : w.heap.size + 2 ≤ W2.heap.size := by omega
  have HW2 := Lib.hid hW2
  clear hW2 hb2 hs2 q0 q1 q2
  go_enter Try.func34, Try.ntmps34
  go_wp2
  go_loopw [5] (fun i wr => ∃ k : Nat, k ≤ m ∧ i = .int .i64 k ∧ Hid (∀ j, j < k → P (xss.getD j []) = true) ∧ Hid (Below W2.heap.size W2 wr)) (fun i _ => m - (intOf i).toNat)
  case atStart => exact ⟨0, Nat.zero_le _, rfl, fun j hj => by omega, by rw [HW2.out]; exact Below.refl _ _⟩
  case round =>
    obtain ⟨k, hk, rfl, HP, HB⟩ := hrel
    have q0 := (HB.out.cell (p := ⟨w.heap.size, 0, none⟩) (by simp; omega)).trans HQ0.out
    have q1 := (HB.out.cell (p := ⟨w.heap.size + 1, 0, none⟩) (by simp; omega)).trans HQ1.out
    have q2 := (HB.out.cell (p := ⟨w.heap.size + 1, 1, none⟩) (by simp; omega)).trans HQ2.out
    have HG1 := Lib.hid ((H.out.below HB2.out hB).below HB.out (by omega))
    have hB0 : B ≤ wr.heap.size := by have := HB.out.size; omega
    have HBW := Lib.hid (HB2.out.trans (HB.out.mono (by omega)))
    by_cases hlt : k < m
    · obtain ⟨b, off, rfl, hbB, A2, n2, c2, e0, hn2, hps⟩ := HI.out.at_ k (by have := HM.out; omega)
      have e1 := (HBW.out.cell (p := ⟨b, off + k, none⟩) (by simp; omega)).trans e0
      have HPS := Lib.hid (hps.below HBW.out hB)
      have hnb := HLB.out k
      have HC := Lib.hid (HD.out A2 n2 c2 (xss.getD k []) wr.drew hB0 hn2 (by omega) HG1.out HPS.out)
      have HB3 := Lib.hid (HALL.out k (by have := HM.out; omega))
      obtain ⟨r, hr⟩ : ∃ r, r = P (xss.getD k []) := ⟨_, rfl⟩
      have HR := Lib.hid hr
      rw [← hr] at HC HB3
      clear e0 hn2 hps hnb hr HPS
      cases r
      · have hal : al = false := HB3.out rfl
        subst hal
        go_wp2
        go_still_tail 6, (by kernel_rfl)
        go_wp2_with fail
        refine HC.out.mono ?_
        rintro e w3 ⟨rfl, hb3'⟩
        have hb3 := below_of_drew hb3'
        go_wp2
        go_ret
        exact ⟨ret_b (by simp), HBW.out.trans (hb3.mono HBW.out.size)⟩
      · go_wp2
        go_still_tail 6, (by kernel_rfl)
        go_wp2_with fail
        refine HC.out.mono ?_
        rintro e w3 ⟨rfl, hb3'⟩
        have hb3 := below_of_drew hb3'
        have HB4 := Lib.hid (HB.out.trans (hb3.mono HB.out.size))
        clear q0 q1 q2 hb3 hb3'
        go_wp2
        go_roundw
        case rel =>
          refine ⟨k + 1, by omega, by go_num, fun j hj => ?_, HB4.out⟩
          rcases Nat.lt_or_ge j k with h1 | h1
          · exact HP.out j h1
          · obtain rfl : j = k := by omega
            exact HR.out.symm
        case measure => simp [intOf]; omega
    · obtain rfl : k = m := by omega
      have hal : al = true := HGOOD.out (by rw [← HM.out]; exact HP.out)
      subst hal
      have HC := Lib.hid (HV.out wr hB0 HG1.out)
      have HIR := Lib.hid fun (w' : World) => spec_inRange k 1 10 w'
      have HIQ := Lib.hid fun (w' : World) => spec_inRange ix 0 ((k : Int) - 1) w'
      obtain ⟨r1, hr1⟩ : ∃ r, r = rng k 1 10 := ⟨_, rfl⟩
      obtain ⟨r2, hr2⟩ : ∃ r, r = rng ix 0 ((k : Int) - 1) := ⟨_, rfl⟩
      rw [← hr1] at HIR
      rw [← hr2] at HIQ
      have HR1 := Lib.hid hr1
      have HR2 := Lib.hid hr2
      clear hr1 hr2
      cases vg
      · go_wp2_with fail
        refine HC.out.mono ?_
        rintro e w3 ⟨rfl, hb3⟩
        go_wp2
        go_ret
        exact ⟨ret_b (by simp), HBW.out.trans (hb3.mono HBW.out.size)⟩
      · cases r1
        · go_wp2_with fail
          refine HC.out.mono ?_
          rintro e w3 ⟨rfl, hb3⟩
          have p1 := (hb3.cell (p := ⟨w.heap.size + 1, 0, none⟩) (by have := HB.out.size; simp; omega)).trans q1
          have HB4 := Lib.hid (HBW.out.trans (hb3.mono HBW.out.size))
          clear q0 q1 q2 hb3
          go_wp2_with fail
          refine (HIR.out _).mono ?_
          rintro e w4 ⟨rfl, rfl⟩
          go_wp2
          go_ret
          exact ⟨ret_b (by rw [← HR1.out, ← HR2.out]; simp), HB4.out⟩
        · go_wp2_with fail
          refine HC.out.mono ?_
          rintro e w3 ⟨rfl, hb3⟩
          have p1 := (hb3.cell (p := ⟨w.heap.size + 1, 0, none⟩) (by have := HB.out.size; simp; omega)).trans q1
          have p2 := (hb3.cell (p := ⟨w.heap.size + 1, 1, none⟩) (by have := HB.out.size; simp; omega)).trans q2
          have HB4 := Lib.hid (HBW.out.trans (hb3.mono HBW.out.size))
          clear q0 q1 q2 hb3
          go_wp2_with fail
          refine (HIR.out _).mono ?_
          rintro e w4 ⟨rfl, rfl⟩
          go_wp2_with fail
          refine (HIQ.out _).mono ?_
          rintro e w5 ⟨rfl, rfl⟩
          go_wp2
          go_ret
          exact ⟨ret_b (by rw [← HR1.out, ← HR2.out]; simp), HB4.out⟩
set_option maxRecDepth 100000 in
set_option maxHeartbeats 1600000 in
theorem impl_ValidHistory (A A1 : Option Addr) (n c m c1 : Nat) (gs : List Nd) (st : Hi) (w : World) (B : Nat) (hB : B ≤ w.heap.size) (hn : n = gs.length) (hnc : n ≤ c) (hm : m = st.ss.length) (h : GS w B A gs) (h' : HiS w B A1 st) (hG : GB gs) (hH : HiB st) :
    Calls Try.prog 9 #[.agg #[.slice A n c], .agg #[.slice A1 m c1, .int .i64 st.ix]] w fun e w' => e = .returned (.bool (validHi gs st)) ∧ Below w.heap.size w w' := by
  have hm1 : m ≤ 1048576 := by rw [hm]; exact hH.1
  have H := Lib.hid h
  have HI := Lib.hid (show SS w B A1 st.ss from h')
  have HM := Lib.hid hm
  have HD := Lib.hid fun (A' : Option Addr) (m' c' : Nat) (xs : List Int) (w' : World) (hB : B ≤ w'.heap.size) (hm' : m' = xs.length) (hl : m' ≤ 2000000) (h : GS w' B A gs) (h' : IS w' B A' xs) => impl_ValidCells A A' n c m' c' gs xs w' B hB hn hnc hm' h h' hG hl
  have HLB := Lib.hid hH.2.1.2
  have hval : validHi gs st = (validG gs && rng st.ss.length 1 10 && rng st.ix 0 (st.ss.length - 1) && st.ss.all (validC gs)) := rfl
  rw [← hm] at hval
  rw [hval]
  obtain ⟨xss, ix⟩ := st
  dsimp only at *
  have HOK := Lib.hid fun (xs : List Int) => show okC gs xs = (validG gs && validC gs xs) from rfl
  have HALL := Lib.hid (allS_bad xss (validC gs))
  have HGOOD := Lib.hid (allS_good xss (validC gs))
  have HIR := Lib.hid fun (w' : World) => impl_inRange ix ((m : Int) - 1) w'
  obtain ⟨r2, hr2⟩ : ∃ r, r = rng ix 0 ((m : Int) - 1) := ⟨_, rfl⟩
  rw [← hr2] at HIR
  rw [← hr2]
  have HR2 := Lib.hid hr2
  generalize okC gs = Q at *
  generalize validC gs = P at *
  generalize xss.all P = al at *
  generalize validG gs = vg at *
  clear h h' hn hm hG hH hval hr2
  obtain ⟨W2, hW2⟩ : ∃ W, W = (w.alloc (.cells #[.slice A n c] 25)).alloc (.cells #[.slice A1 m c1, .int .i64 ix] 28) := ⟨_, rfl⟩
  have hb2 : Below w.heap.size w W2 := by rw [hW2]; exact ((Below.refl _ _).alloc (Nat.le_refl _) _).alloc (by simp) _
  have hs2 : W2.heap.size = w.heap.size + 2 := by rw [hW2]; simp
  have q0 : W2.cell? ⟨w.heap.size, 0, none⟩ = some (.slice A n c) := by rw [hW2]; go_simp
  have HB2 := Lib.hid hb2
  have HQ0 := Lib.hid q0
  have HS2 := Lib.hid hs2
  have hs3 : w.heap.size + 2 ≤ W2.heap.size := by omega
  have HW2 := Lib.hid hW2
  clear hW2 hb2 hs2 q0
  by_cases h10 : 10 < m
  · have hf : rng m 1 10 = false := by simp [rng]; omega
    rw [hf]
    have hgt : (10 : Int) < (m : Int) := by omega
    clear hf
    go_enter Try.func9, Try.ntmps9
    go_wp2
    go_ret
    exact ⟨ret_b (by simp), by have := HB2.out; rw [HW2.out] at this; exact this⟩
  have hgt : ¬ (10 : Int) < (m : Int) := by omega
  cases r2
  · go_enter Try.func9, Try.ntmps9
    go_wp2_with fail
    refine (HIR.out _).mono ?_
    rintro e w4 ⟨rfl, rfl⟩
    go_wp2
    go_ret
    exact ⟨ret_b (by simp), by have := HB2.out; rw [HW2.out] at this; exact this⟩
  have hm0 : 1 ≤ m := by
    have := HR2.out.symm
    simp [rng] at this; omega
  have hrg : rng m 1 10 = true := by simp [rng]; omega
  rw [hrg]
  clear hrg
  go_enter Try.func9, Try.ntmps9
  go_wp2_with fail
  refine (HIR.out _).mono ?_
  rintro e w4 ⟨rfl, rfl⟩
  go_wp2
  go_loopw [24] (fun i wr => ∃ k : Nat, k ≤ m ∧ i = .int .i64 k ∧ Hid (∀ j, j < k → Q (xss.getD j []) = true) ∧ Hid (Below W2.heap.size W2 wr)) (fun i _ => m - (intOf i).toNat)
  case atStart => exact ⟨0, Nat.zero_le _, rfl, fun j hj => by omega, by rw [HW2.out]; exact Below.refl _ _⟩
  case round =>
    obtain ⟨k, hk, rfl, HP, HB⟩ := hrel
    have q0 := (HB.out.cell (p := ⟨w.heap.size, 0, none⟩) (by simp; omega)).trans HQ0.out
    have HG1 := Lib.hid ((H.out.below HB2.out hB).below HB.out (by omega))
    have hB0 : B ≤ wr.heap.size := by have := HB.out.size; omega
    have HBW := Lib.hid (HB2.out.trans (HB.out.mono (by omega)))
    by_cases hlt : k < m
    · obtain ⟨b, off, rfl, hbB, A2, n2, c2, e0, hn2, hps⟩ := HI.out.at_ k (by have := HM.out; omega)
      have e1 := (HBW.out.cell (p := ⟨b, off + k, none⟩) (by simp; omega)).trans e0
      have HPS := Lib.hid (hps.below HBW.out hB)
      have hnb := HLB.out k
      have HC := Lib.hid (HD.out A2 n2 c2 (xss.getD k []) wr hB0 hn2 (by omega) HG1.out HPS.out)
      have HB3 := Lib.hid (HALL.out k (by have := HM.out; omega))
      have HOK3 := Lib.hid (HOK.out (xss.getD k []))
      obtain ⟨r, hr⟩ : ∃ r, r = Q (xss.getD k []) := ⟨_, rfl⟩
      have HR := Lib.hid hr
      rw [← hr] at HC HOK3
      clear e0 hn2 hps hnb hr HPS
      cases r
      · have hal : (vg && al) = false := by
          have h3 := HOK3.out
          cases vg
          · rfl
          · simpa using HB3.out (by simpa using h3.symm)
        go_wp2_with fail
        refine HC.out.mono ?_
        rintro e w3 ⟨rfl, hb3⟩
        go_wp2
        go_ret
        exact ⟨ret_b (by cases vg <;> simp_all), HBW.out.trans (hb3.mono HBW.out.size)⟩
      · go_wp2_with fail
        refine HC.out.mono ?_
        rintro e w3 ⟨rfl, hb3⟩
        have HB4 := Lib.hid (HB.out.trans (hb3.mono HB.out.size))
        clear q0 hb3
        go_wp2
        go_roundw
        case rel =>
          refine ⟨k + 1, by omega, by go_num, fun j hj => ?_, HB4.out⟩
          rcases Nat.lt_or_ge j k with h1 | h1
          · exact HP.out j h1
          · obtain rfl : j = k := by omega
            exact HR.out.symm
        case measure => simp [intOf]; omega
    · obtain rfl : k = m := by omega
      have hvg : vg = true := by
        have h1 := HP.out 0 (by omega)
        rw [HOK.out] at h1
        cases vg <;> simp_all
      have hal : al = true := HGOOD.out (by
        rw [← HM.out]
        intro j hj
        have h1 := HP.out j hj
        rw [HOK.out, hvg] at h1
        simpa using h1)
      subst hvg
      subst hal
      go_wp2
      go_ret
      exact ⟨ret_b (by simp), HBW.out⟩
theorem top_spec_ValidHistory (gs : List Nd) (st : Hi) (hG : GB gs) (hH : HiB st) : ∀ (A : Option Addr) (n c : Nat) (A1 : Option Addr) (m c1 : Nat) (w : World), n = gs.length → n ≤ c → GS w w.heap.size A gs → m = st.ss.length → HiS w w.heap.size A1 st →
    Calls Try.prog 10 #[.agg #[.slice A n c], .agg #[.slice A1 m c1, .int .i64 st.ix]] w fun e w' => e = .returned (.bool (validHi gs st)) ∧ Below w.heap.size w w' := by
  intro A n c A1 m c1 w hn _ h hm h'
  have HC := Lib.hid fun (w' : World) (hB : w.heap.size ≤ w'.heap.size) (h : GS w' w.heap.size A gs) (h' : HiS w' w.heap.size A1 st) => spec_validHistory A A1 n c m c1 gs st w' w.heap.size hB hn hm h h' hG hH
  have H := Lib.hid h
  have HI := Lib.hid (show SS w w.heap.size A1 st.ss from h')
  obtain ⟨xss, ix⟩ := st
  generalize validHi gs ⟨xss, ix⟩ = r at *
  dsimp only at *
  clear hn hm h h' hG hH
  go_enter Try.func10, Try.ntmps10
  go_wp2_with fail
  refine (HC.out _ (by simp; omega) ((H.out.alloc (Nat.le_refl _) _).alloc (by simp) _) ((HI.out.alloc (Nat.le_refl _) _).alloc (by simp) _)).mono ?_
  rintro e w1 ⟨rfl, hb⟩
  go_wp2
  go_ret
  exact ⟨rfl, (((Below.refl _ _).alloc (Nat.le_refl _) _).alloc (by simp) _).trans (hb.mono (by simp; omega))⟩
theorem top_impl_ValidHistory (gs : List Nd) (st : Hi) (hG : GB gs) (hH : HiB st) : ∀ (A : Option Addr) (n c : Nat) (A1 : Option Addr) (m c1 : Nat) (w : World), n = gs.length → n ≤ c → GS w w.heap.size A gs → m = st.ss.length → HiS w w.heap.size A1 st →
    Calls Try.prog 9 #[.agg #[.slice A n c], .agg #[.slice A1 m c1, .int .i64 st.ix]] w fun e w' => e = .returned (.bool (validHi gs st)) ∧ Below w.heap.size w w' :=
  fun A n c A1 m c1 w hn hnc h hm h' => impl_ValidHistory A A1 n c m c1 gs st w w.heap.size (Nat.le_refl _) hn hnc hm h h' hG hH
end Go.Proofs.Ytfooafnfdeofoaa

namespace Go.Proofs.Ytfooafnfdeofoaa
set_option linter.unusedSimpArgs false
set_option linter.unusedVariables false
open Go.RowKit
/-- The first numbers for which something holds. -/
def nwTo (P : Nat → Bool) (n : Nat) : List Int := ((List.range n).filter P).map fun i : Nat => (i : Int)
theorem nwTo_step (P : Nat → Bool) (k : Nat) : nwTo P (k + 1) = nwTo P k ++ (if P k then [(k : Int)] else []) := by
  unfold nwTo
  rw [List.range_succ, List.filter_append, List.map_append]
  congr 1
  cases h : P k <;> simp [h]
theorem nwTo_len (P : Nat → Bool) (k : Nat) : (nwTo P k).length ≤ k := by
  unfold nwTo
  rw [List.length_map]
  have := List.length_filter_le P (List.range k)
  simpa using this
theorem nwTo_diff (a b : List Int) (k : Nat) : nwTo (fun i => !(a.getD i 0 == b.getD i 0)) k = diffTo a b k := rfl
set_option maxRecDepth 100000 in
set_option maxHeartbeats 1600000 in
theorem impl_nodesWhere2 (K : FuncId) (cap cap2 : Value) (P : Nat → Bool) (I : World → Prop) (A : Option Addr) (n c : Nat) (hs : n ≤ 2000000)
    (hI : ∀ w w' : World, I w → Below w.heap.size w w' → I w') (hcf : ∀ (q : Nat) (w : World), (callFunc K #[.int .i64 q, cap, cap2]).run Try.prog w = .ok (.enter K #[.int .i64 q, cap, cap2]) w)
    (hP : ∀ (q : Nat) (w : World), q < n → I w → Calls Try.prog K #[.int .i64 q, cap, cap2] w fun e w' => e = .returned (.bool (P q)) ∧ Below w.heap.size w w') (w : World) (h : I w) :
    Calls Try.prog 50 #[.agg #[.slice A n c], .func (.func K) #[] #[cap, cap2]] w fun e w' => RetI w (nwTo P n) e w' := by
  obtain ⟨i0, hi, hz0, hz1, hz2⟩ := info_parts info_int
  have HI := Lib.hid hI
  have HP := Lib.hid hP
  have H := Lib.hid h
  have HCF := Lib.hid hcf
  clear hI hP h hcf
  go_enter Try.func50, Try.ntmps50
  go_wp2
  go_loopw [5, 10] (fun v i wr => ∃ k : Nat, k ≤ n ∧ i = .int .i64 k ∧ Hid (OwnI wr (w.heap.size + 1) v (nwTo P k)) ∧ Below (w.heap.size + 1) (w.alloc (.cells #[.slice A n c] 25)) wr) (fun _ i _ => n - (intOf i).toNat)
  case atStart => exact ⟨0, Nat.zero_le _, rfl, World.ownsRow_nil _ _ _ _, Below.refl _ _⟩
  case round =>
    obtain ⟨k, hk, rfl, HO, hbr⟩ := hrel
    have hwr : w.heap.size + 1 ≤ wr.heap.size := by have := hbr.size; simpa using this
    by_cases hlt : k < n
    · have HST := Lib.hid (nwTo_step P k)
      have hdl := nwTo_len P k
      have HIR := Lib.hid (HI.out _ _ H.out (((Below.refl _ _).alloc (Nat.le_refl _) _).trans (hbr.mono (by omega))))
      have HPK := Lib.hid fun (w' : World) (h : I w') => HP.out k w' hlt h
      have hcf := HCF.out k
      generalize nwTo P k = D at *
      generalize P k = p at *
      cases p
      · go_wp2_with fail
        refine (HPK.out _ HIR.out).mono ?_
        rintro e w2 ⟨rfl, hb2⟩
        go_wp2
        go_roundw
        case rel => exact ⟨k + 1, by omega, by go_num, by rw [HST.out]; simpa [OwnI, Hid] using own_below HO.out hb2, hbr.trans (hb2.mono hwr)⟩
        case measure => simp [intOf]; omega
      · go_wp2_with fail
        refine (HPK.out _ HIR.out).mono ?_
        rintro e w2 ⟨rfl, hb2⟩
        have HO2 := Lib.hid (own_below HO.out hb2)
        have hbr2 := hbr.trans (hb2.mono hwr)
        have hw2 : w.heap.size + 1 ≤ w2.heap.size := by have := hb2.size; omega
        clear hcf
        go_wp2_with (at_builtin; refine wpList_append_own _ rfl _ _ 33 rfl (w.heap.size + 1) 3 i0 (.int .i64 0) 1 8 Try.underlying33 hi hz0 hz1 hz2 rfl (by decide) _ _ _ rfl (HO2.out.alloc _) ⟨_, 0, none⟩ 1 1 [.int .i64 k] rfl rfl (cell_one_new _ _ _) ?c2 ?c3 ?c4 ?c5 ?_)
        case c2 => first | rfl | (intro u hu; simp at hu; subst hu; rfl)
        case c3 => unfold maxLen; omega
        case c4 => omega
        case c5 => first | omega | (simp; omega)
        intro v' w3 hown' hgrow _
        have hpos := (HO2.out.alloc (.cells #[.int .i64 k] 3)).lt
        have HO' : Hid (OwnI w3 (w.heap.size + 1) v' (nwTo P (k + 1))) := by
          rw [HST.out]
          simpa [OwnI, Hid] using hown'
        have HB' := Lib.hid ((hbr2.alloc hw2 (.cells #[.int .i64 k] 3)).grown hgrow (by first | (simp; omega) | omega) (fun q hq => (hpos q hq).1))
        clear hown' hgrow hpos
        go_wp2
        go_roundw
        case rel => exact ⟨k + 1, by omega, by go_num, HO'.out, HB'.out⟩
        case measure => simp [intOf]; omega
    · obtain rfl : k = n := by omega
      go_wp2
      go_ret
      exact ⟨_, rfl, own_mono HO.out (by omega), ((Below.refl _ _).alloc (Nat.le_refl _) _).trans (hbr.mono (by omega))⟩
set_option maxHeartbeats 800000 in
theorem differ_at (g1 g2 : Nat) (A A' : Option Addr) (n c c' q : Nat) (a b : List Int) (w : World) (hn : n = a.length) (hm : n = b.length) (hq : q < n) (h1 : w.cell? ⟨g1, 0, none⟩ = some (.slice A n c)) (h2 : w.cell? ⟨g2, 0, none⟩ = some (.slice A' n c')) (h : IS w w.heap.size A a) (h' : IS w w.heap.size A' b) :
    Calls Try.prog 51 #[.int .i64 q, .pointer (some ⟨g1, 0, none⟩), .pointer (some ⟨g2, 0, none⟩)] w fun e w' => e = .returned (.bool (!(a.getD q 0 == b.getD q 0))) ∧ Below w.heap.size w w' := by
  obtain ⟨b1, off1, rfl, hb1, hc1⟩ := h (by omega)
  obtain ⟨b2, off2, rfl, hb2, hc2⟩ := h' (by omega)
  have e1 := hc1 q (by omega)
  have e2 := hc2 q (by omega)
  generalize a.getD q 0 = x at *
  generalize b.getD q 0 = y at *
  clear hc1 hc2 hn hm h h'
  go_enter Try.func51, Try.ntmps51
  go_wp2
  go_region
  go_wp2
  go_ret
  exact ⟨ret_b (by simp [bne]), (Below.refl _ _).drew⟩
set_option maxRecDepth 100000 in
set_option maxHeartbeats 3200000 in
theorem top_impl_ChangedBy (gs : List Nd) (xs ys : List Int) (hG : GB gs) (hL : xs.length ≤ 1048576) (hL2 : ys.length ≤ 1048576) : ∀ (A : Option Addr) (n c : Nat) (A1 : Option Addr) (m1 c1 : Nat) (A2 : Option Addr) (m2 c2 : Nat) (w : World), n = gs.length → n ≤ c → GS w w.heap.size A gs → m1 = xs.length → IS w w.heap.size A1 xs → m2 = ys.length → IS w w.heap.size A2 ys →
    Calls Try.prog 23 #[.agg #[.slice A n c], .slice A1 m1 c1, .slice A2 m2 c2] w fun e w' => RetI w (chgF gs xs ys) e w' := by
  intro A n c A1 m1 c1 A2 m2 c2 w hn hnc h hx h1 hy h2
  have hm1 : m1 ≤ 2000000 := by omega
  have hm2 : m2 ≤ 2000000 := by omega
  have hn1 : n ≤ 1048576 := by rw [hn]; exact hG.1
  have H := Lib.hid h
  have HX := Lib.hid h1
  have HY := Lib.hid h2
  have HN := Lib.hid hn
  have HDX := Lib.hid fun (w' : World) (hB : w.heap.size ≤ w'.heap.size) (h : GS w' w.heap.size A gs) (h' : IS w' w.heap.size A1 xs) => impl_ValidCells A A1 n c m1 c1 gs xs w' w.heap.size hB hn hnc hx h h' hG hm1
  have HDY := Lib.hid fun (w' : World) (hB : w.heap.size ≤ w'.heap.size) (h : GS w' w.heap.size A gs) (h' : IS w' w.heap.size A2 ys) => impl_ValidCells A A2 n c m2 c2 gs ys w' w.heap.size hB hn hnc hy h h' hG hm2
  have HMX := Lib.hid fun (w' : World) (hB : w.heap.size ≤ w'.heap.size) (h : GS w' w.heap.size A gs) (h' : IS w' w.heap.size A1 xs) => impl_MeaningOf A A1 n c m1 c1 gs xs w' w.heap.size hB hn hnc hx h h' hG hm1
  have HMY := Lib.hid fun (w' : World) (hB : w.heap.size ≤ w'.heap.size) (h : GS w' w.heap.size A gs) (h' : IS w' w.heap.size A2 ys) => impl_MeaningOf A A2 n c m2 c2 gs ys w' w.heap.size hB hn hnc hy h h' hG hm2
  have hml1 := mean_len gs xs
  have hml2 := mean_len gs ys
  have hb12 : chgB gs xs ys = (okC gs xs && okC gs ys) := by unfold chgB okC; cases validG gs <;> cases validC gs xs <;> simp
  have hf : chgF gs xs ys = if okC gs xs && okC gs ys then diffTo (mean gs xs) (mean gs ys) n else [] := by unfold chgF; rw [hb12, hn]
  rw [hf]
  rw [← hn] at hml1 hml2
  have HL1 := Lib.hid hml1
  have HL2 := Lib.hid hml2
  have hmx : meanF gs xs = if okC gs xs then mean gs xs else [] := rfl
  have hmy : meanF gs ys = if okC gs ys then mean gs ys else [] := rfl
  rw [hmx] at HMX
  rw [hmy] at HMY
  clear hf h h1 h2 hn hx hy hG hml1 hml2 hb12 hmx hmy
  generalize okC gs xs = b1 at *
  generalize okC gs ys = b2 at *
  generalize mean gs xs = MX at *
  generalize mean gs ys = MY at *
  cases b1
  · go_enter Try.func23, Try.ntmps23
    go_wp2_with fail
    refine (HDX.out _ (by simp) (H.out.alloc (Nat.le_refl _) _) (HX.out.alloc (Nat.le_refl _) _)).mono ?_
    rintro e w1 ⟨rfl, hb⟩
    have q1 : w1.cell? ⟨w.heap.size, 0, none⟩ = some (.slice A n c) := (hb.cell (p := ⟨w.heap.size, 0, none⟩) (by simp)).trans (by go_simp)
    have HG1 := Lib.hid ((H.out.alloc (Nat.le_refl _) (.cells #[.slice A n c] 25)).below hb (by simp))
    have HX1 := Lib.hid ((HX.out.alloc (Nat.le_refl _) (.cells #[.slice A n c] 25)).below hb (by simp))
    have HY1 := Lib.hid ((HY.out.alloc (Nat.le_refl _) (.cells #[.slice A n c] 25)).below hb (by simp))
    have hB1 : Below w.heap.size w w1 := ((Below.refl _ _).alloc (Nat.le_refl _) _).trans (hb.mono (by simp))
    have hl1 : w.heap.size < w1.heap.size := by have := hb.size; simp at this; omega
    clear hb
    go_wp2
    go_ret
    exact RetI.nil (hB1)
  · cases b2
    · go_enter Try.func23, Try.ntmps23
      go_wp2_with fail
      refine (HDX.out _ (by simp) (H.out.alloc (Nat.le_refl _) _) (HX.out.alloc (Nat.le_refl _) _)).mono ?_
      rintro e w1 ⟨rfl, hb⟩
      have q1 : w1.cell? ⟨w.heap.size, 0, none⟩ = some (.slice A n c) := (hb.cell (p := ⟨w.heap.size, 0, none⟩) (by simp)).trans (by go_simp)
      have HG1 := Lib.hid ((H.out.alloc (Nat.le_refl _) (.cells #[.slice A n c] 25)).below hb (by simp))
      have HX1 := Lib.hid ((HX.out.alloc (Nat.le_refl _) (.cells #[.slice A n c] 25)).below hb (by simp))
      have HY1 := Lib.hid ((HY.out.alloc (Nat.le_refl _) (.cells #[.slice A n c] 25)).below hb (by simp))
      have hB1 : Below w.heap.size w w1 := ((Below.refl _ _).alloc (Nat.le_refl _) _).trans (hb.mono (by simp))
      have hl1 : w.heap.size < w1.heap.size := by have := hb.size; simp at this; omega
      clear hb
      go_wp2_with fail
      refine (HDY.out _ hB1.size HG1.out HY1.out).mono ?_
      rintro e w2 ⟨rfl, hb⟩
      have q2 := (hb.cell (p := ⟨w.heap.size, 0, none⟩) hl1).trans q1
      have HG2 := Lib.hid (HG1.out.below hb hB1.size)
      have HX2 := Lib.hid (HX1.out.below hb hB1.size)
      have HY2 := Lib.hid (HY1.out.below hb hB1.size)
      have hB2 := hB1.trans (hb.mono hB1.size)
      have hl2 : w.heap.size < w2.heap.size := Nat.lt_of_lt_of_le hl1 hb.size
      clear hb q1 HG1 HX1 HY1
      go_wp2
      go_ret
      exact RetI.nil (hB2)
    · go_enter Try.func23, Try.ntmps23
      go_wp2_with fail
      refine (HDX.out _ (by simp) (H.out.alloc (Nat.le_refl _) _) (HX.out.alloc (Nat.le_refl _) _)).mono ?_
      rintro e w1 ⟨rfl, hb⟩
      have q1 : w1.cell? ⟨w.heap.size, 0, none⟩ = some (.slice A n c) := (hb.cell (p := ⟨w.heap.size, 0, none⟩) (by simp)).trans (by go_simp)
      have HG1 := Lib.hid ((H.out.alloc (Nat.le_refl _) (.cells #[.slice A n c] 25)).below hb (by simp))
      have HX1 := Lib.hid ((HX.out.alloc (Nat.le_refl _) (.cells #[.slice A n c] 25)).below hb (by simp))
      have HY1 := Lib.hid ((HY.out.alloc (Nat.le_refl _) (.cells #[.slice A n c] 25)).below hb (by simp))
      have hB1 : Below w.heap.size w w1 := ((Below.refl _ _).alloc (Nat.le_refl _) _).trans (hb.mono (by simp))
      have hl1 : w.heap.size < w1.heap.size := by have := hb.size; simp at this; omega
      clear hb
      go_wp2_with fail
      refine (HDY.out _ hB1.size HG1.out HY1.out).mono ?_
      rintro e w2 ⟨rfl, hb⟩
      have q2 := (hb.cell (p := ⟨w.heap.size, 0, none⟩) hl1).trans q1
      have HG2 := Lib.hid (HG1.out.below hb hB1.size)
      have HX2 := Lib.hid (HX1.out.below hb hB1.size)
      have HY2 := Lib.hid (HY1.out.below hb hB1.size)
      have hB2 := hB1.trans (hb.mono hB1.size)
      have hl2 : w.heap.size < w2.heap.size := Nat.lt_of_lt_of_le hl1 hb.size
      clear hb q1 HG1 HX1 HY1
      go_wp2_with fail
      refine (HMX.out _ hB2.size HG2.out HX2.out).mono ?_
      rintro e w3 ⟨v3, rfl, ho, hb⟩
      obtain ⟨A3, c3, rfl, hI3⟩ := OwnI.at_ ho HL1.out
      have q3 := (hb.cell (p := ⟨w.heap.size, 0, none⟩) hl2).trans q2
      have HI3 := Lib.hid ((hI3.alloc (Nat.le_refl _) (.cells #[.slice A3 n c3] 33)))
      have HG3 := Lib.hid ((HG2.out.below hb hB2.size).alloc (Nat.le_trans hB2.size hb.size) (.cells #[.slice A3 n c3] 33))
      have HY3 := Lib.hid ((HY2.out.below hb hB2.size).alloc (Nat.le_trans hB2.size hb.size) (.cells #[.slice A3 n c3] 33))
      have hB3 := (hB2.trans (hb.mono hB2.size))
      have hl3 : w.heap.size < w3.heap.size := Nat.lt_of_lt_of_le hl2 hb.size
      clear hb q2 HG2 HX2 HY2 ho hI3
      go_wp2_with fail
      refine (HMY.out _ (by simp; omega) HG3.out HY3.out).mono ?_
      rintro e w4 ⟨v4, rfl, ho, hb⟩
      obtain ⟨A4, c4, rfl, hI4⟩ := OwnI.at_ ho HL2.out
      have hl4 : w3.heap.size + 1 ≤ w4.heap.size := by have := hb.size; simpa using this
      have q4 := (hb.cell (p := ⟨w.heap.size, 0, none⟩) (by simp; omega)).trans ((World.cell?_alloc_lt _ _ ⟨w.heap.size, 0, none⟩ hl3).trans q3)
      have p4 : w4.cell? ⟨w3.heap.size, 0, none⟩ = some (.slice A3 n c3) := (hb.cell (p := ⟨w3.heap.size, 0, none⟩) (by simp)).trans (by go_simp)
      have HI4 := Lib.hid (((HI3.out.below hb (by simp)).more (B' := w4.heap.size) (by omega)).alloc (Nat.le_refl _) (.cells #[.slice A4 n c4] 33))
      have HJ4 := Lib.hid (hI4.alloc (Nat.le_refl _) (.cells #[.slice A4 n c4] 33))
      have hB4 := ((hB3.alloc hB3.size (.cells #[.slice A3 n c3] 33)).trans (hb.mono (by simp; omega)))
      have hB5 := Lib.hid (hB4.alloc hB4.size (.cells #[.slice A4 n c4] 33))
      clear hb ho hI4 q3 HG3 HY3 HI3
      have HNW := Lib.hid (impl_nodesWhere2 51 (.pointer (some ⟨w3.heap.size, 0, none⟩)) (.pointer (some ⟨w4.heap.size, 0, none⟩)) (fun i => !(MX.getD i 0 == MY.getD i 0))
        (fun w' => w4.heap.size < w'.heap.size ∧ w'.cell? ⟨w3.heap.size, 0, none⟩ = some (.slice A3 n c3) ∧ w'.cell? ⟨w4.heap.size, 0, none⟩ = some (.slice A4 n c4) ∧ IS w' w'.heap.size A3 MX ∧ IS w' w'.heap.size A4 MY) A n c (by omega)
        (fun wa wb h hb => ⟨Nat.lt_of_lt_of_le h.1 hb.size, (hb.cell (p := ⟨w3.heap.size, 0, none⟩) (by have := h.1; show w3.heap.size < wa.heap.size; omega)).trans h.2.1, (hb.cell (p := ⟨w4.heap.size, 0, none⟩) h.1).trans h.2.2.1, h.2.2.2.1.step hb, h.2.2.2.2.step hb⟩)
        (fun q w => by kernel_rfl)
        (fun q wa hq h => differ_at w3.heap.size w4.heap.size A3 A4 n c3 c4 q MX MY wa HL1.out.symm HL2.out.symm hq h.2.1 h.2.2.1 h.2.2.2.1 h.2.2.2.2)
        (w4.alloc (.cells #[.slice A4 n c4] 33)) ⟨by simp, (World.cell?_alloc_lt _ _ ⟨w3.heap.size, 0, none⟩ (by show w3.heap.size < w4.heap.size; omega)).trans p4, by go_simp, HI4.out.more (by simp), HJ4.out.more (by simp)⟩)
      rw [nwTo_diff] at HNW
      have hlt4 : w.heap.size < w4.heap.size := by omega
      go_wp2_with fail
      refine HNW.out.mono ?_
      rintro e w6 ⟨v, rfl, ho, hb⟩
      go_wp2
      go_ret
      exact ⟨v, by simp, own_mono ho hB5.out.size, hB5.out.trans (hb.mono hB5.out.size)⟩
end Go.Proofs.Ytfooafnfdeofoaa

namespace Go.Proofs.Ytfooafnfdeofoaa
set_option linter.unusedSimpArgs false
set_option linter.unusedVariables false
open Go.RowKit
/-- Returns a fresh slice of numbers and a bool, or nothing. -/
theorem RetIB.nil {w w' : World} (hb : Below w.heap.size w w') : RetIB w [] false (.returned (.tuple #[.slice none 0 0, .bool false])) w' := ⟨_, rfl, World.ownsRow_nil _ _ _ _, hb⟩
end Go.Proofs.Ytfooafnfdeofoaa

namespace Go.Proofs.Ytfooafnfdeofoaa
set_option linter.unusedSimpArgs false
set_option linter.unusedVariables false
open Go.RowKit
section
variable {P : Program} {w : World}
theorem run_append_zero (base : Nat) (t ty e : TypeId) (i : TypeInfo) (size : Nat) (ht : P.underlying t = some (.slice e)) (hi : P.info? e = some i) (v : Value) (n : Nat) (xs : List Value) (hown : w.ownsRow base e size v n xs) (A : Option Addr) (c : Nat) :
    (Builtin.append_ #[t, t] ty #[v, .slice A 0 c]).run P w = .ok v w := by
  rcases hown.2 with ⟨rfl, rfl⟩ | ⟨g, cap, cur, rfl, _, _, hnc, _⟩
  · cases A <;> simp [Builtin.append_, run_underlying ht, sizeOf, typeInfo, hi, Builtin.lenOf, Builtin.firstCells, loadCells, loadCellsFrom, storeCells, Result.andThen]
  · cases A <;> simp [Builtin.append_, run_underlying ht, sizeOf, typeInfo, hi, Builtin.lenOf, Builtin.firstCells, hnc, loadCells, loadCellsFrom, storeCells, Result.andThen]
theorem wpList_append_zero {ops : Array Oper} {rest : List Oper} {o : Oper} {a : Act} {Q : Exit → Act → World → Prop} (hgd : o.guard = none) (s x : Operand) (t : TypeId)
    (ho : o.op = .call { callee := .builtin .append, args := #[s, x], argTypes := #[t, t] })
    (base : Nat) (e : TypeId) (i : TypeInfo) (size : Nat) (ht : P.underlying t = some (.slice e)) (hi : P.info? e = some i)
    (v : Value) (n : Nat) (xs : List Value) (hs : a.eval s = v) (hown : w.ownsRow base e size v n xs) (A : Option Addr) (c : Nat) (hx : a.eval x = .slice A 0 c)
    (h : wpList P ops Q rest (a.put o.dst v) w) : wpList P ops Q (o :: rest) a w := by
  refine wpList_plain hgd fun K hK => ?_
  have hrun := run_append_zero (P := P) (w := w) base t o.type e i size ht hi v n xs hown A c
  unfold Oper.wp
  simp [execOp, ho, resolve, invoke, builtin, hs, hx, hrun, Result.andThen]
  exact hK _ _ h
end
set_option maxHeartbeats 800000 in
theorem spec_copyIntsA (A : Option Addr) (n c : Nat) (xs : List Int) (w : World) (B : Nat) (hB : B ≤ w.heap.size) (hn : n = xs.length) (h : IS w B A xs) (hs : n ≤ 2000000) :
    Calls Try.prog 40 #[.slice A n c] w fun e w' => ∃ g cap, e = .returned (.slice (some ⟨g, 0, none⟩) n cap) ∧ w'.ownsRow w.heap.size 3 1 (.slice (some ⟨g, 0, none⟩) n cap) n (xs.map (Value.int .i64)) ∧ Below w.heap.size w w' := by
  by_cases hp : 0 < n
  · exact spec_copyInts A n c xs w B hB hn h hs hp
  · obtain rfl : n = 0 := by omega
    have hx : xs = [] := List.eq_nil_of_length_eq_zero hn.symm
    subst hx
    obtain ⟨i0, hi, hz0, hz1, hz2⟩ := info_parts info_int
    have hnew := World.ownsRow_lit (e := 3) (size := 1) (base := w.heap.size) w #[] 0 (Nat.le_refl _) (by unfold maxLen; omega) (by simp)
    have HNEW := Lib.hid hnew
    clear hnew hn h
    go_enter Try.func40, Try.ntmps40
    go_wp2_with (at_builtin; refine wpList_append_zero rfl _ _ 33 rfl w.heap.size 3 i0 1 Try.underlying33 hi _ 0 _ rfl HNEW.out A c rfl ?_)
    go_ret
    exact ⟨_, _, rfl, by simpa using HNEW.out, (Below.refl _ _).alloc (Nat.le_refl _) _⟩
end Go.Proofs.Ytfooafnfdeofoaa

namespace Go.Proofs.Ytfooafnfdeofoaa
set_option linter.unusedSimpArgs false
set_option linter.unusedVariables false
open Go.RowKit
set_option maxRecDepth 100000 in
set_option maxHeartbeats 1600000 in
theorem impl_copyStates (A : Option Addr) (n c : Nat) (xss : List (List Int)) (w : World) (B : Nat) (hB : B ≤ w.heap.size) (hn : n = xss.length) (h : SS w B A xss) (hs : SB xss) :
    Calls Try.prog 36 #[.slice A n c] w fun e w' => RetSS w xss e w' := by
  have hn1 : n ≤ 1048576 := by rw [hn]; exact hs.1
  obtain ⟨i1, hi, hz0, hz1, hz2⟩ := info_parts info_ints1
  obtain ⟨w3, hmk, hown3, hgr3⟩ := run_make_full (P := Try.prog) w w.heap.size 26 33 i1 _ 1 Try.underlying26 hi hz0 hz1 .i64 .i64 n (by rw [hz2]; omega) (by unfold maxLen; omega) (Nat.le_refl _)
  have hgl : w.heap.size < w3.heap.size := (hown3.lt _ rfl).2
  have hb3 : Below w.heap.size w w3 := ⟨hgr3.os, hgr3.tape, hgr3.output, hgr3.size, fun k hk => hgr3.block k hk (by simp)⟩
  have HO3 : Hid (∃ vs, OwR w.heap.size w3.heap.size 33 1 (.slice (some ⟨w.heap.size, 0, none⟩) n n) n vs w3 ∧ SSk w.heap.size w3.heap.size vs (lenOf (cpTo xss n 0)) (rowOf (cpTo xss n 0)) w3) := by
    have e : (madeCells (Value.slice none 0 0).cells (n * 1)).toList = List.replicate n (.slice none 0 0) := by simp [Value.cells, toList_madeCells_one]
    rw [e] at hown3
    refine ⟨_, OwR.start hown3, ⟨fun j hj => ?_, fun i j v u k _ h1 h2 hv => ?_⟩⟩
    · have hj' : j < n := by simpa using hj
      refine ⟨none, 0, 0, by simp [hj'], by simp [lenOf, cpTo, List.getD, hj'], ?_⟩
      have : rowOf (cpTo xss n 0) j = [] := by simp [rowOf, cpTo, List.getD, hj']
      rw [this]
      exact OwR.nil _ _ _ _ _
    · have : v = .slice none 0 0 := by
        rw [List.getElem?_replicate] at h1
        split at h1
        · cases h1; rfl
        · cases h1
      subst this
      simp [Value.ownBlock] at hv
  have H := Lib.hid h
  have HN := Lib.hid hn
  have HS := Lib.hid hs
  have HB3 := Lib.hid hb3
  clear hn h hs hown3 hgr3 hb3
  go_enter Try.func36, Try.ntmps36
  go_wp2
  clear hmk
  go_loopw [11] (fun i wr => ∃ k : Nat, k ≤ n ∧ i = .int .i64 k ∧ Hid (∃ vs, OwR w.heap.size wr.heap.size 33 1 (.slice (some ⟨w.heap.size, 0, none⟩) n n) n vs wr ∧ SSk w.heap.size wr.heap.size vs (lenOf (cpTo xss n k)) (rowOf (cpTo xss n k)) wr) ∧ Hid (Below w.heap.size w3 wr) ∧ w3.heap.size ≤ wr.heap.size) (fun i _ => n - (intOf i).toNat)
  case atStart => exact ⟨0, Nat.zero_le _, rfl, HO3.out, Below.refl _ _, Nat.le_refl _⟩
  case round =>
    obtain ⟨k, hk, rfl, HO, HB, hwr⟩ := hrel
    by_cases hlt : k < n
    · obtain ⟨vs, hrow, hss⟩ := HO.out
      have hvl : vs.length = n := by have := hrow.1.1; omega
      have hkg : k < xss.length := by have := HN.out; omega
      obtain ⟨b, off, rfl, hbB, A1, n1, c1, c0, hn1', hps⟩ := H.out.at_ k hkg
      have hbw := HB3.out.trans HB.out
      have e0 := (hbw.cell (p := ⟨b, off + k, none⟩) (by simp; omega)).trans c0
      have HPS := Lib.hid (hps.below hbw hB)
      have HAT := Lib.hid (cpTo_at xss n k hlt HN.out)
      have HOT := Lib.hid fun (j : Nat) (hj : j ≠ k) => cpTo_other xss n k j hlt HN.out hj
      have hnb := HS.out.2 k
      have HROW := Lib.hid hrow.1
      have HSS := Lib.hid hss
      have HVL := Lib.hid hvl
      generalize xss.getD k [] = D at *
      have HN1 := Lib.hid hn1'
      have hn2 : n1 ≤ 2000000 := by omega
      clear c0 hps hrow hss hvl hbw hn1' hnb
      go_wp2_with fail
      refine (impl_copyOf A1 n1 c1 D _ B (by omega) HN1.out HPS.out hn2).mono ?_
      rintro e w5 ⟨rfl, ho5, hb5⟩
      have hR5 := own_below HROW.out hb5
      have u5 := hR5.cellAt k (by omega)
      rw [List.getElem?_eq_getElem (by have := HVL.out; omega)] at u5
      have f5 := hR5.frozenAt k
      have hst := hR5.stored k (.slice (some ⟨wr.heap.size, 0, none⟩) n1 n1)
      have hw5 : wr.heap.size ≤ w5.heap.size := hb5.size
      have HNEW : Hid (∃ vs, OwR w.heap.size w5.heap.size 33 1 (.slice (some ⟨w.heap.size, 0, none⟩) n n) n vs (w5.setCell ⟨w.heap.size, k, none⟩ (.slice (some ⟨wr.heap.size, 0, none⟩) n1 n1)) ∧ SSk w.heap.size w5.heap.size vs (lenOf (cpTo xss n (k + 1))) (rowOf (cpTo xss n (k + 1))) (w5.setCell ⟨w.heap.size, k, none⟩ (.slice (some ⟨wr.heap.size, 0, none⟩) n1 n1))) := by
        have hss5 := HSS.out.keep (w' := w5) fun q _ hq => hb5.block q hq
        have hss6 := hss5.grown hst.2 (hss5.ne hR5 ints_ne_int)
        have hd6 := ho5.kept hst.2 (blocks_ne ho5 hR5 ints_ne_int)
        have hrk : rowOf (cpTo xss n (k + 1)) k = D.map (Value.int .i64) := by unfold rowOf; rw [HAT.out]
        rw [← hrk] at hd6
        refine ⟨_, ⟨hst.1, fun q hq => by cases hq; exact Nat.lt_of_lt_of_le hgl (by omega)⟩, hss6.put (hi' := w5.heap.size) (A := some ⟨wr.heap.size, 0, none⟩) (m := n1) (c := n1) k ?_ ?_ ?_ ?_ ?_ ⟨own_mono hd6 (by omega), fun q hq => by have := (ho5.lt q hq).2; omega⟩ (by omega) (by omega)⟩
        · rw [List.getElem?_set, if_pos rfl, if_pos (by have := HVL.out; omega)]
        · intro j hj; rw [List.getElem?_set, if_neg (by omega)]
        · intro j hj _; simpa using hj
        · unfold lenOf; rw [HAT.out]; exact HN1.out
        · intro j hj; unfold lenOf rowOf; rw [HOT.out j hj]; exact ⟨rfl, rfl⟩
      have HB6 : Hid (Below w.heap.size w3 (w5.setCell ⟨w.heap.size, k, none⟩ (.slice (some ⟨wr.heap.size, 0, none⟩) n1 n1))) := (HB.out.trans (hb5.mono (by omega))).setCell (Nat.le_refl _) _
      have HSZ : Hid ((w5.setCell ⟨w.heap.size, k, none⟩ (.slice (some ⟨wr.heap.size, 0, none⟩) n1 n1)).heap.size = w5.heap.size) := by simp [World.setCell, Hid]
      generalize vs[k]'_ = vv at u5
      clear hst hR5 ho5 hb5
      go_wp2
      go_roundw
      case rel => exact ⟨k + 1, by omega, by go_num, by rw [HSZ.out]; exact HNEW.out, HB6.out, by simp [World.setCell]; omega⟩
      case measure => simp [intOf]; omega
    · obtain rfl : k = n := by omega
      go_wp2
      go_ret
      refine ⟨_, rfl, ?_, HB3.out.trans HB.out⟩
      obtain ⟨vs, hrow, hss⟩ := HO.out
      rw [cpTo_all xss k HN.out] at hss
      rw [← HN.out]
      exact ⟨HN.out, vs, hrow, hss⟩
end Go.Proofs.Ytfooafnfdeofoaa

namespace Go.Proofs.Ytfooafnfdeofoaa
set_option linter.unusedSimpArgs false
set_option linter.unusedVariables false
open Go.RowKit
theorem newH_HB (gs : List Nd) (xs : List Int) : HiB (newH gs xs) := by
  unfold newH
  cases h : okC gs xs
  · exact HiB.of_hsz (by simp [hsz])
  · have h1 := (okC_parts gs xs h)
    have h2 := (validC_parts gs xs h1.2).1
    have h3 := (validG_parts gs h1.1).1
    exact HiB.of_hsz (by simp [hsz]; omega)
set_option maxRecDepth 100000 in
set_option maxHeartbeats 1600000 in
theorem top_spec_NewHistory (gs : List Nd) (xs : List Int) (hG : GB gs) (hL : xs.length ≤ 1048576) : ∀ (A : Option Addr) (n c : Nat) (A' : Option Addr) (m c' : Nat) (w : World), n = gs.length → n ≤ c → GS w w.heap.size A gs → m = xs.length → IS w w.heap.size A' xs →
    Calls Try.prog 14 #[.agg #[.slice A n c], .slice A' m c'] w fun e w' => RetH w (newH gs xs) e w' := by
  intro A n c A' m c' w hn hnc h hm h'
  have hm1 : m ≤ 2000000 := by omega
  have H := Lib.hid h
  have HX := Lib.hid h'
  have HM := Lib.hid hm
  have HC := Lib.hid fun (w' : World) (hB : w.heap.size ≤ w'.heap.size) (h : GS w' w.heap.size A gs) => spec_validGraph A n c gs w' w.heap.size hB hn h hG
  have HD := Lib.hid fun (w' : World) (hB : w.heap.size ≤ w'.heap.size) (h : GS w' w.heap.size A gs) (h' : IS w' w.heap.size A' xs) => spec_validCells A A' n c m c' gs xs w' w.heap.size hB hn hm h h' (by have := hG.1; omega) hm1
  have HCP := Lib.hid fun (w' : World) (hB : w.heap.size ≤ w'.heap.size) (h : IS w' w.heap.size A' xs) => spec_copyIntsA A' m c' xs w' w.heap.size hB hm h hm1
  have hf : newH gs xs = if validG gs && validC gs xs then ⟨[xs], 0⟩ else ⟨[], 0⟩ := rfl
  rw [hf]
  generalize validG gs = r at *
  generalize validC gs xs = s at *
  clear hf h h' hn hm hG
  obtain ⟨W2, hW2⟩ : ∃ W, W = (w.alloc (.cells #[.slice A n c] 25)).alloc (.cells #[.slice none 0 0, .int .i64 0] 28) := ⟨_, rfl⟩
  have hb2 : Below w.heap.size w W2 := by rw [hW2]; exact ((Below.refl _ _).alloc (Nat.le_refl _) _).alloc (by simp) _
  have hs2 : W2.heap.size = w.heap.size + 2 := by rw [hW2]; simp
  have q0 : W2.cell? ⟨w.heap.size, 0, none⟩ = some (.slice A n c) := by rw [hW2]; go_simp
  have q1 : W2.cell? ⟨w.heap.size + 1, 0, none⟩ = some (.slice none 0 0) := by rw [hW2]; go_simp
  have q2 : W2.cell? ⟨w.heap.size + 1, 1, none⟩ = some (.int .i64 0) := by rw [hW2]; go_simp
  have f1 : W2.frozen? ⟨w.heap.size + 1, 0, none⟩ = false := by rw [hW2]; go_simp
  have f2 : W2.frozen? ⟨w.heap.size + 1, 1, none⟩ = false := by rw [hW2]; go_simp
  have HB2 := Lib.hid hb2
  have HG2 := Lib.hid (H.out.below hb2 (Nat.le_refl _))
  have HX2 := Lib.hid (HX.out.below hb2 (Nat.le_refl _))
  have HQ := Lib.hid (And.intro q0 (And.intro q1 (And.intro q2 (And.intro f1 f2))))
  have HC2 := Lib.hid (HC.out W2 (by omega) HG2.out)
  have hs3 : w.heap.size + 2 ≤ W2.heap.size := by omega
  rw [hW2] at HC2
  have HW2 := Lib.hid hW2
  clear hW2 hb2 hs2 q0 q1 q2 f1 f2 HC
  cases r
  · go_enter Try.func14, Try.ntmps14
    go_wp2_with fail
    refine HC2.out.mono ?_
    rw [← HW2.out]
    rintro e w1 ⟨rfl, hb⟩
    have r1 := (hb.cell (p := ⟨w.heap.size + 1, 0, none⟩) (by simp; omega)).trans HQ.out.2.1
    have r2 := (hb.cell (p := ⟨w.heap.size + 1, 1, none⟩) (by simp; omega)).trans HQ.out.2.2.1
    have g1 := (hb.frozen (p := ⟨w.heap.size + 1, 0, none⟩) (by simp; omega)).trans HQ.out.2.2.2.1
    have g2 := (hb.frozen (p := ⟨w.heap.size + 1, 1, none⟩) (by simp; omega)).trans HQ.out.2.2.2.2
    have hs1 := hb.size
    have HB1 := Lib.hid (HB2.out.trans (hb.mono (by omega)))
    clear hb
    go_wp2
    refine bodyPost_ret (v := .agg #[.slice none 0 0, .int .i64 0]) (by simp [results, Try.results14, go_sem, r1, r2]) rfl ?_
    exact RetH.nil ((HB1.out.setCell (by simp) _).setCell (by simp) _)
  · cases s
    · go_enter Try.func14, Try.ntmps14
      go_wp2_with fail
      refine HC2.out.mono ?_
      rw [← HW2.out]
      rintro e w0 ⟨rfl, hb0⟩
      have p0 := (hb0.cell (p := ⟨w.heap.size, 0, none⟩) (by simp; omega)).trans HQ.out.1
      have HG1 := Lib.hid (HG2.out.below hb0 (by omega))
      have HX1 := Lib.hid (HX2.out.below hb0 (by omega))
      have hs0 := hb0.size
      have HB0 := Lib.hid hb0
      clear hb0
      go_wp2_with fail
      refine (HD.out _ (by omega) HG1.out HX1.out).mono ?_
      rintro e w1 ⟨rfl, hb1⟩
      have hb := HB0.out.trans (hb1.mono hs0)
      have r1 := (hb.cell (p := ⟨w.heap.size + 1, 0, none⟩) (by simp; omega)).trans HQ.out.2.1
      have r2 := (hb.cell (p := ⟨w.heap.size + 1, 1, none⟩) (by simp; omega)).trans HQ.out.2.2.1
      have g1 := (hb.frozen (p := ⟨w.heap.size + 1, 0, none⟩) (by simp; omega)).trans HQ.out.2.2.2.1
      have g2 := (hb.frozen (p := ⟨w.heap.size + 1, 1, none⟩) (by simp; omega)).trans HQ.out.2.2.2.2
      have hs1 := hb.size
      have HB1 := Lib.hid (HB2.out.trans (hb.mono (by omega)))
      clear hb hb1 p0
      go_wp2
      refine bodyPost_ret (v := .agg #[.slice none 0 0, .int .i64 0]) (by simp [results, Try.results14, go_sem, r1, r2]) rfl ?_
      exact RetH.nil ((HB1.out.setCell (by simp) _).setCell (by simp) _)
    · go_enter Try.func14, Try.ntmps14
      go_wp2_with fail
      refine HC2.out.mono ?_
      rw [← HW2.out]
      rintro e w0 ⟨rfl, hb0⟩
      have p0 := (hb0.cell (p := ⟨w.heap.size, 0, none⟩) (by simp; omega)).trans HQ.out.1
      have HG1 := Lib.hid (HG2.out.below hb0 (by omega))
      have HX1 := Lib.hid (HX2.out.below hb0 (by omega))
      have hs0 := hb0.size
      have HB0 := Lib.hid hb0
      clear hb0
      go_wp2_with fail
      refine (HD.out _ (by omega) HG1.out HX1.out).mono ?_
      rintro e w1 ⟨rfl, hb1⟩
      have HX3 := Lib.hid (HX1.out.below hb1 (by omega))
      have hs1 := hb1.size
      have HB1 := Lib.hid (HB0.out.trans (hb1.mono hs0))
      clear hb1 p0
      go_wp2_with fail
      refine (HCP.out _ (by omega) HX3.out).mono ?_
      rintro e w3 ⟨g, cap, rfl, ho, hb3⟩
      have hb := HB1.out.trans (hb3.mono (by omega))
      have r1 := (hb.cell (p := ⟨w.heap.size + 1, 0, none⟩) (by simp; omega)).trans HQ.out.2.1
      have r2 := (hb.cell (p := ⟨w.heap.size + 1, 1, none⟩) (by simp; omega)).trans HQ.out.2.2.1
      have g1 := (hb.frozen (p := ⟨w.heap.size + 1, 0, none⟩) (by simp; omega)).trans HQ.out.2.2.2.1
      have g2 := (hb.frozen (p := ⟨w.heap.size + 1, 1, none⟩) (by simp; omega)).trans HQ.out.2.2.2.2
      have hs3' := hb.size
      have HB3 := Lib.hid (HB2.out.trans (hb.mono (by omega)))
      have hgl := (ho.lt g rfl).2
      have HO := Lib.hid (own_mono ho (base' := w.heap.size + 2) (by omega))
      have hz : w.heap.size + 1 < w3.heap.size := by omega
      clear hb hb3 ho
      go_wp2
      obtain ⟨w4, hw4⟩ : ∃ x, x = (w3.setCell ⟨w.heap.size + 1, 0, none⟩ (.slice (some ⟨w3.heap.size, 0, none⟩) 1 1)).setCell ⟨w.heap.size + 1, 1, none⟩ (.int .i64 0) := ⟨_, rfl⟩
      have hs4 : w4.heap.size = w3.heap.size := by rw [hw4]; simp [World.setCell]
      have e1 : w4.cell? ⟨w.heap.size + 1, 0, none⟩ = some (.slice (some ⟨w3.heap.size, 0, none⟩) 1 1) := by rw [hw4, World.cell?_setCell_other _ _ _ _ (by simp)]; exact World.cell?_setCell_same _ _ _ r1
      have e2 : w4.cell? ⟨w.heap.size + 1, 1, none⟩ = some (.int .i64 0) := by rw [hw4]; exact World.cell?_setCell_same _ _ _ ((World.cell?_setCell_other _ _ _ _ (by simp)).trans r2)
      have ho4 := ownsRow_setCell_below (ownsRow_setCell_below HO.out (a := ⟨w.heap.size + 1, 0, none⟩) (by simp) (.slice (some ⟨w3.heap.size, 0, none⟩) 1 1)) (a := ⟨w.heap.size + 1, 1, none⟩) (by simp) (.int .i64 0)
      have hb4 : Below w.heap.size w w4 := by rw [hw4]; exact (HB3.out.setCell (by simp) _).setCell (by simp) _
      rw [← hw4] at ho4 ⊢
      have o1 := OwSS.one ho4 HM.out (by omega)
      rw [hs4] at o1
      have a1 := (World.cell?_alloc_lt w4 (.cells #[.slice (some ⟨g, 0, none⟩) m cap] 33) ⟨w.heap.size + 1, 0, none⟩ (by simp; omega)).trans e1
      have a2 := (World.cell?_alloc_lt w4 (.cells #[.slice (some ⟨g, 0, none⟩) m cap] 33) ⟨w.heap.size + 1, 1, none⟩ (by simp; omega)).trans e2
      refine bodyPost_ret (v := .agg #[.slice (some ⟨w3.heap.size, 0, none⟩) 1 1, .int .i64 0]) (by simp [results, Try.results14, go_sem, a1, a2]) rfl ?_
      refine ⟨_, _, _, rfl, ?_, hb4.alloc (by omega) _⟩
      have o5 := o1.mono (lo' := w.heap.size) (hi' := w3.heap.size + 1) (by omega) (Nat.le_refl _)
      simpa [World.size_alloc, hs4, OwH] using o5
set_option maxRecDepth 100000 in
set_option maxHeartbeats 1600000 in
theorem top_impl_NewHistory (gs : List Nd) (xs : List Int) (hG : GB gs) (hL : xs.length ≤ 1048576) : ∀ (A : Option Addr) (n c : Nat) (A' : Option Addr) (m c' : Nat) (w : World), n = gs.length → n ≤ c → GS w w.heap.size A gs → m = xs.length → IS w w.heap.size A' xs →
    Calls Try.prog 12 #[.agg #[.slice A n c], .slice A' m c'] w fun e w' => RetH w (newH gs xs) e w' := by
  intro A n c A' m c' w hn hnc h hm h'
  have hm1 : m ≤ 2000000 := by omega
  have H := Lib.hid h
  have HX := Lib.hid h'
  have HM := Lib.hid hm
  have HC := Lib.hid fun (w' : World) (hB : w.heap.size ≤ w'.heap.size) (h : GS w' w.heap.size A gs) (h' : IS w' w.heap.size A' xs) => impl_ValidCells A A' n c m c' gs xs w' w.heap.size hB hn hnc hm h h' hG hm1
  have hSB : SB [xs] := ⟨by simp, fun j => by rcases j with _ | j <;> simp [List.getD]; omega⟩
  have HCP := Lib.hid fun (g : Nat) (w' : World) (h : SS w' w'.heap.size (some ⟨g, 0, none⟩) [xs]) => impl_copyStates (some ⟨g, 0, none⟩) 1 1 [xs] w' w'.heap.size (Nat.le_refl _) rfl h hSB
  have hf : newH gs xs = if okC gs xs then ⟨[xs], 0⟩ else ⟨[], 0⟩ := rfl
  rw [hf]
  generalize okC gs xs = r at *
  clear hf h h' hn hm hG hSB
  obtain ⟨W2, hW2⟩ : ∃ W, W = (w.alloc (.cells #[.slice A n c] 25)).alloc (.cells #[.slice none 0 0, .int .i64 0] 28) := ⟨_, rfl⟩
  have hb2 : Below w.heap.size w W2 := by rw [hW2]; exact ((Below.refl _ _).alloc (Nat.le_refl _) _).alloc (by simp) _
  have hs2 : W2.heap.size = w.heap.size + 2 := by rw [hW2]; simp
  have q0 : W2.cell? ⟨w.heap.size, 0, none⟩ = some (.slice A n c) := by rw [hW2]; go_simp
  have q1 : W2.cell? ⟨w.heap.size + 1, 0, none⟩ = some (.slice none 0 0) := by rw [hW2]; go_simp
  have q2 : W2.cell? ⟨w.heap.size + 1, 1, none⟩ = some (.int .i64 0) := by rw [hW2]; go_simp
  have f1 : W2.frozen? ⟨w.heap.size + 1, 0, none⟩ = false := by rw [hW2]; go_simp
  have f2 : W2.frozen? ⟨w.heap.size + 1, 1, none⟩ = false := by rw [hW2]; go_simp
  have HB2 := Lib.hid hb2
  have HG2 := Lib.hid (H.out.below hb2 (Nat.le_refl _))
  have HX2 := Lib.hid (HX.out.below hb2 (Nat.le_refl _))
  have HQ := Lib.hid (And.intro q0 (And.intro q1 (And.intro q2 (And.intro f1 f2))))
  have HC2 := Lib.hid (HC.out W2 (by omega) HG2.out HX2.out)
  have hs3 : w.heap.size + 2 ≤ W2.heap.size := by omega
  rw [hW2] at HC2
  have HW2 := Lib.hid hW2
  clear hW2 hb2 hs2 q0 q1 q2 f1 f2 HC
  cases r
  · go_enter Try.func12, Try.ntmps12
    go_wp2_with fail
    refine HC2.out.mono ?_
    rw [← HW2.out]
    rintro e w1 ⟨rfl, hb⟩
    have r1 := (hb.cell (p := ⟨w.heap.size + 1, 0, none⟩) (by simp; omega)).trans HQ.out.2.1
    have r2 := (hb.cell (p := ⟨w.heap.size + 1, 1, none⟩) (by simp; omega)).trans HQ.out.2.2.1
    have g1 := (hb.frozen (p := ⟨w.heap.size + 1, 0, none⟩) (by simp; omega)).trans HQ.out.2.2.2.1
    have g2 := (hb.frozen (p := ⟨w.heap.size + 1, 1, none⟩) (by simp; omega)).trans HQ.out.2.2.2.2
    have hs1 := hb.size
    have HB1 := Lib.hid (HB2.out.trans (hb.mono (by omega)))
    clear hb
    go_wp2
    refine bodyPost_ret (v := .agg #[.slice none 0 0, .int .i64 0]) (by simp [results, Try.results12, go_sem, r1, r2]) rfl ?_
    exact RetH.nil ((HB1.out.setCell (by simp) _).setCell (by simp) _)
  · go_enter Try.func12, Try.ntmps12
    go_wp2_with fail
    refine HC2.out.mono ?_
    rw [← HW2.out]
    rintro e w1 ⟨rfl, hb1⟩
    have HX3 := Lib.hid (HX2.out.below hb1 (by omega))
    have hs1 := hb1.size
    have HB1 := Lib.hid hb1
    have HSS := Lib.hid (SS.one (c := c') HX3.out (by omega) HM.out 33)
    clear hb1
    go_wp2_with fail
    refine (HCP.out _ _ (by simpa using HSS.out)).mono ?_
    rintro e w3 ⟨v3, rfl, ho, hb3⟩
    have hb := HB1.out.trans (((Below.refl _ _).alloc (Nat.le_refl _) (.cells #[.slice A' m c'] 33)).trans (hb3.mono (by simp)) |>.mono (by omega))
    have r1 := (hb.cell (p := ⟨w.heap.size + 1, 0, none⟩) (by simp; omega)).trans HQ.out.2.1
    have r2 := (hb.cell (p := ⟨w.heap.size + 1, 1, none⟩) (by simp; omega)).trans HQ.out.2.2.1
    have g1 := (hb.frozen (p := ⟨w.heap.size + 1, 0, none⟩) (by simp; omega)).trans HQ.out.2.2.2.1
    have g2 := (hb.frozen (p := ⟨w.heap.size + 1, 1, none⟩) (by simp; omega)).trans HQ.out.2.2.2.2
    have hs3' := hb.size
    have HB3 := Lib.hid (HB2.out.trans (hb.mono (by omega)))
    obtain ⟨A3, c3, rfl⟩ := ho.form
    have HO := Lib.hid (ho.mono (lo' := w.heap.size + 2) (hi' := w3.heap.size) (by simp; omega) (Nat.le_refl _))
    clear hb hb3 ho
    go_wp2
    refine bodyPost_ret (v := .agg #[.slice A3 1 c3, .int .i64 0]) (by simp [results, Try.results12, go_sem, r1, r2]) rfl ?_
    have o1 := HO.out.setCell (a := ⟨w.heap.size + 1, 0, none⟩) (by simp) (.slice A3 1 c3)
    have o2 := o1.setCell (a := ⟨w.heap.size + 1, 1, none⟩) (by simp) (.int .i64 0)
    refine ⟨_, _, _, rfl, ?_, (HB3.out.setCell (by simp) _).setCell (by simp) _⟩
    have o5 := o2.mono (lo' := w.heap.size) (hi' := w3.heap.size) (by omega) (Nat.le_refl _)
    simpa [World.setCell, OwH] using o5
end Go.Proofs.Ytfooafnfdeofoaa

namespace Go.Proofs.Ytfooafnfdeofoaa
set_option linter.unusedSimpArgs false
set_option linter.unusedVariables false
open Go.RowKit
section
variable {lo hi : Nat} {w : World}
/-- One row more ahead. -/
theorem SSk.cons {us : List Value} {x : List Int} {xs : List (List Int)} {A : Option Addr} {n c : Nat} (h : SSk lo hi us (lenOf xs) (rowOf xs) w) (hr : OwR lo hi 3 1 (.slice A n c) n (x.map (Value.int .i64)) w) (hn : n = x.length) (hap : ∀ (j : Nat) (u : Value) (k : Nat), us[j]? = some u → (Value.slice A n c).ownBlock = some k → u.ownBlock ≠ some k) : SSk lo hi (.slice A n c :: us) (lenOf (x :: xs)) (rowOf (x :: xs)) w := by
  refine ⟨fun j hj => ?_, fun i j v u k hij h3 h4 hv hu => ?_⟩
  · cases j with
    | zero => exact ⟨A, n, c, rfl, hn, hr⟩
    | succ j => exact h.row j (by simpa using hj)
  · cases i with
    | zero =>
      cases j with
      | zero => exact hij rfl
      | succ j =>
        simp only [List.getElem?_cons_zero, Option.some.injEq] at h3
        subst h3
        exact hap j u k h4 hv hu
    | succ i =>
      cases j with
      | zero =>
        simp only [List.getElem?_cons_zero, Option.some.injEq] at h4
        subst h4
        exact hap i v k h3 hu hv
      | succ j => exact h.apart i j v u k (by omega) h3 h4 hv hu
end
end Go.Proofs.Ytfooafnfdeofoaa

namespace Go.Proofs.Ytfooafnfdeofoaa
set_option linter.unusedSimpArgs false
set_option linter.unusedVariables false
open Go.RowKit
theorem OwH.cap {lo hi n c : Nat} {A : Option Addr} {st : Hi} {w : World} (h : OwH lo hi A n c st w) : n ≤ c := by
  obtain ⟨_, vs, hr, _⟩ := h
  exact own_ncap hr.1
end Go.Proofs.Ytfooafnfdeofoaa

namespace Go.Proofs.Ytfooafnfdeofoaa
set_option linter.unusedSimpArgs false
set_option linter.unusedVariables false
open Go.RowKit
/-- Returns a history, numbers and whether there are some, in fresh blocks: those of the numbers lie behind. -/
def RetHIB (w : World) (st : Hi) (xs : List Int) (b : Bool) (e : Ending) (w' : World) : Prop := ∃ (A : Option Addr) (n c : Nat) (A' : Option Addr) (m' c' mid : Nat), e = .returned (.tuple #[.agg #[.slice A n c, .int .i64 st.ix], .slice A' m' c', .bool b]) ∧ m' = xs.length ∧ OwH w.heap.size mid A n c st w' ∧ OwR mid w'.heap.size 3 1 (.slice A' m' c') m' (xs.map (Value.int .i64)) w' ∧ w.heap.size ≤ mid ∧ mid ≤ w'.heap.size ∧ Below w.heap.size w w'
theorem RetHIB.nil {w w' : World} (hb : Below w.heap.size w w') : RetHIB w ⟨[], 0⟩ [] false (.returned (.tuple #[.agg #[.slice none 0 0, .int .i64 0], .slice none 0 0, .bool false])) w' := ⟨_, _, _, _, _, _, w'.heap.size, rfl, rfl, OwH.nil _ _ _, OwR.nil _ _ _ _ _, hb.size, Nat.le_refl _, hb⟩
set_option maxRecDepth 100000 in
set_option maxHeartbeats 3200000 in
theorem top_impl_MoveHistory (gs : List Nd) (st : Hi) (y : Int) (hG : GB gs) (hH : HiB st) : ∀ (A : Option Addr) (n c : Nat) (A1 : Option Addr) (m c1 : Nat) (w : World), n = gs.length → n ≤ c → GS w w.heap.size A gs → m = st.ss.length → HiS w w.heap.size A1 st → -9223372036854775808 ≤ y → y ≤ 9223372036854775807 →
    Calls Try.prog 16 #[.agg #[.slice A n c], .agg #[.slice A1 m c1, .int .i64 st.ix], .int .i64 y] w fun e w' => RetHIB w (moveH gs st y) (moveI gs st y) (moveB gs st y) e w' := by
  intro A n c A1 m c1 w hn hnc h hm h1 hy0 hy1
  have H := Lib.hid h
  have HI := Lib.hid h1
  have HV := Lib.hid fun (w' : World) (hB : w.heap.size ≤ w'.heap.size) (h : GS w' w.heap.size A gs) (h' : HiS w' w.heap.size A1 st) => impl_ValidHistory A A1 n c m c1 gs st w' w.heap.size hB hn hnc hm h h' hG hH
  have HCH := Lib.hid fun (w' : World) (hB : w.heap.size ≤ w'.heap.size) (h : HiS w' w.heap.size A1 st) => impl_copyStates A1 m c1 st.ss w' w.heap.size hB hm h hH.2.1
  have HCG := Lib.hid fun (xs ys : List Int) (hL : xs.length ≤ 1048576) (hL2 : ys.length ≤ 1048576) (B1 : Option Addr) (p1 d1 : Nat) (B2 : Option Addr) (p2 d2 : Nat) (w' : World) (h : GS w' w'.heap.size A gs) (h1 : p1 = xs.length) (h2 : IS w' w'.heap.size B1 xs) (h3 : p2 = ys.length) (h4 : IS w' w'.heap.size B2 ys) => top_impl_ChangedBy gs xs ys hG hL hL2 A n c B1 p1 d1 B2 p2 d2 w' hn hnc h h1 h2 h3 h4
  have hHb : moveB gs st y = (validHi gs st && rng y (-10) 10 && rng (st.ix + y) 0 (st.ss.length - 1)) := rfl
  have hHf : moveH gs st y = if moveB gs st y then ⟨st.ss, st.ix + y⟩ else ⟨[], 0⟩ := rfl
  have hHi : moveI gs st y = if moveB gs st y then chgF gs (st.ss.getD st.ix.toNat []) (st.ss.getD (st.ix + y).toNat []) else [] := rfl
  have HVP := Lib.hid (fun hv : validHi gs st = true => validHi_parts hv)
  have HSB := Lib.hid hH.2.1.2
  rw [hHf, hHi]
  generalize moveB gs st y = b at *
  generalize hv : validHi gs st = v at *
  have HM := Lib.hid hm
  obtain ⟨ss, ix⟩ := st
  dsimp only at *
  generalize hD : chgF gs (ss.getD ix.toNat []) (ss.getD (ix + y).toNat []) = D at *
  clear hHf hHi h h1 hn hm hG hH hv
  obtain ⟨W3, hW3⟩ : ∃ W, W = ((w.alloc (.cells #[.slice A n c] 25)).alloc (.cells #[.slice A1 m c1, .int .i64 ix] 28)).alloc (.cells #[.slice none 0 0, .int .i64 0] 28) := ⟨_, rfl⟩
  have hb3 : Below w.heap.size w W3 := by rw [hW3]; exact (((Below.refl _ _).alloc (Nat.le_refl _) _).alloc (by simp) _).alloc (by simp; try omega) _
  have hs3 : w.heap.size + 3 ≤ W3.heap.size := by rw [hW3]; simp
  have hx0 : Bx w.heap.size [.slice A n c] W3 := by rw [hW3]; exact ((Bx.start w _ _).alloc _).alloc _
  have hx1 : Bx (w.heap.size + 1) [.slice A1 m c1, .int .i64 ix] W3 := by rw [hW3]; have := (Bx.start (w.alloc (.cells #[.slice A n c] 25)) #[.slice A1 m c1, .int .i64 ix] 28).alloc (.cells #[.slice none 0 0, .int .i64 0] 28); simpa using this
  have hx2 : Bx (w.heap.size + 2) [.slice none 0 0, .int .i64 0] W3 := by rw [hW3]; have := Bx.start ((w.alloc (.cells #[.slice A n c] 25)).alloc (.cells #[.slice A1 m c1, .int .i64 ix] 28)) #[.slice none 0 0, .int .i64 0] 28; simpa using this
  have HG3 := Lib.hid (H.out.below hb3 (Nat.le_refl _))
  have HI3 := Lib.hid (show HiS W3 w.heap.size A1 ⟨ss, ix⟩ from SS.below HI.out hb3 (Nat.le_refl _))
  have HV3 := Lib.hid (HV.out W3 (by omega) HG3.out HI3.out)
  rw [hW3] at HV3
  have HW3 := Lib.hid hW3
  have HB3 := Lib.hid hb3
  have X0 := Lib.hid hx0
  have X1 := Lib.hid hx1
  have X2 := Lib.hid hx2
  clear hW3 hb3 hx0 hx1 hx2 HV H HI
  cases v
  · simp only [Bool.false_and] at hHb
    subst hHb
    go_enter Try.func16, Try.ntmps16
    go_wp2_with fail
    refine HV3.out.mono ?_
    rw [← HW3.out]
    rintro e w4 ⟨rfl, hb⟩
    have Y2 := X2.out.step hb
    have r1 := Y2.c 0 _ rfl
    have r2 := Y2.c 1 _ rfl
    have g1 := Y2.f 0
    have g2 := Y2.f 1
    have hs4 := hb.size
    have HB4 := Lib.hid (HB3.out.trans (hb.mono (by omega)))
    clear hb Y2
    go_wp2
    refine bodyPost_ret (v := .tuple #[.agg #[.slice none 0 0, .int .i64 0], .slice none 0 0, .bool false]) (by simp [results, Try.results16, go_sem, r1, r2]) rfl ?_
    exact RetHIB.nil ((HB4.out.setCell (by simp; omega) _).setCell (by simp; omega) _)

  · obtain ⟨-, hl1, hl10, hi0, hi1, hvs⟩ := HVP.out rfl
    obtain ⟨j, rfl⟩ : ∃ j : Nat, ix = (j : Int) := ⟨ix.toNat, by omega⟩
    have hjm : j < m := by have := HM.out; omega
    have hm10 : m ≤ 10 := by have := HM.out; omega
    have hrr : (rng y (-10) 10 && rng ((j : Int) + y) 0 ((ss.length : Int) - 1)) = rng (IntKind.i64.wrap ((j : Int) + y)) 0 ((m : Int) - 1) := by
      rw [← HM.out, Bool.eq_iff_iff]
      simp only [rng, Bool.and_eq_true, decide_eq_true_eq, IntKind.wrap_i64]
      omega
    rw [Bool.true_and, hrr] at hHb
    have HWR := Lib.hid (show IntKind.i64.wrap ((j : Int) + y) = ((j : Int) + y + 9223372036854775808) % 18446744073709551616 - 9223372036854775808 from IntKind.wrap_i64 _)
    generalize hz : IntKind.i64.wrap ((j : Int) + y) = z at *
    have HIQ := Lib.hid fun (w' : World) => impl_inRange z ((m : Int) - 1) w'
    have hwy : IntKind.i64.wrap ((m : Int) - 1) = (m : Int) - 1 := by rw [IntKind.wrap_i64]; omega
    by_cases hr2 : 0 ≤ z ∧ z ≤ (m : Int) - 1
    case neg =>
      have e2 : rng z 0 ((m : Int) - 1) = false := by simp only [rng, decide_eq_false_iff_not]; omega
      rw [e2] at hHb HIQ
      subst hHb
      clear hrr e2
      go_enter Try.func16, Try.ntmps16
      go_wp2_with fail
      refine HV3.out.mono ?_
      rw [← HW3.out]
      rintro e w4 ⟨rfl, hb⟩
      have hs4 := hb.size
      have Y0 := Lib.hid (X0.out.step hb)
      have Y1 := Lib.hid (X1.out.step hb)
      have Y2 := Lib.hid (X2.out.step hb)
      have HB4 := Lib.hid (HB3.out.trans (hb.mono (by omega)))
      have HG4 := Lib.hid (HG3.out.below hb (by omega))
      have HI4 := Lib.hid (show SS w4 w.heap.size A1 ss from SS.below HI3.out hb (by omega))
      have a1 := Y1.out.c 0 _ rfl
      have a2 := Y1.out.c 1 _ rfl
      clear hb X0 X1 X2 HB3 HG3 HI3 HV3
      have r1 := Y2.out.c 0 _ rfl
      have r2 := Y2.out.c 1 _ rfl
      have g1 := Y2.out.f 0
      have g2 := Y2.out.f 1
      go_wp2_with fail
      refine (HIQ.out _).mono ?_
      rintro e w5 ⟨rfl, rfl⟩
      go_wp2
      refine bodyPost_ret (v := .tuple #[.agg #[.slice none 0 0, .int .i64 0], .slice none 0 0, .bool false]) (by simp [results, Try.results16, go_sem, r1, r2]) rfl ?_
      exact RetHIB.nil ((HB4.out.setCell (by simp; omega) _).setCell (by simp; omega) _)
    obtain ⟨hr3, hr4⟩ := hr2
    have e2 : rng z 0 ((m : Int) - 1) = true := by simp only [rng, decide_eq_true_eq]; omega
    rw [e2] at hHb HIQ
    subst hHb
    obtain ⟨k, hzk⟩ : ∃ k : Nat, z = (k : Int) := ⟨z.toNat, by omega⟩
    subst hzk
    have hk : (j : Int) + y = (k : Int) := by have := HWR.out; omega
    have hkm : k < m := by omega
    rw [hk]
    have hDD : chgF gs (ss.getD j []) (ss.getD k []) = D := by rw [← hD, hk]; simp
    have HCGD := Lib.hid fun (B1 : Option Addr) (p1 d1 : Nat) (B2 : Option Addr) (p2 d2 : Nat) (w' : World) (h : GS w' w'.heap.size A gs) (h1 : p1 = (ss.getD j []).length) (h2 : IS w' w'.heap.size B1 (ss.getD j [])) (h3 : p2 = (ss.getD k []).length) (h4 : IS w' w'.heap.size B2 (ss.getD k [])) => HCG.out (ss.getD j []) (ss.getD k []) (HSB.out j) (HSB.out k) B1 p1 d1 B2 p2 d2 w' h h1 h2 h3 h4
    rw [hDD] at HCGD
    clear hrr e2 hk hr3 hr4 hi1 HCG hDD hD hvs HWR hy0 hy1

    go_enter Try.func16, Try.ntmps16
    go_wp2_with fail
    refine HV3.out.mono ?_
    rw [← HW3.out]
    rintro e w4 ⟨rfl, hb⟩
    have hs4 := hb.size
    have Y0 := Lib.hid (X0.out.step hb)
    have Y1 := Lib.hid (X1.out.step hb)
    have Y2 := Lib.hid (X2.out.step hb)
    have HB4 := Lib.hid (HB3.out.trans (hb.mono (by omega)))
    have HG4 := Lib.hid (HG3.out.below hb (by omega))
    have HI4 := Lib.hid (show SS w4 w.heap.size A1 ss from SS.below HI3.out hb (by omega))
    have a1 := Y1.out.c 0 _ rfl
    have a2 := Y1.out.c 1 _ rfl
    clear hb X0 X1 X2 HB3 HG3 HI3 HV3
    go_wp2_with fail
    refine (HIQ.out _).mono ?_
    rintro e w5 ⟨rfl, rfl⟩
    go_upto_region 6 with fail
    obtain ⟨b1, o1, hA1, hb1, hcs⟩ := HI4.out (by have := HM.out; omega)
    subst hA1
    obtain ⟨Bj, nj, cj, e1, e2, e3⟩ := hcs j (by have := HM.out; omega)
    obtain ⟨Bk, nk, ck, g1, g2, g3⟩ := hcs k (by have := HM.out; omega)
    have HE1 := Lib.hid e1
    have HG1 := Lib.hid g1
    have HNJ := Lib.hid e2
    have HNK := Lib.hid g2
    have HIJ := Lib.hid e3
    have HIK := Lib.hid g3
    clear hcs e1 e2 e3 g1 g2 g3
    have q1 := HE1.out
    have q2 := HG1.out
    have hjk : j < m := by omega
    have z0 := Y0.out.c 0 _ rfl
    refine wp_region_held_drew (S := fun w' => w'.cell? ⟨w.heap.size, 0, none⟩ = some (.slice A n c) ∧ w'.cell? ⟨w.heap.size + 1, 0, none⟩ = some (.slice (some ⟨b1, o1, none⟩) m c1) ∧ w'.cell? ⟨w.heap.size + 1, 1, none⟩ = some (.int .i64 j) ∧ w'.cell? ⟨b1, o1 + j, none⟩ = some (.slice Bj nj cj) ∧ w'.cell? ⟨b1, o1 + k, none⟩ = some (.slice Bk nk ck)) (by kernel_rfl) ⟨z0, a1, a2, q1, q2⟩ (fun hHeld => ?_)
    refine wpAnyH_take (i := 0) (oi := ⟨some 27, _, _, _, _, _⟩) (v := ?_) rfl (by kernel_rfl) (by kernel_rfl) (by kernel_rfl) (fun _ _ _ h => h) (Or.inl ⟨by rfl, ?_⟩) (by assumption) ?_; rotate_left; (focus (intro w hSw; (try dsimp only at hSw); go_simp; (try with_reducible rfl))); (try simp only [Act.put, List.setIfInBounds_toArray, List.set_cons_zero, List.set_cons_succ])
    refine wpAnyH_take (i := 1) (oi := ⟨some 28, _, _, _, _, _⟩) (v := ?_) rfl (by kernel_rfl) (by kernel_rfl) (by kernel_rfl) (fun _ _ _ h => h) (Or.inl ⟨by rfl, ?_⟩) (by assumption) ?_; rotate_left; (focus (intro w hSw; (try dsimp only at hSw); go_simp; (try with_reducible rfl))); (try simp only [Act.put, List.setIfInBounds_toArray, List.set_cons_zero, List.set_cons_succ])
    refine wpAnyH_take (i := 3) (oi := ⟨some 30, _, _, _, _, _⟩) (v := ?_) rfl (by kernel_rfl) (by kernel_rfl) (by kernel_rfl) (fun _ _ _ h => h) (Or.inl ⟨by rfl, ?_⟩) (by assumption) ?_; rotate_left; (focus (intro w hSw; (try dsimp only at hSw); go_simp; (try with_reducible rfl))); (try simp only [Act.put, List.setIfInBounds_toArray, List.set_cons_zero, List.set_cons_succ])
    refine wpAnyH_take (i := 5) (oi := ⟨some 32, _, _, _, _, _⟩) (v := ?_) rfl (by kernel_rfl) (by kernel_rfl) (by kernel_rfl) (fun _ _ _ h => h) (Or.inl ⟨by rfl, ?_⟩) (by assumption) ?_; rotate_left; (focus (intro w hSw; (try dsimp only at hSw); go_simp; (try with_reducible rfl))); (try simp only [Act.put, List.setIfInBounds_toArray, List.set_cons_zero, List.set_cons_succ])
    refine wpAnyH_take (i := 6) (oi := ⟨some 33, _, _, _, _, _⟩) (v := ?_) rfl (by kernel_rfl) (by kernel_rfl) (by kernel_rfl) (fun _ _ _ h => h) (Or.inl ⟨by rfl, ?_⟩) (by assumption) ?_; rotate_left; (focus (intro w hSw; (try dsimp only at hSw); go_simp; (try with_reducible rfl))); (try simp only [Act.put, List.setIfInBounds_toArray, List.set_cons_zero, List.set_cons_succ])
    refine wpAnyH_take (i := 7) (oi := ⟨some 34, _, _, _, _, _⟩) (v := ?_) rfl (by kernel_rfl) (by kernel_rfl) (by kernel_rfl) (fun _ _ _ h => h) (Or.inl ⟨by rfl, ?_⟩) (by assumption) ?_; rotate_left; (focus (intro w hSw; (try dsimp only at hSw); go_simp; (try with_reducible rfl))); (try simp only [Act.put, List.setIfInBounds_toArray, List.set_cons_zero, List.set_cons_succ])
    refine wpAnyH_take (i := 8) (oi := ⟨some 35, _, _, _, _, _⟩) (v := ?_) rfl (by kernel_rfl) (by kernel_rfl) (by kernel_rfl) (fun _ _ _ h => h) (Or.inl ⟨by rfl, ?_⟩) (by assumption) ?_; rotate_left; (focus (intro w hSw; (try dsimp only at hSw); go_simp; (try with_reducible rfl))); (try simp only [Act.put, List.setIfInBounds_toArray, List.set_cons_zero, List.set_cons_succ])
    refine wpAnyH_take (i := 9) (oi := ⟨some 36, _, _, _, _, _⟩) (v := ?_) rfl (by kernel_rfl) (by kernel_rfl) (by kernel_rfl) (fun _ _ _ h => h) (Or.inl ⟨by rfl, ?_⟩) (by assumption) ?_; rotate_left; (focus (intro w hSw; (try dsimp only at hSw); go_simp; (try with_reducible rfl))); (try simp only [Act.put, List.setIfInBounds_toArray, List.set_cons_zero, List.set_cons_succ])
    refine wpAnyH_take (i := 10) (oi := ⟨some 37, _, _, _, _, _⟩) (v := ?_) rfl (by kernel_rfl) (by kernel_rfl) (by kernel_rfl) (fun _ _ _ h => h) (Or.inl ⟨by rfl, ?_⟩) (by assumption) ?_; rotate_left; (focus (intro w hSw; (try dsimp only at hSw); go_simp; (try with_reducible rfl))); (try simp only [Act.put, List.setIfInBounds_toArray, List.set_cons_zero, List.set_cons_succ])
    refine wpAnyH_take (i := 11) (oi := ⟨some 38, _, _, _, _, _⟩) (v := ?_) rfl (by kernel_rfl) (by kernel_rfl) (by kernel_rfl) (fun _ _ _ h => h) (Or.inl ⟨by rfl, ?_⟩) (by assumption) ?_; rotate_left; (focus (intro w hSw; (try dsimp only at hSw); go_simp; (try with_reducible rfl))); (try simp only [Act.put, List.setIfInBounds_toArray, List.set_cons_zero, List.set_cons_succ])
    refine wpAnyH_take (i := 12) (oi := ⟨some 39, _, _, _, _, _⟩) (v := ?_) rfl (by kernel_rfl) (by kernel_rfl) (by kernel_rfl) (fun _ _ _ h => h) (Or.inl ⟨by rfl, ?_⟩) (by assumption) ?_; rotate_left; (focus (intro w hSw; (try dsimp only at hSw); go_simp; (try with_reducible rfl))); (try simp only [Act.put, List.setIfInBounds_toArray, List.set_cons_zero, List.set_cons_succ])
    refine wpAnyH_take (i := 13) (oi := ⟨some 40, _, _, _, _, _⟩) (v := ?_) rfl (by kernel_rfl) (by kernel_rfl) (by kernel_rfl) (fun _ _ _ h => h) (Or.inl ⟨by rfl, ?_⟩) (by assumption) ?_; rotate_left; (focus (intro w hSw; (try dsimp only at hSw); go_simp; (try with_reducible rfl))); (try simp only [Act.put, List.setIfInBounds_toArray, List.set_cons_zero, List.set_cons_succ])
    refine wpAnyH_take (i := 14) (oi := ⟨some 41, _, _, _, _, _⟩) (v := ?_) rfl (by kernel_rfl) (by kernel_rfl) (by kernel_rfl) (fun _ _ _ h => h) (Or.inl ⟨by rfl, ?_⟩) (by assumption) ?_; rotate_left; (focus (intro w hSw; (try dsimp only at hSw); go_simp; (try with_reducible rfl))); (try simp only [Act.put, List.setIfInBounds_toArray, List.set_cons_zero, List.set_cons_succ])
    refine wpAnyH_take (i := 15) (oi := ⟨some 42, _, _, _, _, _⟩) (v := ?_) rfl (by kernel_rfl) (by kernel_rfl) (by kernel_rfl) (fun _ _ _ h => h) (Or.inl ⟨by rfl, ?_⟩) (by assumption) ?_; rotate_left; (focus (intro w hSw; (try dsimp only at hSw); go_simp; (try with_reducible rfl))); (try simp only [Act.put, List.setIfInBounds_toArray, List.set_cons_zero, List.set_cons_succ])
    refine wpAnyH_take (i := 16) (oi := ⟨some 43, _, _, _, _, _⟩) (v := ?_) rfl (by kernel_rfl) (by kernel_rfl) (by kernel_rfl) (fun _ _ _ h => h) (Or.inl ⟨by rfl, ?_⟩) (by assumption) ?_; rotate_left; (focus (intro w hSw; (try dsimp only at hSw); go_simp; (try with_reducible rfl))); (try simp only [Act.put, List.setIfInBounds_toArray, List.set_cons_zero, List.set_cons_succ])
    refine wpAnyH_ready (rs := [2]) (by kernel_rfl) (by simp) ?_; refine AllReadyH.cons (o := ⟨some 29, _, _, _, _, _⟩) rfl (fun K hK => ?_) AllReadyH.nil; go_simp
    go_at_call 36
    refine (HCH.out w4.drew (by show w.heap.size ≤ w4.heap.size; omega) HI4.out).mono ?_
    rintro e w5 ⟨v5, rfl, ho5', hb5'⟩
    have hb5 : Below w4.heap.size w4 w5 := below_of_drew hb5'
    have ho5 : OwSS w4.heap.size w5.heap.size v5 ss.length ss w5 := ho5'
    rw [← HM.out] at ho5
    obtain ⟨A5, c5, rfl⟩ := ho5.form
    have hs5 := hb5.size
    have Z0 := Lib.hid (Y0.out.step hb5)
    have Z1 := Lib.hid (Y1.out.step hb5)
    have Z2 := Lib.hid (Y2.out.step hb5)
    have HB5 := Lib.hid (HB4.out.trans (hb5.mono (by omega)))
    have HG5 := Lib.hid ((HG4.out.below hb5 (by omega)).more (B' := w5.heap.size) (by omega))
    have HJ5 := Lib.hid ((HIJ.out.below hb5 (by omega)).more (B' := w5.heap.size) (by omega))
    have HK5 := Lib.hid ((HIK.out.below hb5 (by omega)).more (B' := w5.heap.size) (by omega))
    have HQ5 := Lib.hid (And.intro ((hb5.cell (p := ⟨b1, o1 + j, none⟩) (by simp; omega)).trans q1) ((hb5.cell (p := ⟨b1, o1 + k, none⟩) (by simp; omega)).trans q2))
    have HO5 := Lib.hid (ho5.mono (lo' := w.heap.size + 3) (by omega) (Nat.le_refl _))
    clear ho5 ho5' hb5 hb5' Y0 Y1 Y2 HB4 HG4 HI4 a1 a2 z0 q1 q2 HIJ HIK HE1 HG1
    have z0 := Z0.out.c 0 _ rfl
    have a1 := Z1.out.c 0 _ rfl
    have a2 := Z1.out.c 1 _ rfl
    have q1 := HQ5.out.1
    have q2 := HQ5.out.2
    refine hK.out _ _ ⟨z0, a1, a2, q1, q2⟩ (fun hHeld => ?_); clear hK K; (try simp only [Act.put, List.setIfInBounds_toArray, List.set_cons_zero, List.set_cons_succ])
    refine wpAnyH_take (i := 4) (oi := ⟨some 31, _, _, _, _, _⟩) (v := ?_) rfl (by kernel_rfl) (by kernel_rfl) (by kernel_rfl) (fun _ _ _ h => h) (Or.inl ⟨by rfl, ?_⟩) (by assumption) ?_; rotate_left; (focus (intro w hSw; (try dsimp only at hSw); go_simp; (try with_reducible rfl))); (try simp only [Act.put, List.setIfInBounds_toArray, List.set_cons_zero, List.set_cons_succ])
    refine wpAnyH_ready (rs := [17]) (by kernel_rfl) (by simp) ?_; refine AllReadyH.cons (o := ⟨some 44, _, _, _, _, _⟩) rfl (fun K hK => ?_) AllReadyH.nil; go_simp
    go_at_call 23
    refine (HCGD.out Bj nj cj Bk nk ck w5 HG5.out HNJ.out HJ5.out HNK.out HK5.out).mono ?_
    rintro e w7 ⟨v7, rfl, ho7, hb7⟩
    obtain ⟨A7, c7, rfl, _⟩ := OwnI.form ho7
    have hs7 := hb7.size
    have U0 := Lib.hid (Z0.out.step hb7)
    have U1 := Lib.hid (Z1.out.step hb7)
    have U2 := Lib.hid (Z2.out.step hb7)
    have HB7 := Lib.hid (HB5.out.trans (hb7.mono (by omega)))
    have HO7 := Lib.hid (OwSS.loc _ _ _ _ _ _ _ HO5.out fun q _ hq => hb7.block q (by omega))
    have HD7 : Hid (OwR w5.heap.size w7.heap.size 3 1 (.slice A7 D.length c7) D.length (D.map (Value.int .i64)) w7) := ⟨ho7, fun q hq => (ho7.lt q hq).2⟩
    have HQ7 := Lib.hid (And.intro ((hb7.cell (p := ⟨b1, o1 + j, none⟩) (by simp; omega)).trans q1) ((hb7.cell (p := ⟨b1, o1 + k, none⟩) (by simp; omega)).trans q2))
    clear z0 a1 a2 q1 q2 ho7 hb7 Z0 Z1 Z2 HB5 HO5 HG5 HJ5 HK5 HQ5
    have z0 := U0.out.c 0 _ rfl
    have a1 := U1.out.c 0 _ rfl
    have a2 := U1.out.c 1 _ rfl
    have q1 := HQ7.out.1
    have q2 := HQ7.out.2
    have y0 := U2.out.c 0 _ rfl
    have y1 := U2.out.c 1 _ rfl
    have y2 := U2.out.f 0
    have y3 := U2.out.f 1
    refine hK.out _ _ ⟨z0, a1, a2, q1, q2⟩ (fun hHeld => ?_); clear hK K; (try simp only [Act.put, List.setIfInBounds_toArray, List.set_cons_zero, List.set_cons_succ])
    refine wpAnyH_ready (rs := [18]) (by kernel_rfl) (by simp) ?_; refine AllReadyH.cons (o := ⟨none, _, _, _, _, _⟩) rfl (fun K hK => ?_) AllReadyH.nil; go_simp
    obtain ⟨W8, hW8⟩ : ∃ W, W = (w7.setCell ⟨w.heap.size + 2, 0, none⟩ (.slice A5 m c5)).setCell ⟨w.heap.size + 2, 1, none⟩ (.int .i64 k) := ⟨_, rfl⟩
    have t0 : W8.cell? ⟨w.heap.size, 0, none⟩ = some (.slice A n c) := by rw [hW8]; exact ((U0.out.other _ (by simp) _).other _ (by simp) _).c 0 _ rfl
    have t1 : W8.cell? ⟨w.heap.size + 1, 0, none⟩ = some (.slice (some ⟨b1, o1, none⟩) m c1) := by rw [hW8]; exact ((U1.out.other _ (by simp) _).other _ (by simp) _).c 0 _ rfl
    have t2 : W8.cell? ⟨w.heap.size + 1, 1, none⟩ = some (.int .i64 j) := by rw [hW8]; exact ((U1.out.other _ (by simp) _).other _ (by simp) _).c 1 _ rfl
    have t5 : W8.cell? ⟨b1, o1 + j, none⟩ = some (.slice Bj nj cj) := by rw [hW8, World.cell?_setCell_other _ _ _ _ (by simp; try omega), World.cell?_setCell_other _ _ _ _ (by simp; try omega)]; exact q1
    have t6 : W8.cell? ⟨b1, o1 + k, none⟩ = some (.slice Bk nk ck) := by rw [hW8, World.cell?_setCell_other _ _ _ _ (by simp; try omega), World.cell?_setCell_other _ _ _ _ (by simp; try omega)]; exact q2
    have HR8 : Hid (Bx (w.heap.size + 2) [.slice A5 m c5, .int .i64 k] W8) := by rw [hW8]; exact (U2.out.set 0 (by simp) _).set 1 (by simp) _
    have HO8 : Hid (OwSS (w.heap.size + 3) w5.heap.size (.slice A5 m c5) m ss W8) := by rw [hW8]; exact (HO7.out.setCell (by simp) _).setCell (by simp) _
    have HD8 : Hid (OwR w5.heap.size w7.heap.size 3 1 (.slice A7 D.length c7) D.length (D.map (Value.int .i64)) W8) := by
      rw [hW8]
      exact ⟨ownsRow_setCell_below (ownsRow_setCell_below HD7.out.1 (by simp; omega) _) (by simp; omega) _, HD7.out.2⟩
    have HB8 : Hid (Below w.heap.size w W8) := by rw [hW8]; exact (HB7.out.setCell (by simp) _).setCell (by simp) _
    have hs8 : W8.heap.size = w7.heap.size := by rw [hW8]; simp [World.setCell]
    rw [← hW8]
    clear hW8 U0 U1 U2 HO7 HD7 HB7 z0 a1 a2 q1 q2 y0 y1 y2 y3 HQ7
    refine hK.out _ _ ⟨t0, t1, t2, t5, t6⟩ (fun hHeld => ?_); clear hK K; (try simp only [Act.put, List.setIfInBounds_toArray, List.set_cons_zero, List.set_cons_succ])
    refine wpAnyH_ready (rs := [19]) (by kernel_rfl) (by simp) ?_; refine AllReadyH.cons (o := ⟨some 7, _, _, _, _, _⟩) rfl (fun K hK => ?_) AllReadyH.nil; go_simp
    refine hK.out _ _ ⟨t0, t1, t2, t5, t6⟩ (fun hHeld => ?_); clear hK K; (try simp only [Act.put, List.setIfInBounds_toArray, List.set_cons_zero, List.set_cons_succ])
    refine wpAnyH_ready (rs := [20]) (by kernel_rfl) (by simp) ?_; refine AllReadyH.cons (o := ⟨some 8, _, _, _, _, _⟩) rfl (fun K hK => ?_) AllReadyH.nil; go_simp
    refine hK.out _ _ ⟨t0, t1, t2, t5, t6⟩ (fun hHeld => ?_); clear hK K; (try simp only [Act.put, List.setIfInBounds_toArray, List.set_cons_zero, List.set_cons_succ])
    refine wpAnyH_done (by kernel_rfl) ?_ _
    have x0 := HR8.out.c 0 _ rfl
    have x1 := HR8.out.c 1 _ rfl
    go_wp2
    refine bodyPost_ret (v := .tuple #[.agg #[.slice A5 m c5, .int .i64 k], .slice A7 D.length c7, .bool true]) (by simp [results, Try.results16, go_sem, x0, x1]) rfl ?_
    have ho := HO8.out.mono (lo' := w.heap.size) (hi' := w5.heap.size) (by omega) (Nat.le_refl _)
    have hd : OwR w5.heap.size W8.heap.size 3 1 (.slice A7 D.length c7) D.length (D.map (Value.int .i64)) W8 := by rw [hs8]; exact HD8.out
    exact ⟨A5, m, c5, A7, D.length, c7, w5.heap.size, rfl, rfl, ho, hd, by omega, by omega, HB8.out⟩
end Go.Proofs.Ytfooafnfdeofoaa
