/- Words and contracts for memory that the texts behind use. -/
import Derived.Test.YtdhjflhpenkchaaH0a
import Derived.Test.YtdhjflhpenkchaaH0b
import Derived.Test.YtdhjflhpenkchaaH0
import Derived.Test.YtdhjflhpenkchaaH1
import Derived.Test.YtdhjflhpenkchaaH2
import Derived.Test.YtdhjflhpenkchaaH3
import Derived.WalkKit
import Derived.Laws.OwnMore
import Derived.Deep.Draws
import Derived.Test.YtdhjflhpenkchaaProg
import Derived.WalkSpells
import Derived.WalkLawsBesides
import Derived.Outline
import Derived.Lib.Hide
import Derived.BigQuiet
import Derived.Deep.QuietTactic
import Derived.StillTailTactics
import Derived.Deep.LoopGhost
import Derived.Laws.MakeOwn
import Derived.WalkSmall
import Derived.RegionTactic
import Derived.BigRegion
import Derived.Deep.RegionWith
import Derived.Deep.RegionHeld3
import Derived.Laws.Entries
import Derived.Laws.Bits64
import Derived.IntWalk
import Derived.Maps.AppendAt
import Derived.Deep.RegionLaw
import Derived.Deep.AppendLies
import Derived.Deep.Cut
import Derived.Deep.DeepCutAuto
import Derived.Maps.Own
import Derived.Maps.Views
import Derived.Laws.CopyOwn
import Derived.ChangeAlike

namespace Go.Proofs.Ytdhjflhpenkchaa
set_option linter.unusedSimpArgs false
set_option linter.unusedVariables false
open Go.RowKit
/-- No part below. -/
def noneB (a b c : Int) : Bool := a == -1 && b == -1 && c == -1
set_option maxHeartbeats 400000 in
theorem impl_inRange (n m : Int) (w : World) :
    Calls Try.prog 99 #[.int .i64 n, .int .i64 m] w fun e w' => e = .returned (.bool (rng n 0 m)) ∧ w = w' := by
  go_enter Try.func99, Try.ntmps99
  go_wp2
  all_goals
    go_ret
    exact ⟨ret_b (by unfold rng; simp; try omega), rfl⟩
set_option maxHeartbeats 800000 in
theorem impl_hasNoneBelow (k a b c n : Int) (w : World) :
    Calls Try.prog 121 #[.agg #[.int .i64 k, .int .i64 a, .int .i64 b, .int .i64 c, .int .i64 n]] w fun e w' => e = .returned (.bool (noneB a b c)) ∧ Below w.heap.size w w' := by
  go_enter Try.func121, Try.ntmps121
  go_wp2
  all_goals
    go_ret
    exact ⟨ret_b (by simp [noneB, *]), (Below.refl _ _).alloc (Nat.le_refl _) _⟩
end Go.Proofs.Ytdhjflhpenkchaa

namespace Go.Proofs.Ytdhjflhpenkchaa
set_option linter.unusedSimpArgs false
set_option linter.unusedVariables false
open Go.RowKit
theorem below_bcell {W w1 : World} (hb : Below W.heap.size W w1) : (∀ b o, b < W.heap.size → w1.cell? ⟨b, o, none⟩ = W.cell? ⟨b, o, none⟩) ∧ (∀ b o, b < W.heap.size → w1.frozen? ⟨b, o, none⟩ = W.frozen? ⟨b, o, none⟩) :=
  ⟨fun b o h => hb.cell (p := ⟨b, o, none⟩) h, fun b o h => hb.frozen (p := ⟨b, o, none⟩) h⟩
end Go.Proofs.Ytdhjflhpenkchaa

namespace Go.Proofs.Ytdhjflhpenkchaa
set_option linter.unusedSimpArgs false
set_option linter.unusedVariables false
open Go.RowKit
def pbOk (p : Pt) : Bool :=
  if p.k == 0 then noneB p.a p.b p.c && rng p.n 0 99
  else if p.k == 1 then noneB p.a p.b p.c && rng p.n 0 9
  else if ar p.k == 2 then p.c == -1 && p.n == 0
  else if ar p.k == 3 then p.n == 0
  else false
def pbI (p : Pt) : List Int := if p.k == 8 || ar p.k == 2 then bel p else []
/-- Returns a fresh slice of numbers and a bool. -/
def RetIB (w : World) (xs : List Int) (b : Bool) (e : Ending) (w' : World) : Prop := ∃ v, e = .returned (.tuple #[v, .bool b]) ∧ OwnI w' w.heap.size v xs ∧ Below w.heap.size w w'
theorem retIB_lit {w w1 : World} (hb : Below w.heap.size w w1) (xs : List Int) (cs : Array Value) (n : Nat) (hn : n = xs.length) (hm : n ≤ maxLen) (hc : cs.toList = xs.map (Value.int .i64)) (b : Bool) (e : Ending)
    (he : e = .returned (.tuple #[.slice (some ⟨w1.heap.size, 0, none⟩) n n, .bool b])) : RetIB w xs b e (w1.alloc (.cells cs 3)) := by
  subst hn
  refine ⟨_, he, ?_, hb.alloc hb.size _⟩
  have h := World.ownsRow_lit (e := 3) (size := 1) w1 cs xs.length hb.size hm (by rw [← Array.length_toList, hc]; simp)
  rw [hc] at h
  exact h
theorem RetIB.drew {w w' : World} {xs : List Int} {b : Bool} {e : Ending} (h : RetIB w xs b e w') : RetIB w xs b e w'.drew := by
  obtain ⟨v, he, ho, hb⟩ := h
  exact ⟨v, he, ho, hb.drew⟩
theorem retIB_nil {w w1 : World} (hb : Below w.heap.size w w1) (b c : Bool) (hbc : b = c) : RetIB w [] c (.returned (.tuple #[.slice none 0 0, .bool b])) w1 := by
  subst hbc
  exact ⟨_, rfl, World.ownsRow_nil _ _ _ _, hb⟩
theorem ar_cases (k : Int) : k = 0 ∨ k = 1 ∨ k = 2 ∨ k = 3 ∨ k = 4 ∨ k = 5 ∨ k = 6 ∨ k = 7 ∨ k = 8 ∨ (k < 0 ∨ 8 < k) := by omega
theorem below_box {w w1 : World} {o : Obj} (hb : Below (w.alloc o).heap.size (w.alloc o) w1) : Below w.heap.size w w1 :=
  ((Below.refl _ _).alloc (Nat.le_refl _) o).trans (hb.mono (by simp))
set_option maxHeartbeats 1600000 in
theorem impl_partsBelow (p : Pt) (w : World) :
    Calls Try.prog 104 #[.agg #[.int .i64 p.k, .int .i64 p.a, .int .i64 p.b, .int .i64 p.c, .int .i64 p.n]] w fun e w' => RetIB w (pbI p) (pbOk p) e w' := by
  obtain ⟨k, a, b, c, n⟩ := p
  have hm : 3 ≤ maxLen := by unfold maxLen; omega
  have HM := Lib.hid hm
  clear hm
  rcases ar_cases k with rfl | rfl | rfl | rfl | rfl | rfl | rfl | rfl | rfl | hk
  · go_enter Try.func104, Try.ntmps104
    go_wp2_with (first | (go_at_call 99; refine (impl_inRange _ _ _).mono ?_; rintro e w' ⟨rfl, rfl⟩) | (go_at_call 121; refine (impl_hasNoneBelow _ _ _ _ _ _).mono ?_; rintro e w1 ⟨rfl, hb⟩; obtain ⟨hc, hf⟩ := below_bcell hb))
    all_goals
      go_ret2
      exact retIB_nil (below_box hb) _ _ (by simp [pbOk, *])
  · go_enter Try.func104, Try.ntmps104
    go_wp2_with (first | (go_at_call 99; refine (impl_inRange _ _ _).mono ?_; rintro e w' ⟨rfl, rfl⟩) | (go_at_call 121; refine (impl_hasNoneBelow _ _ _ _ _ _).mono ?_; rintro e w1 ⟨rfl, hb⟩; obtain ⟨hc, hf⟩ := below_bcell hb))
    all_goals
      go_ret2
      exact retIB_nil (below_box hb) _ _ (by simp [pbOk, *])
  · cases hcc : (c == -1)
    all_goals
      go_enter Try.func104, Try.ntmps104
      go_wp2_with (first | (go_at_call 99; refine (impl_inRange _ _ _).mono ?_; rintro e w' ⟨rfl, rfl⟩) | (go_at_call 121; refine (impl_hasNoneBelow _ _ _ _ _ _).mono ?_; rintro e w1 ⟨rfl, hb⟩; obtain ⟨hc, hf⟩ := below_bcell hb))
      go_region
      all_goals
        go_wp2
        go_ret2
        exact (retIB_lit ((Below.refl _ _).alloc (Nat.le_refl _) _) _ _ 2 rfl (by have := HM.out; omega) rfl _ _ (by simp [pbOk, ar, *])).drew
  · cases hcc : (c == -1)
    all_goals
      go_enter Try.func104, Try.ntmps104
      go_wp2_with (first | (go_at_call 99; refine (impl_inRange _ _ _).mono ?_; rintro e w' ⟨rfl, rfl⟩) | (go_at_call 121; refine (impl_hasNoneBelow _ _ _ _ _ _).mono ?_; rintro e w1 ⟨rfl, hb⟩; obtain ⟨hc, hf⟩ := below_bcell hb))
      go_region
      all_goals
        go_wp2
        go_ret2
        exact (retIB_lit ((Below.refl _ _).alloc (Nat.le_refl _) _) _ _ 2 rfl (by have := HM.out; omega) rfl _ _ (by simp [pbOk, ar, *])).drew
  · cases hcc : (c == -1)
    all_goals
      go_enter Try.func104, Try.ntmps104
      go_wp2_with (first | (go_at_call 99; refine (impl_inRange _ _ _).mono ?_; rintro e w' ⟨rfl, rfl⟩) | (go_at_call 121; refine (impl_hasNoneBelow _ _ _ _ _ _).mono ?_; rintro e w1 ⟨rfl, hb⟩; obtain ⟨hc, hf⟩ := below_bcell hb))
      go_region
      all_goals
        go_wp2
        go_ret2
        exact (retIB_lit ((Below.refl _ _).alloc (Nat.le_refl _) _) _ _ 2 rfl (by have := HM.out; omega) rfl _ _ (by simp [pbOk, ar, *])).drew
  · cases hcc : (c == -1)
    all_goals
      go_enter Try.func104, Try.ntmps104
      go_wp2_with (first | (go_at_call 99; refine (impl_inRange _ _ _).mono ?_; rintro e w' ⟨rfl, rfl⟩) | (go_at_call 121; refine (impl_hasNoneBelow _ _ _ _ _ _).mono ?_; rintro e w1 ⟨rfl, hb⟩; obtain ⟨hc, hf⟩ := below_bcell hb))
      go_region
      all_goals
        go_wp2
        go_ret2
        exact (retIB_lit ((Below.refl _ _).alloc (Nat.le_refl _) _) _ _ 2 rfl (by have := HM.out; omega) rfl _ _ (by simp [pbOk, ar, *])).drew
  · cases hcc : (c == -1)
    all_goals
      go_enter Try.func104, Try.ntmps104
      go_wp2_with (first | (go_at_call 99; refine (impl_inRange _ _ _).mono ?_; rintro e w' ⟨rfl, rfl⟩) | (go_at_call 121; refine (impl_hasNoneBelow _ _ _ _ _ _).mono ?_; rintro e w1 ⟨rfl, hb⟩; obtain ⟨hc, hf⟩ := below_bcell hb))
      go_region
      all_goals
        go_wp2
        go_ret2
        exact (retIB_lit ((Below.refl _ _).alloc (Nat.le_refl _) _) _ _ 2 rfl (by have := HM.out; omega) rfl _ _ (by simp [pbOk, ar, *])).drew
  · cases hcc : (c == -1)
    all_goals
      go_enter Try.func104, Try.ntmps104
      go_wp2_with (first | (go_at_call 99; refine (impl_inRange _ _ _).mono ?_; rintro e w' ⟨rfl, rfl⟩) | (go_at_call 121; refine (impl_hasNoneBelow _ _ _ _ _ _).mono ?_; rintro e w1 ⟨rfl, hb⟩; obtain ⟨hc, hf⟩ := below_bcell hb))
      go_region
      all_goals
        go_wp2
        go_ret2
        exact (retIB_lit ((Below.refl _ _).alloc (Nat.le_refl _) _) _ _ 2 rfl (by have := HM.out; omega) rfl _ _ (by simp [pbOk, ar, *])).drew
  · go_enter Try.func104, Try.ntmps104
    go_wp2_with (first | (go_at_call 99; refine (impl_inRange _ _ _).mono ?_; rintro e w' ⟨rfl, rfl⟩) | (go_at_call 121; refine (impl_hasNoneBelow _ _ _ _ _ _).mono ?_; rintro e w1 ⟨rfl, hb⟩; obtain ⟨hc, hf⟩ := below_bcell hb))
    go_region
    all_goals
      go_wp2
      go_ret2
      exact (retIB_lit ((Below.refl _ _).alloc (Nat.le_refl _) _) _ _ 3 rfl (by have := HM.out; omega) rfl _ _ (by simp [pbOk, ar, *])).drew
  · have k0 : (k == 0) = false := by simp; omega
    have k1 : (k == 1) = false := by simp; omega
    have k2 : (k == 2) = false := by simp; omega
    have k3 : (k == 3) = false := by simp; omega
    have k4 : (k == 4) = false := by simp; omega
    have k5 : (k == 5) = false := by simp; omega
    have k6 : (k == 6) = false := by simp; omega
    have k7 : (k == 7) = false := by simp; omega
    have k8 : (k == 8) = false := by simp; omega
    have ha : ar k = -1 := by unfold ar; rw [if_neg (by omega), if_neg (by omega), if_neg (by omega)]
    have H1 : pbI ⟨k, a, b, c, n⟩ = [] := by simp [pbI, k8, ha]
    have H2 : pbOk ⟨k, a, b, c, n⟩ = false := by simp [pbOk, k0, k1, ha]
    rw [H1, H2]
    clear ha H1 H2 hk
    go_enter Try.func104, Try.ntmps104
    go_wp2_with (first | (go_at_call 99; refine (impl_inRange _ _ _).mono ?_; rintro e w' ⟨rfl, rfl⟩) | (go_at_call 121; refine (impl_hasNoneBelow _ _ _ _ _ _).mono ?_; rintro e w1 ⟨rfl, hb⟩; obtain ⟨hc, hf⟩ := below_bcell hb))
    go_ret2
    exact retIB_nil ((Below.refl _ _).alloc (Nat.le_refl _) _) _ _ rfl
end Go.Proofs.Ytdhjflhpenkchaa

namespace Go.Proofs.Ytdhjflhpenkchaa
set_option linter.unusedSimpArgs false
set_option linter.unusedVariables false
open Go.RowKit
theorem pbI_bel (p : Pt) : pbI p = bel p := by
  unfold pbI
  by_cases h8 : p.k = 8
  · simp [h8]
  · by_cases h2 : ar p.k = 2
    · simp [h2]
    · have h3 : ar p.k ≠ 3 := by
        unfold ar at h2 ⊢
        split
        · omega
        · split
          · omega
          · simp
      simp [h8, h2, bel, h3]
theorem good_iff (p : Pt) (i : Int) : goodPt p i = (pbOk p && decide (∀ b ∈ bel p, 0 ≤ b ∧ b ≤ i - 1)) := by
  by_cases h0 : p.k = 0
  · have : ar p.k = 0 := by simp [ar, h0]
    simp [goodPt, pbOk, h0, this, bel, noneB, ar]
  · by_cases h1 : p.k = 1
    · have : ar p.k = 0 := by simp [ar, h1]
      simp [goodPt, pbOk, h1, this, bel, noneB, ar]
    · have hn : ar p.k ≠ 0 := by
        unfold ar
        split
        · omega
        · split
          · omega
          · split <;> omega
      by_cases h2 : ar p.k = 2
      · simp [goodPt, pbOk, h0, h1, h2, bel, rng]
        rw [Bool.eq_iff_iff]
        simp
        constructor
        · rintro ⟨⟨⟨⟨a1, a2⟩, b1, b2⟩, c⟩, d⟩; exact ⟨⟨c, d⟩, ⟨a1, a2⟩, b1, b2⟩
        · rintro ⟨⟨c, d⟩, ⟨a1, a2⟩, b1, b2⟩; exact ⟨⟨⟨⟨a1, a2⟩, b1, b2⟩, c⟩, d⟩
      · by_cases h3 : ar p.k = 3
        · simp [goodPt, pbOk, h0, h1, h3, bel, rng]
          rw [Bool.eq_iff_iff]
          simp
          constructor
          · rintro ⟨⟨⟨⟨a1, a2⟩, b1, b2⟩, c1, c2⟩, d⟩; exact ⟨d, ⟨a1, a2⟩, ⟨b1, b2⟩, c1, c2⟩
          · rintro ⟨d, ⟨a1, a2⟩, ⟨b1, b2⟩, c1, c2⟩; exact ⟨⟨⟨⟨a1, a2⟩, b1, b2⟩, c1, c2⟩, d⟩
        · simp [goodPt, pbOk, h0, h1, h2, h3, hn]
theorem sum_counts_cons (x : Int) (L : List Int) (m : Nat) : ((List.range m).map fun i : Nat => (x :: L).count (i : Int)).sum = ((List.range m).map fun i : Nat => L.count (i : Int)).sum + if 0 ≤ x ∧ x < m then 1 else 0 := by
  induction m with
  | zero =>
    rw [if_neg (by omega)]; rfl
  | succ m ih =>
    rw [List.range_succ, List.map_append, List.sum_append, ih, List.map_append, List.sum_append]
    simp only [List.map_cons, List.map_nil, List.sum_cons, List.sum_nil, List.count_cons]
    by_cases e : x = (m : Int)
    · subst e
      have e1 : ¬ (0 ≤ (m : Int) ∧ (m : Int) < (m : Int)) := by omega
      have e2 : 0 ≤ (m : Int) ∧ (m : Int) < ((m + 1 : Nat) : Int) := by omega
      rw [if_neg e1, if_pos e2]
      simp; omega
    · have : ((x == (m : Int)) = true) = False := by simp [e]
      simp only [this, if_false]
      by_cases h : 0 ≤ x ∧ x < (m : Int)
      · rw [if_pos h, if_pos (by omega)]; omega
      · rw [if_neg h, if_neg (by omega)]; omega
theorem sum_counts (L : List Int) (m : Nat) (h : ∀ x ∈ L, 0 ≤ x ∧ x < (m : Int)) : ((List.range m).map fun i : Nat => L.count (i : Int)).sum = L.length := by
  induction L with
  | nil =>
    clear h
    induction m with
    | zero => rfl
    | succ m ih => rw [List.range_succ, List.map_append, List.sum_append, ih]; simp
  | cons x L ih =>
    rw [sum_counts_cons, ih fun y hy => h y (List.mem_cons_of_mem _ hy), if_pos (h x List.mem_cons_self)]; simp
theorem sum_ones (f : Nat → Nat) (m : Nat) (h : ∀ i, i < m → f i ≤ 1) : ((List.range m).map f).sum ≤ m ∧ (((List.range m).map f).sum = m ↔ ∀ i, i < m → f i = 1) := by
  induction m with
  | zero => simp
  | succ m ih =>
    obtain ⟨h1, h2⟩ := ih fun i hi => h i (by omega)
    have h3 := h m (by omega)
    rw [List.range_succ, List.map_append, List.sum_append]
    simp only [List.map_cons, List.map_nil, List.sum_cons, List.sum_nil]
    refine ⟨by omega, fun e => ?_, fun e => ?_⟩
    · have hm : ((List.range m).map f).sum = m := by omega
      have := h2.1 hm
      intro i hi
      rcases Nat.lt_or_ge i m with hlt | hge
      · exact this i hlt
      · obtain rfl : i = m := by omega
        omega
    · have := h2.2 fun i hi => e i (by omega)
      have := e m (by omega)
      omega
theorem marks_fin (L : List Int) (m : Nat) (hn : L.Nodup) (h : ∀ x ∈ L, 0 ≤ x ∧ x < (m : Int)) : L.length = m ↔ ∀ i, i < m → L.count (i : Int) = 1 := by
  have h1 := sum_ones (fun i : Nat => L.count (i : Int)) m fun i _ => by
    exact List.nodup_iff_count.1 hn _
  rw [← sum_counts L m h]
  exact h1.2
theorem validF_dup (ps : List Pt) (k m : Nat) (h : k < ps.length) (hm : m < (bel (ps.getD k default)).length) (t : Nat) (ht : (bel (ps.getD k default)).getD m 0 = (t : Int)) (htk : t < k)
    (hin : (t : Int) ∈ (ps.take k).flatMap bel ++ (bel (ps.getD k default)).take m) : validF ps = false := by
  refine validF_cnt ps t (by omega) ?_
  have hsplit : ps = ps.take (k + 1) ++ ps.drop (k + 1) := (List.take_append_drop _ _).symm
  have h1 : (ps.flatMap bel).count (t : Int) = ((ps.take (k + 1)).flatMap bel).count (t : Int) + ((ps.drop (k + 1)).flatMap bel).count (t : Int) := by
    conv => lhs; rw [hsplit]
    rw [List.flatMap_append, List.count_append]
  have h2 := take_flat ps k h
  have h3 : bel (ps.getD k default) = (bel (ps.getD k default)).take m ++ (bel (ps.getD k default)).drop m := (List.take_append_drop _ _).symm
  have h4 : (t : Int) ∈ (bel (ps.getD k default)).drop m := by
    rw [List.drop_eq_getElem_cons hm]
    refine List.mem_cons.2 (.inl ?_)
    rw [← ht]
    generalize bel (ps.getD k default) = M at *
    simp [List.getD, hm]
  have h5 : ((ps.take (k + 1)).flatMap bel).count (t : Int) = ((ps.take k).flatMap bel ++ (bel (ps.getD k default)).take m).count (t : Int) + ((bel (ps.getD k default)).drop m).count (t : Int) := by
    rw [h2]
    conv => lhs; rw [h3]
    rw [← List.append_assoc, List.count_append]
  have h6 := List.count_pos_iff.2 hin
  have h7 := List.count_pos_iff.2 h4
  omega
theorem take_succ_int (M : List Int) (m : Nat) (x : Int) (h : m < M.length) (hx : M.getD m 0 = x) : M.take (m + 1) = M.take m ++ [x] := by
  rw [List.take_succ_eq_append_getElem h, ← hx]; simp [List.getD, h]
/-- With good parts and no number twice: valid exactly if there are as many below as there are parts but one. -/
theorem validF_marks (ps : List Pt) (h1 : 1 ≤ ps.length) (h12 : ps.length ≤ 12) (hg : ∀ i, i < ps.length → goodPt (ps.getD i default) i = true) (hd : (ps.flatMap bel).Nodup) :
    validF ps = ((((ps.flatMap bel).length : Nat) : Int) == (ps.length : Int) - 1) := by
  have hr : ∀ x ∈ ps.flatMap bel, 0 ≤ x ∧ x < ((ps.length - 1 : Nat) : Int) := by
    intro x hx
    obtain ⟨p, hp, hxp⟩ := List.mem_flatMap.1 hx
    obtain ⟨i, hi, rfl⟩ := List.mem_iff_getElem.1 hp
    have := hg i hi
    rw [show ps.getD i default = ps[i] by simp [List.getD, hi]] at this
    have := good_bel _ _ this x hxp
    omega
  have hm := marks_fin _ _ hd hr
  have hrng : rng ps.length 1 12 = true := by simp [rng]; omega
  have hgd : decide (∀ i, i < ps.length → goodPt (ps.getD i default) i = true) = true := decide_eq_true hg
  unfold validF
  rw [hgd, hrng, Bool.eq_iff_iff]
  simp only [Bool.true_and, Bool.and_true, decide_eq_true_eq, beq_iff_eq]
  rw [← hm]
  omega
end Go.Proofs.Ytdhjflhpenkchaa

namespace Go.Proofs.Ytdhjflhpenkchaa
set_option linter.unusedSimpArgs false
set_option linter.unusedVariables false
open Go.RowKit
theorem below_of_drew {C : Nat} {w w' : World} (h : Below C w.drew w') : Below C w w' := ⟨h.os, h.tape, h.output, h.size, h.block⟩
inductive Tm where
  | num (v : Int)
  | rd (v : Int)
  | pr (k : Int) (l r : Tm)
  | ch (t a b : Tm)
/-- The term of the part at an index; the number bounds how deep one goes. -/
def tmAt (ps : List Pt) : Nat → Nat → Tm
  | 0, _ => .num 0
  | f + 1, i =>
    let p := ps.getD i default
    if p.k == 0 then .num p.n
    else if p.k == 1 then .rd p.n
    else if p.k == 8 then .ch (tmAt ps f p.a.toNat) (tmAt ps f p.b.toNat) (tmAt ps f p.c.toNat)
    else .pr p.k (tmAt ps f p.a.toNat) (tmAt ps f p.b.toNat)
end Go.Proofs.Ytdhjflhpenkchaa

namespace Go.Proofs.Ytdhjflhpenkchaa
set_option linter.unusedSimpArgs false
set_option linter.unusedVariables false
open Go.RowKit
/-- Twelve marks: which numbers stand in the list. -/
def Mrk (w : World) (g : Nat) (L : List Int) : Prop :=
  g < w.heap.size ∧ ∀ t : Nat, t < 12 → w.cell? ⟨g, t, none⟩ = some (.bool (decide ((t : Int) ∈ L))) ∧ w.frozen? ⟨g, t, none⟩ = false
theorem Mrk.below {w w' : World} {g : Nat} {L : List Int} (h : Mrk w g L) (hb : Below w.heap.size w w') : Mrk w' g L :=
  ⟨Nat.lt_of_lt_of_le h.1 hb.size, fun t ht => ⟨(hb.cell (p := ⟨g, t, none⟩) h.1).trans (h.2 t ht).1, (hb.frozen (p := ⟨g, t, none⟩) h.1).trans (h.2 t ht).2⟩⟩
theorem Mrk.set {w : World} {g : Nat} {L : List Int} (h : Mrk w g L) (t : Nat) (ht : t < 12) : Mrk (w.setCell ⟨g, t, none⟩ (.bool true)) g (L ++ [(t : Int)]) := by
  refine ⟨by simpa [World.setCell] using h.1, fun j hj => ?_⟩
  obtain ⟨h1, h2⟩ := h.2 j hj
  by_cases e : j = t
  · subst e
    refine ⟨?_, by simpa using h2⟩
    rw [World.cell?_setCell_same _ _ _ h1]; try simp
  · refine ⟨?_, by simpa using h2⟩
    rw [World.cell?_setCell_other _ _ _ _ (by intro e'; simp at e'; try omega), h1]
    have : ((j : Int) = (t : Int)) = False := by simp; omega
    simp [this]
set_option maxRecDepth 100000 in
set_option maxHeartbeats 1600000 in
theorem impl_ValidFormula (A : Option Addr) (n c : Nat) (ps : List Pt) (w : World) (B : Nat) (hB : B ≤ w.heap.size) (hn : n = ps.length) (h : PS w B A ps) (hs : n ≤ 2000000) :
    Calls Try.prog 61 #[.agg #[.slice A n c]] w fun e w' => e = .returned (.bool (validF ps)) ∧ Below w.heap.size w w' := by
  by_cases h1 : n < 1
  · have hf : validF ps = false := by
      unfold validF rng
      have : ¬ (1 ≤ (ps.length : Int) ∧ (ps.length : Int) ≤ 12) := by omega
      simp [this]
    rw [hf]
    clear hn h hf
    go_enter Try.func61, Try.ntmps61
    go_wp2
    go_ret
    exact ⟨rfl, (Below.refl _ _).alloc (Nat.le_refl _) _⟩
  by_cases h12 : 12 < n
  · have hf : validF ps = false := by
      unfold validF rng
      have : ¬ (1 ≤ (ps.length : Int) ∧ (ps.length : Int) ≤ 12) := by omega
      simp [this]
    rw [hf]
    clear hn h hf
    go_enter Try.func61, Try.ntmps61
    go_wp2
    go_ret
    exact ⟨rfl, (Below.refl _ _).alloc (Nat.le_refl _) _⟩
  have H := Lib.hid h
  have HN := Lib.hid hn
  clear hn h
  go_enter Try.func61, Try.ntmps61
  go_wp2
  go_loopw [24, 4] (fun i u wr => ∃ k : Nat, k ≤ n ∧ i = .int .i64 k ∧ u = .int .i64 (((ps.take k).flatMap bel).length : Nat) ∧ Hid (Mrk wr (w.heap.size + 1) ((ps.take k).flatMap bel)) ∧ Hid (((ps.take k).flatMap bel).Nodup) ∧ Hid (∀ j, j < k → goodPt (ps.getD j default) j = true) ∧ Below (w.heap.size + 1) (w.alloc (.cells #[.slice A n c] 36)) wr) (fun i _ _ => n - (intOf i).toNat)
  case atStart =>
    refine ⟨0, Nat.zero_le _, rfl, rfl, ⟨by simp, fun t ht => ?_⟩, List.nodup_nil, by intro j hj; omega, (Below.refl _ _).alloc (by simp) _⟩
    have ht' : t = 0 ∨ t = 1 ∨ t = 2 ∨ t = 3 ∨ t = 4 ∨ t = 5 ∨ t = 6 ∨ t = 7 ∨ t = 8 ∨ t = 9 ∨ t = 10 ∨ t = 11 := by omega
    rcases ht' with rfl | rfl | rfl | rfl | rfl | rfl | rfl | rfl | rfl | rfl | rfl | rfl <;> exact ⟨by go_simp, by go_simp⟩
  case round =>
    obtain ⟨k, hk, rfl, rfl, HM, HD, HG, hb⟩ := hrel
    have hbox : wr.cell? ⟨w.heap.size, 0, none⟩ = some (.slice A n c) := (hb.cell (p := ⟨w.heap.size, 0, none⟩) (by simp)).trans (by go_simp)
    have hgs : w.heap.size + 1 < wr.heap.size := HM.out.1
    have hfl : ((ps.take k).flatMap bel).length ≤ 36 := by
      have h2 := flat_len (ps.take k)
      have h3 : (ps.take k).length ≤ k := List.length_take_le _ _
      omega
    by_cases hlt : k < n
    · obtain ⟨b, off, rfl, hbB, hc⟩ := H.out (by have := HN.out; omega)
      obtain ⟨c0, c1, c2, c3, c4⟩ := hc k (by have := HN.out; omega)
      clear hc
      have hbw : b < w.heap.size := by omega
      have hbr : b < wr.heap.size := by omega
      have b0 := ((hb.cell (p := ⟨b, off + k * 5, none⟩) (by simp; omega)).trans (World.cell?_alloc_lt _ _ _ (by simpa using hbw))).trans c0
      have b1 := ((hb.cell (p := ⟨b, off + k * 5 + 1, none⟩) (by simp; omega)).trans (World.cell?_alloc_lt _ _ _ (by simpa using hbw))).trans c1
      have b2 := ((hb.cell (p := ⟨b, off + k * 5 + 2, none⟩) (by simp; omega)).trans (World.cell?_alloc_lt _ _ _ (by simpa using hbw))).trans c2
      have b3 := ((hb.cell (p := ⟨b, off + k * 5 + 3, none⟩) (by simp; omega)).trans (World.cell?_alloc_lt _ _ _ (by simpa using hbw))).trans c3
      have b4 := ((hb.cell (p := ⟨b, off + k * 5 + 4, none⟩) (by simp; omega)).trans (World.cell?_alloc_lt _ _ _ (by simpa using hbw))).trans c4
      clear c0 c1 c2 c3 c4 H
      generalize hp : ps.getD k default = p at *
      have HP := Lib.hid hp
      clear hp
      generalize hF : (ps.take k).flatMap bel = Fk at *
      have HF := Lib.hid hF
      clear hF
      go_wp2_with fail
      refine (impl_partsBelow p _).mono ?_
      rintro e w2 ⟨v, rfl, hown, hb2⟩
      obtain ⟨A2, c2, rfl, hI⟩ := hown.form
      clear hI
      rw [pbI_bel] at hown ⊢
      have HO := Lib.hid hown
      have HM2 : Hid (Mrk w2 (w.heap.size + 1) (Fk ++ (bel p).take 0)) := by
        have := (HM.out.below ((Below.refl _ _).alloc (Nat.le_refl _) _)).below hb2
        simpa [Hid] using this
      have hbw2 := (hb.alloc (by omega) _).trans (hb2.mono (by simp; omega))
      clear hown HM hb b0 b1 b2 b3 b4
      cases hok : pbOk p
      · go_wp2
        go_ret
        refine ⟨ret_b ?_, ((Below.refl _ _).alloc (Nat.le_refl _) _).trans (hbw2.mono (by omega))⟩
        have hgf : goodPt p k = false := by rw [good_iff, hok]; rfl
        simp [validF_bad ps k (by have := HN.out; omega) (by rw [HP.out]; exact hgf)]
      · have HOK := Lib.hid hok
        clear hok
        generalize hL : (bel p).length = L at *
        have HL := Lib.hid hL
        have hL3 : L ≤ 3 := by rw [← hL]; exact bel_len p
        clear hL hbox
        go_wp2
        go_loopw [38, 4] (fun i u wi => ∃ m : Nat, m ≤ L ∧ i = .int .i64 m ∧ u = .int .i64 ((Fk.length + m : Nat)) ∧ Hid (Mrk wi (w.heap.size + 1) (Fk ++ (bel p).take m)) ∧ Hid ((Fk ++ (bel p).take m).Nodup) ∧ Hid (∀ x ∈ (bel p).take m, 0 ≤ x ∧ x ≤ (k : Int) - 1) ∧ Hid (wi.ownsRow (wr.heap.size + 1) 3 1 (.slice A2 L c2) L ((bel p).map (Value.int .i64))) ∧ Hid (Below (w.heap.size + 1) w2 wi)) (fun i _ _ => L - (intOf i).toNat)
        case atStart => exact ⟨0, Nat.zero_le _, rfl, rfl, HM2.out, by simpa [Hid] using HD.out, by simp [Hid], by have := HO.out; simp only [OwnI, World.size_alloc] at this; rw [HL.out] at this; exact this, Below.refl _ _⟩
        case round =>
          clear HM2 HO
          obtain ⟨m, hm, rfl, rfl, HM, HD2, HR, HO, HB⟩ := hrel
          by_cases hml : m < L
          · obtain ⟨b2, off2, rfl, hb2', hc2⟩ := (IS.of_own HO.out) (by have := HL.out; omega)
            have hx := hc2 m (by have := HL.out; omega)
            clear hc2
            generalize hxx : (bel p).getD m 0 = x at *
            have HX := Lib.hid hxx
            clear hxx
            cases hr : rng x 0 ((k : Int) - 1)
            · go_wp2_with (go_at_call 99; refine (impl_inRange _ _ _).mono ?_; rintro e w' ⟨rfl, rfl⟩)
              go_ret
              refine ⟨ret_b ?_, ((Below.refl _ _).alloc (Nat.le_refl _) _).trans ((hbw2.trans HB.out).mono (by omega))⟩
              have hgf : goodPt p k = false := by
                cases hgg : goodPt p k
                · rfl
                · have := good_bel p k hgg x (by rw [← HX.out]; simp [List.getD, show m < (bel p).length by have := HL.out; omega])
                  simp [rng] at hr
                  omega
              simp [validF_bad ps k (by have := HN.out; omega) (by rw [HP.out]; exact hgf)]
            · obtain ⟨t, rfl⟩ : ∃ t : Nat, x = (t : Int) := ⟨x.toNat, by simp [rng] at hr; omega⟩
              have htk : t < k := by simp [rng] at hr; omega
              obtain ⟨hu1, hu2⟩ := HM.out.2 t (by omega)
              cases hin : decide ((t : Int) ∈ Fk ++ (bel p).take m)
              · have HIN := Lib.hid hin
                rw [hin] at hu1
                clear hin
                go_wp2_with (go_at_call 99; refine (impl_inRange _ _ _).mono ?_; rintro e w' ⟨rfl, rfl⟩)
                go_roundw
                case rel =>
                  have hts := take_succ_int (bel p) m _ (by have := HL.out; omega) HX.out
                  have hn0 := HM.out.set t (by omega)
                  have hnm : ¬ (t : Int) ∈ Fk ++ (bel p).take m := of_decide_eq_false HIN.out
                  have hown := ownsRow_setCell_below HO.out (a := ⟨w.heap.size + 1, t, none⟩) (by simp; try omega) (.bool true)
                  refine ⟨m + 1, by omega, by go_num, by go_num, ?_, ?_, ?_, hown, HB.out.setCell (p := ⟨w.heap.size + 1, t, none⟩) (by simp) _⟩
                  · rw [hts, ← List.append_assoc]; exact hn0
                  · rw [hts, ← List.append_assoc]
                    refine List.nodup_append.2 ⟨HD2.out, by simp, ?_⟩
                    intro a ha b hb e
                    simp at hb
                    subst hb
                    subst e
                    exact hnm ha
                  · rw [hts]
                    intro y hy
                    rcases List.mem_append.1 hy with hy | hy
                    · exact HR.out y hy
                    · simp at hy; omega
                case measure => simp [intOf]; omega
              · have HIN := Lib.hid hin
                rw [hin] at hu1
                clear hin
                go_wp2_with (go_at_call 99; refine (impl_inRange _ _ _).mono ?_; rintro e w' ⟨rfl, rfl⟩)
                go_ret
                refine ⟨ret_b ?_, ((Below.refl _ _).alloc (Nat.le_refl _) _).trans ((hbw2.trans HB.out).mono (by omega))⟩
                have hfd : validF ps = false := by
                  refine validF_dup ps k m (by have := HN.out; omega) (by rw [HP.out]; have := HL.out; omega) t (by rw [HP.out]; exact HX.out) htk ?_
                  rw [HF.out, HP.out]
                  exact of_decide_eq_true HIN.out
                simp [hfd]
          · go_wp2
            go_roundw
            case rel =>
              have hf := take_flat ps k (by have := HN.out; omega)
              rw [HP.out, HF.out] at hf
              have hmL : m = L := by omega
              have htm : (bel p).take m = bel p := List.take_of_length_le (by have := HL.out; omega)
              have hlen : ((Fk.length + m : Nat)) = ((ps.take (k + 1)).flatMap bel).length := by rw [hf, List.length_append, HL.out, hmL]
              refine ⟨k + 1, by omega, by go_num, by rw [← hlen]; try go_num, ?_, ?_, ?_, hbw2.trans HB.out⟩
              · rw [hf]; have := HM.out; rwa [htm] at this
              · rw [hf]; have := HD2.out; rwa [htm] at this
              · intro j hj
                rcases Nat.lt_or_ge j k with h1 | h1
                · exact HG.out j h1
                · obtain rfl : j = k := by omega
                  rw [HP.out, good_iff, HOK.out, Bool.true_and]
                  have := HR.out
                  rw [htm] at this
                  exact decide_eq_true this
            case measure => simp [intOf]; omega
    · obtain rfl : k = n := by omega
      rw [List.take_of_length_le (by have := HN.out; omega)] at HM HD hfl ⊢
      go_wp2
      go_ret
      refine ⟨ret_b ?_, ((Below.refl _ _).alloc (Nat.le_refl _) _).trans (hb.mono (by omega))⟩
      have hkn := HN.out
      rw [validF_marks ps (by omega) (by omega) (fun i hi => HG.out i (by omega)) HD.out, ← hkn]
      try simp
end Go.Proofs.Ytdhjflhpenkchaa

namespace Go.Proofs.Ytdhjflhpenkchaa
set_option linter.unusedSimpArgs false
set_option linter.unusedVariables false
open Go.RowKit
def Tm.deep : Tm → Nat
  | .num _ => 1
  | .rd _ => 1
  | .pr _ l r => max l.deep r.deep + 1
  | .ch t a b => max (max t.deep a.deep) b.deep + 1
end Go.Proofs.Ytdhjflhpenkchaa

namespace Go.Proofs.Ytdhjflhpenkchaa
set_option linter.unusedSimpArgs false
set_option linter.unusedVariables false
open Go.RowKit
/-- The first index of a number, -1 if it is not there. -/
def plc (l : List Int) (x : Int) : Int := if x ∈ l then (l.idxOf x : Int) else -1
theorem plc_at (l : List Int) (x : Int) (k : Nat) (h : k < l.length) (hx : l.getD k 0 = x) (hn : ∀ j, j < k → l.getD j 0 ≠ x) : plc l x = k := by
  unfold plc
  have hm : x ∈ l := by rw [← hx]; simp [List.getD, h]
  rw [if_pos hm]
  congr 1
  apply Nat.le_antisymm
  · rcases Nat.lt_or_ge k (l.idxOf x) with h1 | h1
    · exfalso
      have h2 := List.not_of_lt_findIdx (p := (· == x)) (xs := l) (i := k) h1
      simp [List.getD, h] at hx
      simp [hx] at h2
    · exact h1
  · rcases Nat.lt_or_ge (l.idxOf x) k with h1 | h1
    · exfalso
      have h2 := List.getElem_idxOf (List.idxOf_lt_length_of_mem hm)
      have h3 := hn _ h1
      simp [List.getD, List.idxOf_lt_length_of_mem hm] at h3
    · exact h1
theorem plc_none (l : List Int) (x : Int) (hn : ∀ j, j < l.length → l.getD j 0 ≠ x) : plc l x = -1 := by
  unfold plc
  rw [if_neg]
  intro hm
  obtain ⟨k, hk, e⟩ := List.mem_iff_getElem.1 hm
  exact hn k hk (by simp [List.getD, hk, e])
set_option maxHeartbeats 400000 in
theorem spec_placeIn (A : Option Addr) (n c : Nat) (xs : List Int) (x : Int) (w : World) (B : Nat) (hB : B ≤ w.heap.size) (hn : n = xs.length) (h : IS w B A xs) (hs : n ≤ 2000000) :
    Calls Try.prog 97 #[.slice A n c, .int .i64 x] w fun e w' => e = .returned (.int .i64 (plc xs x)) ∧ w = w' := by
  have H := Lib.hid h
  have HN := Lib.hid hn
  clear hn h
  go_enter Try.func97, Try.ntmps97
  go_wp2
  go_loop [5] (fun i => ∃ k : Nat, k ≤ n ∧ i = .int .i64 k ∧ Hid (∀ j, j < k → xs.getD j 0 ≠ x)) (fun i => n - (intOf i).toNat)
  case atStart => exact ⟨0, Nat.zero_le _, rfl, fun j hj => by omega⟩
  case round =>
    obtain ⟨k, hk, rfl, HA⟩ := hrel
    by_cases hlt : k < n
    · obtain ⟨b, off, rfl, hbB, hc⟩ := H.out (by have := HN.out; omega)
      have c0 := hc k (by have := HN.out; omega)
      clear hc H
      generalize hp : xs.getD k 0 = p at *
      have HP := Lib.hid hp
      clear hp
      cases hr : (p == x)
      · have HR := Lib.hid hr
        go_wp2
        go_round
        case rel => exact ⟨k + 1, by omega, by go_num, fun j hj => by
          rcases Nat.lt_or_ge j k with h1 | h1
          · exact HA.out j h1
          · obtain rfl : j = k := by omega
            rw [HP.out]; simpa using HR.out⟩
        case measure => simp [intOf]; omega
      · have HR := Lib.hid hr
        go_wp2
        go_ret
        refine ⟨ret_i ?_, rfl⟩
        exact (plc_at xs x k (by have := HN.out; omega) (by rw [HP.out]; simpa using HR.out) HA.out).symm
    · go_wp2
      go_ret
      refine ⟨ret_i ?_, rfl⟩
      exact (plc_none xs x fun j hj => HA.out j (by have := HN.out; omega)).symm
end Go.Proofs.Ytdhjflhpenkchaa

namespace Go.Proofs.Ytdhjflhpenkchaa
set_option linter.unusedSimpArgs false
set_option linter.unusedVariables false
open Go.RowKit
def Tm.ok (m : Nat) : Tm → Prop
  | .num v => 0 ≤ v ∧ v ≤ 99
  | .rd v => 0 ≤ v ∧ v < (m : Int)
  | .pr _ l r => l.ok m ∧ r.ok m
  | .ch t a b => t.ok m ∧ a.ok m ∧ b.ok m
theorem good_num (p : Pt) (i : Int) (h : goodPt p i = true) : (p.k = 0 → 0 ≤ p.n ∧ p.n ≤ 99) ∧ (p.k = 1 → 0 ≤ p.n ∧ p.n ≤ 9) := by
  constructor
  · intro hk
    have e : ar p.k = 0 := by simp [ar, hk]
    unfold goodPt at h
    rw [e, hk] at h
    simp [rng] at h
    omega
  · intro hk
    have e : ar p.k = 0 := by simp [ar, hk]
    unfold goodPt at h
    rw [e, hk] at h
    simp [rng] at h
    omega
end Go.Proofs.Ytdhjflhpenkchaa

namespace Go.Proofs.Ytdhjflhpenkchaa
set_option linter.unusedSimpArgs false
set_option linter.unusedVariables false
def Tm.size : Tm → Nat
  | .num _ => 1
  | .rd _ => 1
  | .pr _ l r => l.size + r.size + 1
  | .ch t a b => t.size + a.size + b.size + 1
/-- The part of a term, for the parts below it at some indices. -/
def Tm.own : Tm → List Int → Pt
  | .num v, _ => ⟨0, -1, -1, -1, v⟩
  | .rd v, _ => ⟨1, -1, -1, -1, v⟩
  | .pr K _ _, at_ => ⟨K, at_.getD 0 0, at_.getD 1 0, -1, 0⟩
  | .ch _ _ _, at_ => ⟨8, at_.getD 0 0, at_.getD 1 0, at_.getD 2 0, 0⟩
end Go.Proofs.Ytdhjflhpenkchaa

namespace Go.Proofs.Ytdhjflhpenkchaa
set_option linter.unusedSimpArgs false
set_option linter.unusedVariables false
open Go.RowKit
/-- The whole of a formula as a term. -/
def whole (ps : List Pt) : Tm := tmAt ps ps.length (ps.length - 1)
end Go.Proofs.Ytdhjflhpenkchaa

namespace Go.Proofs.Ytdhjflhpenkchaa
set_option linter.unusedSimpArgs false
set_option linter.unusedVariables false
open Go.RowKit
/-- Ten marks: which nodes the first parts have. -/
def Mrk10 (w : World) (g : Nat) (ps : List Pt) : Prop :=
  g < w.heap.size ∧ ∀ t : Nat, t < 10 → w.cell? ⟨g, t, none⟩ = some (.bool (hasNode ps t)) ∧ w.frozen? ⟨g, t, none⟩ = false
theorem Mrk10.below {w w' : World} {g : Nat} {ps : List Pt} (h : Mrk10 w g ps) (hb : Below w.heap.size w w') : Mrk10 w' g ps :=
  ⟨Nat.lt_of_lt_of_le h.1 hb.size, fun t ht => ⟨(hb.cell (p := ⟨g, t, none⟩) h.1).trans (h.2 t ht).1, (hb.frozen (p := ⟨g, t, none⟩) h.1).trans (h.2 t ht).2⟩⟩
theorem hasNode_append (ps : List Pt) (p : Pt) (t : Nat) : hasNode (ps ++ [p]) t = (hasNode ps t || (p.k == 1 && p.n == (t : Int))) := by
  simp [hasNode, List.any_append]
theorem Mrk10.keep {w : World} {g : Nat} {ps : List Pt} {p : Pt} (h : Mrk10 w g ps) (hp : (p.k == 1) = false) : Mrk10 w g (ps ++ [p]) :=
  ⟨h.1, fun t ht => by rw [hasNode_append, hp]; simpa using h.2 t ht⟩
theorem Mrk10.set {w : World} {g : Nat} {ps : List Pt} {p : Pt} (h : Mrk10 w g ps) (q : Nat) (hq : q < 10) (hk : (p.k == 1) = true) (hn : p.n = (q : Int)) : Mrk10 (w.setCell ⟨g, q, none⟩ (.bool true)) g (ps ++ [p]) := by
  refine ⟨by simpa [World.setCell] using h.1, fun j hj => ?_⟩
  obtain ⟨h1, h2⟩ := h.2 j hj
  rw [hasNode_append, hk, hn]
  by_cases e : j = q
  · subst e
    refine ⟨?_, by simpa using h2⟩
    rw [World.cell?_setCell_same _ _ _ h1]; simp
  · refine ⟨?_, by simpa using h2⟩
    rw [World.cell?_setCell_other _ _ _ _ (by intro e'; simp at e'; try omega), h1]
    have : ((q : Int) == (j : Int)) = false := by simp; omega
    simp [this]
set_option maxRecDepth 100000 in
set_option maxHeartbeats 1600000 in
theorem impl_MayRead (A : Option Addr) (n c : Nat) (ps : List Pt) (w : World) (B : Nat) (hB : B ≤ w.heap.size) (hn : n = ps.length) (h : PS w B A ps) (hs : n ≤ 1999999) :
    Calls Try.prog 19 #[.agg #[.slice A n c]] w fun e w' => RetI w (mayF ps) e w' := by
  obtain ⟨i0, hi, hz0, hz1, hz2⟩ := info_parts info_int
  have H := Lib.hid h
  have HN := Lib.hid hn
  clear h hn
  cases hv : validF ps
  · have hd : mayF ps = [] := by simp [mayF, hv]
    rw [hd]
    have HV := Lib.hid hv
    clear hd hv
    go_enter Try.func19, Try.ntmps19
    go_wp2_with fail
    refine (impl_ValidFormula _ _ _ ps _ B (by simp; omega) HN.out (H.out.alloc hB _) (by omega)).mono ?_
    rintro e w1 ⟨rfl, hb⟩
    rw [HV.out]
    go_wp2
    go_ret
    exact ⟨_, rfl, World.ownsRow_nil _ _ _ _, ((Below.refl _ _).alloc (Nat.le_refl _) _).trans (hb.mono (by simp))⟩
  · have hd : mayF ps = mayR ps := by simp [mayF, hv]
    rw [hd]
    obtain ⟨hg, h1, h12⟩ := validF_good ps hv
    have HV := Lib.hid hv
    have HG := Lib.hid hg
    clear hd hv hg h1 h12
    go_enter Try.func19, Try.ntmps19
    go_wp2_with fail
    refine (impl_ValidFormula _ _ _ ps _ B (by simp; omega) HN.out (H.out.alloc hB _) (by omega)).mono ?_
    rintro e w1 ⟨rfl, hb⟩
    rw [HV.out]
    have hbox : w1.cell? ⟨w.heap.size, 0, none⟩ = some (.slice A n c) := (hb.cell (p := ⟨w.heap.size, 0, none⟩) (by simp)).trans (by go_simp)
    have HW := Lib.hid ((H.out.alloc hB _).below hb (by simp; omega))
    have hw1 : w.heap.size + 1 ≤ w1.heap.size := by have := hb.size; simpa using this
    have hB1 : Below w.heap.size w w1 := ((Below.refl _ _).alloc (Nat.le_refl _) _).trans (hb.mono (by simp))
    have hws : w.heap.size < w1.heap.size := by omega
    clear hb H
    go_wp2
    go_loopw [14] (fun i wr => ∃ k : Nat, k ≤ n ∧ i = .int .i64 k ∧ Hid (Mrk10 wr w1.heap.size (ps.take k)) ∧ Hid (Below w1.heap.size w1 wr)) (fun i _ => n - (intOf i).toNat)
    case atStart =>
      refine ⟨0, Nat.zero_le _, rfl, ⟨by simp, fun t ht => ?_⟩, below_new w1 _⟩
      have ht' : t = 0 ∨ t = 1 ∨ t = 2 ∨ t = 3 ∨ t = 4 ∨ t = 5 ∨ t = 6 ∨ t = 7 ∨ t = 8 ∨ t = 9 := by omega
      rcases ht' with rfl | rfl | rfl | rfl | rfl | rfl | rfl | rfl | rfl | rfl <;> exact ⟨by go_simp; rfl, by go_simp⟩
    case round =>
      obtain ⟨k, hk, rfl, HM, HB⟩ := hrel
      have hwr : w1.heap.size < wr.heap.size := HM.out.1
      by_cases hlt : k < n
      · obtain ⟨b, off, rfl, hbB, hc⟩ := HW.out (by have := HN.out; omega)
        obtain ⟨c0, c1, c2, c3, c4⟩ := hc k (by have := HN.out; omega)
        clear hc
        have hbw : b < w1.heap.size := by omega
        have b0 := (HB.out.cell (p := ⟨b, off + k * 5, none⟩) hbw).trans c0
        have b1 := (HB.out.cell (p := ⟨b, off + k * 5 + 1, none⟩) hbw).trans c1
        have b2 := (HB.out.cell (p := ⟨b, off + k * 5 + 2, none⟩) hbw).trans c2
        have b3 := (HB.out.cell (p := ⟨b, off + k * 5 + 3, none⟩) hbw).trans c3
        have b4 := (HB.out.cell (p := ⟨b, off + k * 5 + 4, none⟩) hbw).trans c4
        clear c0 c1 c2 c3 c4
        have hgk := HG.out k (by have := HN.out; omega)
        have HTS := Lib.hid (take_succ_getD ps k (by have := HN.out; omega))
        generalize ps.getD k default = p at *
        cases h1 : (p.k == 1)
        · have H1 := Lib.hid h1
          go_wp2
          go_roundw
          case rel => exact ⟨k + 1, by omega, by go_num, by rw [HTS.out]; exact (HM.out.below (below_new wr _)).keep H1.out, HB.out.alloc (by omega) _⟩
          case measure => simp [intOf]; omega
        · obtain ⟨q, hq⟩ : ∃ q : Nat, p.n = (q : Int) := by
            have := (good_num p k hgk).2 (by simpa using h1)
            exact ⟨p.n.toNat, by omega⟩
          have hq10 : q < 10 := by
            have := (good_num p k hgk).2 (by simpa using h1)
            omega
          have HMa := Lib.hid (HM.out.below (below_new wr (.cells #[.int .i64 p.k, .int .i64 p.a, .int .i64 p.b, .int .i64 p.c, .int .i64 p.n] 73)))
          rw [hq] at b4 HMa
          obtain ⟨hm1, hm2⟩ := HMa.out.2 q hq10
          have H1 := Lib.hid h1
          have HQ := Lib.hid hq
          clear hgk hq
          go_wp2
          go_roundw
          case rel => exact ⟨k + 1, by omega, by go_num, by rw [HTS.out]; exact (HM.out.set q hq10 H1.out HQ.out).below (below_new _ _), (HB.out.setCell (p := ⟨w1.heap.size, q, none⟩) (Nat.le_refl _) _).alloc (by simp [World.setCell]; omega) _⟩
          case measure => simp [intOf]; omega
      · obtain rfl : k = n := by omega
        rw [List.take_of_length_le (by have := HN.out; omega)] at HM
        clear hlt hk
        go_wp2
        go_loopw [6, 25] (fun v i wi => ∃ m : Nat, m ≤ 10 ∧ i = .int .i64 m ∧ Hid (OwnI wi (w1.heap.size + 1) v (((List.range m).filter (hasNode ps)).map fun m : Nat => (m : Int))) ∧ Hid (Below (w1.heap.size + 1) wr wi)) (fun _ i _ => 10 - (intOf i).toNat)
        case atStart => exact ⟨0, by omega, rfl, World.ownsRow_nil _ _ _ _, Below.refl _ _⟩
        case round =>
          obtain ⟨m, hm, rfl, HO, HBi⟩ := hrel
          by_cases hm10 : m < 10
          · have hc := (HBi.out.cell (p := ⟨w1.heap.size, m, none⟩) (by simp)).trans (HM.out.2 m hm10).1
            have HST := Lib.hid (mayR_step ps m)
            have hml := mayR_len ps m
            generalize hF : (((List.range m).filter (hasNode ps)).map fun m : Nat => (m : Int)) = F at *
            clear hF
            cases hh : hasNode ps m
            · rw [hh] at hc
              have HH := Lib.hid hh
              clear hh
              go_wp2
              go_roundw
              case rel => exact ⟨m + 1, by omega, by go_num, by rw [HST.out, HH.out]; simpa [Hid] using HO.out, HBi.out⟩
              case measure => simp [intOf]; omega
            · rw [hh] at hc
              have HH := Lib.hid hh
              clear hh
              obtain ⟨wi, hwi⟩ : ∃ wi : World, wi = wr := ⟨_, rfl⟩
              have hsz : w1.heap.size + 1 ≤ wi.heap.size := by have := HBi.out.size; rw [hwi]; omega
              rw [hwi] at hsz
              clear hwi
              go_wp2_with (at_builtin; refine wpList_append_own _ rfl _ _ 28 rfl (w1.heap.size + 1) 3 i0 (.int .i64 0) 1 8 Try.underlying28 hi hz0 hz1 hz2 rfl (by decide) _ _ _ rfl (HO.out.alloc _) ⟨_, 0, none⟩ 1 1 [.int .i64 m] rfl rfl (cell_one_new _ _ _) ?c2 ?c3 ?c4 ?c5 ?_)
              case c2 => intro u hu; simp at hu; subst hu; rfl
              case c3 => unfold maxLen; omega
              case c4 => omega
              case c5 => simp; omega
              intro v' w3 hown' hgrow _
              have hpos := (HO.out.alloc (.cells #[.int .i64 m] 3)).lt
              have HO' : Hid (OwnI w3 (w1.heap.size + 1) v' (((List.range (m + 1)).filter (hasNode ps)).map fun m : Nat => (m : Int))) := by
                rw [HST.out, HH.out]
                simpa [OwnI, Hid] using hown'
              have HB' := Lib.hid ((HBi.out.alloc hsz (.cells #[.int .i64 m] 3)).grown hgrow (by simp; omega) (fun q hq => (hpos q hq).1))
              clear hown' hgrow hpos
              go_wp2
              go_roundw
              case rel => exact ⟨m + 1, by omega, by go_num, HO'.out, HB'.out⟩
              case measure => simp [intOf]; omega
          · obtain rfl : m = 10 := by omega
            rw [mayR_below] at HO
            go_wp2
            go_ret
            exact ⟨_, rfl, own_mono HO.out (by omega), hB1.trans ((HB.out.trans (HBi.out.mono (by omega))).mono (by omega))⟩
theorem plc_ge (l : List Int) (x : Int) : decide (0 ≤ plc l x) = decide (x ∈ l) := by
  unfold plc
  by_cases h : x ∈ l
  · simp [h]
  · simp [h]
end Go.Proofs.Ytdhjflhpenkchaa

namespace Go.Proofs.Ytdhjflhpenkchaa
set_option linter.unusedSimpArgs false
set_option linter.unusedVariables false
open Go.RowKit
theorem validG_long (gs : List Nd) (h : 10 < gs.length) : validG gs = false := by
  unfold validG
  rw [decide_eq_false (p := gs.length ≤ 10) (by omega), Bool.and_false]
end Go.Proofs.Ytdhjflhpenkchaa

namespace Go.Proofs.Ytdhjflhpenkchaa
set_option linter.unusedSimpArgs false
set_option linter.unusedVariables false
open Go.RowKit
set_option maxHeartbeats 800000 in
theorem laws_equalInts (A A' : Option Addr) (n n' c c' : Nat) (a b : List Int) (w : World) (B : Nat) (hB : B ≤ w.heap.size) (hn : n = a.length) (hn' : n' = b.length) (h : IS w B A a) (h' : IS w B A' b) (hs : n ≤ 2000000) (hs' : n' ≤ 2000000) :
    Calls Try.prog 15 #[.slice A n c, .slice A' n' c'] w fun e w' => e = .returned (.bool (decide (a = b))) ∧ Below w.heap.size w w' := by
  by_cases hl : n = n'
  · have hne : ((n : Int) != (n' : Int)) = false := by simp [hl]
    have HL := Lib.hid hl
    have HN := Lib.hid hn
    have HN' := Lib.hid hn'
    have H := Lib.hid h
    have H' := Lib.hid h'
    clear hl hn hn' h h'
    go_enter Try.func15, Try.ntmps15
    go_wp2
    go_loopw [5] (fun i wr => ∃ k : Nat, k ≤ n ∧ i = .int .i64 k ∧ Hid (∀ j, j < k → a.getD j 0 = b.getD j 0) ∧ Below w.heap.size w wr) (fun i _ => n - (intOf i).toNat)
    case atStart => exact ⟨0, Nat.zero_le _, rfl, fun j hj => by omega, Below.refl _ _⟩
    case round =>
      obtain ⟨k, hk, rfl, HT, hb⟩ := hrel
      by_cases hlt : k < n
      · have hlt' : k < n' := by have := HL.out; omega
        obtain ⟨b1, off, rfl, hbB, hc⟩ := H.out (by have := HN.out; omega)
        obtain ⟨b2, off', rfl, hbB', hc'⟩ := H'.out (by have := HN'.out; omega)
        have d1 := hc k (by have := HN.out; omega)
        have d2 := hc' k (by have := HN'.out; omega)
        have e1 := (hb.cell (p := ⟨b1, off + k, none⟩) (by simp; omega)).trans d1
        have e2 := (hb.cell (p := ⟨b2, off' + k, none⟩) (by simp; omega)).trans d2
        clear hc hc' d1 d2 H H'
        have HNE : Hid (a.getD k 0 ≠ b.getD k 0 → decide (a = b) = false) := fun hh => by rw [decide_eq_false_iff_not]; rintro rfl; exact hh rfl
        have HEQ : Hid (a.getD k 0 = b.getD k 0 → ∀ j, j < k + 1 → a.getD j 0 = b.getD j 0) := fun hh j hj => by
          rcases Nat.lt_or_ge j k with h1 | h1
          · exact HT.out j h1
          · obtain rfl : j = k := by omega
            exact hh
        generalize a.getD k 0 = x at *
        generalize b.getD k 0 = y at *
        cases hxy : (x == y)
        · have hne2 : (x != y) = true := by simp [bne, hxy]
          have HF := Lib.hid (HNE.out (by simpa using hxy))
          clear hxy
          go_wp2
          go_region
          go_wp2
          go_ret
          exact ⟨ret_b HF.out.symm, hb.drew⟩
        · have hne2 : (x != y) = false := by simp [bne, hxy]
          have HF := Lib.hid (HEQ.out (by simpa using hxy))
          clear hxy
          go_wp2
          go_region
          go_wp2
          go_roundw
          case rel => exact ⟨k + 1, by omega, by go_num, HF.out, hb.drew⟩
          case measure => simp [intOf]; omega
      · obtain rfl : k = n := by omega
        go_wp2
        go_ret
        refine ⟨ret_b ?_, hb⟩
        symm
        apply decide_eq_true
        have h1 := HN.out
        have h2 := HN'.out
        have h3 := HL.out
        apply List.ext_getElem (by omega)
        intro j hj hj'
        have := HT.out j (by omega)
        simpa [List.getD, hj, hj'] using this
  · have hne : ((n : Int) != (n' : Int)) = true := by simp; omega
    have hf : decide (a = b) = false := by rw [decide_eq_false_iff_not]; rintro rfl; omega
    rw [hf]
    clear hl hn hn' h h' hf
    go_enter Try.func15, Try.ntmps15
    go_wp2
    go_ret
    exact ⟨rfl, Below.refl _ _⟩
end Go.Proofs.Ytdhjflhpenkchaa

namespace Go.Proofs.Ytdhjflhpenkchaa
set_option linter.unusedSimpArgs false
set_option linter.unusedVariables false
open Go.RowKit
set_option maxHeartbeats 1600000 in
theorem laws_ascends (A : Option Addr) (n c : Nat) (xs : List Int) (w : World) (B : Nat) (hB : B ≤ w.heap.size) (hn : n = xs.length) (h : IS w B A xs) (hs : n ≤ 2000000) (hd : ∀ j, j + 1 < xs.length → xs.getD j 0 < xs.getD (j + 1) 0) :
    Calls Try.prog 20 #[.slice A n c] w fun e w' => e = .returned (.bool true) ∧ Below w.heap.size w w' := by
  have H := Lib.hid h
  have HN := Lib.hid hn
  have HD := Lib.hid hd
  clear hn h hd
  go_enter Try.func20, Try.ntmps20
  go_wp2
  go_loopw [3] (fun i wr => ∃ j : Nat, i = .int .i64 ((j : Int) + 1) ∧ Hid (Below w.heap.size w wr)) (fun i _ => n - (intOf i).toNat)
  case atStart => exact ⟨0, rfl, Below.refl _ _⟩
  case round =>
    obtain ⟨j, rfl, HB⟩ := hrel
    by_cases hlt : j + 1 < n
    · obtain ⟨b, off, rfl, hbB, hc⟩ := H.out (by have := HN.out; omega)
      have c0 := (HB.out.cell (p := ⟨b, off + j, none⟩) (by show b < w.heap.size; omega)).trans (hc j (by have := HN.out; omega))
      have c1 := (HB.out.cell (p := ⟨b, off + (j + 1), none⟩) (by show b < w.heap.size; omega)).trans (hc (j + 1) (by have := HN.out; omega))
      have hxy := HD.out j (by have := HN.out; omega)
      clear hc H
      generalize xs.getD j 0 = x at *
      generalize xs.getD (j + 1) 0 = y at *
      have hle : ¬ y ≤ x := by omega
      have hw1 : IntKind.i64.wrap ((j : Int) + 1 - 1) = (j : Int) := by rw [IntWalk.i64_in _ (by omega)]; omega
      have hw2 : IntKind.i64.wrap ((j : Int)) = (j : Int) := by rw [IntWalk.i64_in _ (by omega)]
      have ht : ((j : Int) + 1).toNat = j + 1 := by omega
      have hb1 : (j : Int) + 1 < n := by omega
      have hb0 : (0 : Int) ≤ (j : Int) + 1 := by omega
      go_wp2
      go_quiet (fail)
      clear hw1 hw2 ht
      go_wp2
      go_roundw
      case rel => exact ⟨j + 1, by go_num, drewN_below0 HB.out⟩
      case measure => simp [intOf]; omega
    · have hlt' : ¬ (j : Int) + 1 < n := by omega
      go_wp2
      go_ret
      exact ⟨rfl, HB.out⟩
end Go.Proofs.Ytdhjflhpenkchaa

namespace Go.Proofs.Ytdhjflhpenkchaa
set_option linter.unusedSimpArgs false
set_option linter.unusedVariables false
open Go.RowKit
/-- Block b holds the cells vs, and may be written to. -/
structure Bx (b : Nat) (vs : List Value) (w : World) : Prop where
  lt : b < w.heap.size
  c : ∀ j v, vs[j]? = some v → w.cell? ⟨b, j, none⟩ = some v
  f : ∀ j, w.frozen? ⟨b, j, none⟩ = false
section
variable {b C g j : Nat} {vs : List Value} {w w' : World}
theorem Bx.below (h : Bx b vs w) (hb : Below C w w') (hC : b < C) : Bx b vs w' :=
  ⟨Nat.lt_of_lt_of_le h.lt hb.size, fun j v hv => (hb.cell (p := ⟨b, j, none⟩) hC).trans (h.c j v hv), fun j => (hb.frozen (p := ⟨b, j, none⟩) hC).trans (h.f j)⟩
theorem Bx.step (h : Bx b vs w) (hb : Below w.heap.size w w') : Bx b vs w' := h.below hb h.lt
theorem Bx.alloc (h : Bx b vs w) (o : Obj) : Bx b vs (w.alloc o) := h.step ((Below.refl _ _).alloc (Nat.le_refl _) o)
theorem Bx.drew (h : Bx b vs w) : Bx b vs w.drew := ⟨h.lt, h.c, h.f⟩
theorem Bx.other (h : Bx b vs w) (a : Addr) (ha : b ≠ a.block) (u : Value) : Bx b vs (w.setCell a u) :=
  ⟨by simpa [World.setCell] using h.lt, fun j v hv => (World.cell?_setCell_other _ _ _ _ (by intro e; apply ha; rw [e])).trans (h.c j v hv), fun j => (World.frozen?_setCell _ _ _ _).trans (h.f j)⟩
theorem Bx.set (h : Bx b vs w) (j : Nat) (hj : j < vs.length) (u : Value) : Bx b (vs.set j u) (w.setCell ⟨b, j, none⟩ u) := by
  refine ⟨by simpa [World.setCell] using h.lt, fun i v hv => ?_, fun i => (World.frozen?_setCell _ _ _ _).trans (h.f i)⟩
  by_cases e : j = i
  · subst e
    rw [List.getElem?_set_self hj] at hv
    cases hv
    exact World.cell?_setCell_same _ _ _ (h.c j _ (List.getElem?_eq_getElem hj))
  · rw [List.getElem?_set_ne e] at hv
    exact (World.cell?_setCell_other _ _ _ _ (by simp; try omega)).trans (h.c i v hv)
end
theorem Bx.start (w : World) (a : Array Value) (t : TypeId) : Bx w.heap.size a.toList (w.alloc (.cells a t)) := by
  refine ⟨by simp, fun j v hv => ?_, fun j => by go_simp⟩
  rw [World.cell?_alloc_at a t _ j rfl]
  simpa using hv
/-- Block b has cells of type t. -/
def Tg (b : Nat) (t : TypeId) (w : World) : Prop := ∃ arr fr, w.heap[b]? = some (.cells arr t fr)
theorem Tg.new (w : World) (a : Array Value) (t : TypeId) (fr : Nat × Nat) : Tg w.heap.size t (w.alloc (.cells a t fr)) := ⟨a, fr, heap_alloc_new w _⟩
theorem Tg.keep {b : Nat} {t : TypeId} {w w' : World} (h : Tg b t w) (e : w'.heap[b]? = w.heap[b]?) : Tg b t w' := by
  obtain ⟨a, fr, h⟩ := h; exact ⟨a, fr, e.trans h⟩
theorem Tg.below {b C : Nat} {t : TypeId} {w w' : World} (h : Tg b t w) (hb : Below C w w') (hC : b < C) : Tg b t w' := h.keep (hb.block b hC)
theorem Tg.set {b : Nat} {t : TypeId} {w : World} (h : Tg b t w) (a : Addr) (u : Value) : Tg b t (w.setCell a u) := by
  by_cases e : a.block = b
  · obtain ⟨arr, fr, h⟩ := h
    subst e
    refine ⟨if a.spot.isSome then arr else arr.setIfInBounds a.off u, fr, ?_⟩
    simp [World.setCell, Array.getElem?_modify, h]
  · exact h.keep (Below.heap_setCell _ _ _ _ (fun e' => e e'.symm))
theorem own_tag {b base size n : Nat} {e t : TypeId} {v : Value} {xs : List Value} {w : World} (h : w.ownsRow base e size v n xs) (hb : Tg b t w) (ht : e ≠ t) : v.ownBlock ≠ some b := by
  obtain ⟨arr, fr, hb⟩ := hb
  rcases h.2 with ⟨rfl, _⟩ | ⟨g, cap, cur, rfl, _, hg, _⟩
  · simp [Value.ownBlock]
  · intro e'
    simp only [Value.ownBlock, Option.some.injEq] at e'
    subst e'
    rw [hg] at hb
    simp only [Option.some.injEq, Obj.cells.injEq] at hb
    exact ht hb.2.1
theorem own_setT {b base size n : Nat} {e t : TypeId} {v : Value} {xs : List Value} {w : World} (h : w.ownsRow base e size v n xs) (hb : Tg b t w) (ht : e ≠ t) (j : Nat) (sp : Option Nat) (u : Value) : (w.setCell ⟨b, j, none⟩ u).ownsRow base e size v n xs := by
  have h1 := own_tag h hb ht
  refine ⟨h.1, ?_⟩
  rcases h.2 with ⟨rfl, hn⟩ | ⟨g, cap, cur, rfl, h2, hg, h3⟩
  · exact .inl ⟨rfl, hn⟩
  · exact .inr ⟨g, cap, cur, rfl, h2, by rw [Below.heap_setCell _ _ _ _ (fun e' => h1 (by simp [Value.ownBlock]; exact e'))]; exact hg, h3⟩
theorem Bx.tch {b : Nat} (w : World) (j : Nat) (u : Value) : Tch b (b + 1) w (w.setCell ⟨b, j, none⟩ u) := Tch.of_grown (grown_setCell0 w b j u) fun k hk => by cases hk; omega
end Go.Proofs.Ytdhjflhpenkchaa

namespace Go.Proofs.Ytdhjflhpenkchaa
set_option linter.unusedSimpArgs false
set_option linter.unusedVariables false
open Go.RowKit Go.Maps
/-- A pointer to a whole block, or nil. -/
def ptrV : Option Nat → Value
  | none => .pointer none
  | some g => .pointer (some ⟨g, 0, none⟩)
/-- What a pointer to a whole block reads as. -/
def ptrR (v : Value) : Option (DataW Unit × List MemPlace) :=
  match v with
  | .pointer none => some (.lit (.int .i64 (-1)), [])
  | .pointer (some ⟨b, 0, none⟩) => some (.lit (.int .i64 b), [])
  | _ => none
def ptrD : Option Nat → DataW Unit
  | none => .lit (.int .i64 (-1))
  | some g => .lit (.int .i64 (g : Int))
theorem ptrR_of (o : Option Nat) : ptrR (ptrV o) = some (ptrD o, []) := by cases o <;> rfl
theorem ptrR_inv {v : Value} {o : Option Nat} {ps : List MemPlace} (h : ptrR v = some (ptrD o, ps)) : v = ptrV o := by
  unfold ptrR at h
  split at h
  · cases o with
    | none => rfl
    | some g => simp [ptrD] at h
  · rename_i b
    cases o with
    | none => simp [ptrD] at h
    | some g =>
      simp [ptrD] at h
      have : b = g := by omega
      subst this; rfl
  · cases h
/-- Block b is a map from numbers to pointers: number k leads to block f k. -/
def MpI (w : World) (b n : Nat) (f : Nat → Option Nat) : Prop := ∃ D : DataW Unit, w.ownsMap Try.prog 3 ptrR b n D ∧ IsMap D ∧ ∀ k : Nat, k ≤ 1000 → D.atKey (.int .i64 k) (ptrD none) = ptrD (f k)
theorem int_law : Keyed Try.prog 3 := int_keyed Try.underlying3
theorem MpI.made (w : World) : MpI (w.alloc (.map #[] 0)) w.heap.size 0 (fun _ => none) :=
  ⟨.map [], World.ownsMap_made _ _ _ _, ⟨[], rfl⟩, fun k _ => rfl⟩
theorem MpI.lt {w : World} {b n : Nat} {f : Nat → Option Nat} (h : MpI w b n f) : b < w.heap.size := by obtain ⟨D, h, _⟩ := h; exact h.lt
theorem MpI.keep {w w' : World} {b n : Nat} {f : Nat → Option Nat} (h : MpI w b n f) (e : w'.heap[b]? = w.heap[b]?) : MpI w' b n f := by
  obtain ⟨D, ⟨es, cl, h1, h2⟩, h3⟩ := h
  exact ⟨D, ⟨es, cl, e.trans h1, h2⟩, h3⟩
theorem MpI.step {w w' : World} {b n : Nat} {f : Nat → Option Nat} (h : MpI w b n f) (hb : Below w.heap.size w w') : MpI w' b n f := h.keep (hb.block b h.lt)
theorem MpI.alloc {w : World} {b n : Nat} {f : Nat → Option Nat} (h : MpI w b n f) (o : Obj) : MpI (w.alloc o) b n f := h.keep (Below.heap_alloc _ _ _ h.lt)
theorem MpI.grown {w w' : World} {b n : Nat} {f : Nat → Option Nat} {row : Option Nat} (h : MpI w b n f) (hg : w.grownBy w' row) (hne : some b ≠ row) : MpI w' b n f := h.keep (hg.block b h.lt hne)
theorem MpI.setCell {w : World} {b n : Nat} {f : Nat → Option Nat} (h : MpI w b n f) (a : Addr) (ha : b ≠ a.block) (u : Value) : MpI (w.setCell a u) b n f := h.keep (Below.heap_setCell _ _ _ _ ha)
theorem zero_link (w : World) : (zeroValue 65).run Try.prog w = .ok (.pointer none) w := by kernel_rfl
theorem key_nat (k : Nat) (hk : k ≤ 1000) : keyOf Try.prog 3 (.int .i64 k) = some (.int .i64 k) := keyOf_int_mk Try.underlying3 (WalkArith.wf_i64 (by omega))
/-- The look-up of a number. -/
theorem MpI.look {w : World} {b n : Nat} {f : Nat → Option Nat} (h : MpI w b n f) (k : Nat) (hk : k ≤ 1000) : (Instr.lookup 66 (.map (some b)) (.int .i64 k) false).run Try.prog w = .ok (ptrV (f k)) w := by
  obtain ⟨D, hD, hm, hat⟩ := h
  obtain ⟨v, ps, hrun, hv⟩ := hD.lookup int_law Try.underlying66 (zero_link w) (ptrR_of none) (key_nat k hk)
  rw [hat k hk] at hv
  rw [hrun, ptrR_inv hv]
/-- A store, at the operation. -/
theorem wpList_store_ptr (w : World) {ops : Array Oper} {rest : List Oper} {o : Oper} {a : Act} {Q : Exit → Act → World → Prop}
    (hg : o.guard = none) (m x v : Operand) (hop : o.op = Op.mapUpdate 66 m x v)
    (b n : Nat) (f : Nat → Option Nat) (hm : a.eval m = .map (some b)) (hown : MpI w b n f) (hn : n < maxLen) (k g : Nat) (hk : k ≤ 1000) (hx : a.eval x = .int .i64 k) (hv : a.eval v = .pointer (some ⟨g, 0, none⟩))
    (hK : ∀ w', MpI w' b (n + 1) (fun j => if j = k then some g else f j) → w.grownBy w' (some b) → wpList Try.prog ops Q rest (a.put o.dst undef) w') :
    wpList Try.prog ops Q (o :: rest) a w := by
  obtain ⟨D, hD, hi, hat⟩ := hown
  refine wpList_mapUpdate_own w hg m x v _ hop 3 65 int_law Try.underlying66 ptrR b n D hm hD hn _ _ _ hx hv (key_nat k hk) (ptrD (some g)) [] (ptrR_of (some g)) fun w' h1 h2 => ?_
  refine hK w' ⟨_, h1, hi.put _ _, fun j hj => ?_⟩ h2
  dsimp only
  by_cases e : j = k
  · subst e
    rw [if_pos rfl]
    exact atKey_put_same hi (int_law.key (key_nat j hj)) _ _
  · rw [if_neg e, atKey_put_other (by simp; omega)]
    exact hat j hj
theorem link_ne_ptr : (65 : TypeId) ≠ 64 := by decide
theorem info_link : (Try.prog.info? 65).map (fun i => (i.zero, i.size, i.bytes)) = some (some (.pointer none), 1, 8) := by kernel_rfl
/-- The rows vs lie in blocks of their own and have contents cont. -/
structure SSp (lo hi : Nat) (vs : List Value) (lens : Nat → Nat) (cont : Nat → List Value) (w : World) : Prop where
  row : ∀ j, j < vs.length → ∃ A m c, vs[j]? = some (.slice A m c) ∧ m = lens j ∧ OwR lo hi 65 1 (.slice A m c) m (cont j) w
  apart : ∀ (i j : Nat) (v u : Value) (k : Nat), i ≠ j → vs[i]? = some v → vs[j]? = some u → v.ownBlock = some k → u.ownBlock ≠ some k
theorem SSp.keep {lo hi : Nat} {vs : List Value} {lens : Nat → Nat} {cont : Nat → List Value} {w w' : World} (h : SSp lo hi vs lens cont w) (hk : ∀ k, lo ≤ k → k < hi → w'.heap[k]? = w.heap[k]?) : SSp lo hi vs lens cont w' :=
  ⟨fun j hj => by obtain ⟨A, m, c, h1, h2, h3⟩ := h.row j hj; exact ⟨A, m, c, h1, h2, h3.keep hk⟩, h.apart⟩
theorem SSp.mono {lo hi lo' hi' : Nat} {vs : List Value} {lens : Nat → Nat} {cont : Nat → List Value} {w : World} (h : SSp lo hi vs lens cont w) (h1 : lo' ≤ lo) (h2 : hi ≤ hi') : SSp lo' hi' vs lens cont w :=
  ⟨fun j hj => by obtain ⟨A, m, c, e1, e2, e3⟩ := h.row j hj; exact ⟨A, m, c, e1, e2, e3.mono h1 h2⟩, h.apart⟩
/-- A row of another kind was written to. -/
theorem SSp.grown {lo hi : Nat} {vs : List Value} {lens : Nat → Nat} {cont : Nat → List Value} {w w' : World} {row : Option Nat} (h : SSp lo hi vs lens cont w) (hg : w.grownBy w' row) (hr : ∀ (j : Nat) (v : Value), vs[j]? = some v → v.ownBlock = none ∨ v.ownBlock ≠ row) : SSp lo hi vs lens cont w' :=
  ⟨fun j hj => by obtain ⟨A, m, c, h1, h2, h3⟩ := h.row j hj; exact ⟨A, m, c, h1, h2, h3.1.kept hg (hr j _ h1), h3.2⟩, h.apart⟩
theorem SSp.ne {lo hi lo' : Nat} {vs : List Value} {lens : Nat → Nat} {cont : Nat → List Value} {w : World} {e : TypeId} {size n : Nat} {u : Value} {xs : List Value} (h : SSp lo hi vs lens cont w) (hu : w.ownsRow lo' e size u n xs) (he : (65 : TypeId) ≠ e) : ∀ (j : Nat) (v : Value), vs[j]? = some v → v.ownBlock = none ∨ v.ownBlock ≠ u.ownBlock := by
  intro j v hv
  have hj : j < vs.length := by
    rcases Nat.lt_or_ge j vs.length with h1 | h1
    · exact h1
    · rw [List.getElem?_eq_none h1] at hv; cases hv
  obtain ⟨A, m, c, h1, h2, h3⟩ := h.row j hj
  rw [h1] at hv
  cases hv
  exact blocks_ne h3.1 hu he
theorem SSp.lt {lo hi : Nat} {vs : List Value} {lens : Nat → Nat} {cont : Nat → List Value} {w : World} (h : SSp lo hi vs lens cont w) : ∀ (j : Nat) (v : Value) (k : Nat), vs[j]? = some v → v.ownBlock = some k → lo ≤ k ∧ k < hi := by
  intro j v k hv hk
  have hj : j < vs.length := by
    rcases Nat.lt_or_ge j vs.length with h1 | h1
    · exact h1
    · rw [List.getElem?_eq_none h1] at hv; cases hv
  obtain ⟨A, m, c, h1, h2, h3⟩ := h.row j hj
  rw [h1] at hv
  cases hv
  exact ⟨(h3.1.lt k hk).1, h3.2 k hk⟩
/-- One row more, or another one in its place: it lies in new blocks. -/
theorem SSp.put {lo hi hi' : Nat} {vs vs' : List Value} {lens lens' : Nat → Nat} {cont cont' : Nat → List Value} {w : World} {A : Option Addr} {m c : Nat} (h : SSp lo hi vs lens cont w) (k : Nat) (hk : vs'[k]? = some (.slice A m c)) (hl : ∀ j, j ≠ k → vs'[j]? = vs[j]?)
    (hlen : ∀ j, j < vs'.length → j ≠ k → j < vs.length) (hm : m = lens' k) (hc : ∀ j, j ≠ k → lens' j = lens j ∧ cont' j = cont j) (hr : OwR hi hi' 65 1 (.slice A m c) m (cont' k) w) (h1 : lo ≤ hi) (h2 : hi ≤ hi') : SSp lo hi' vs' lens' cont' w := by
  refine ⟨fun j hj => ?_, fun i j v u q hij hi' hj' hv hu => ?_⟩
  · by_cases e : j = k
    · subst e
      exact ⟨A, m, c, hk, hm, hr.mono h1 (Nat.le_refl _)⟩
    · obtain ⟨A', m', c', e1, e2, e3⟩ := h.row j (hlen j hj e)
      obtain ⟨e4, e5⟩ := hc j e
      exact ⟨A', m', c', by rw [hl j e]; exact e1, by rw [e4]; exact e2, by rw [e5]; exact e3.mono (Nat.le_refl _) h2⟩
  · by_cases e : i = k
    · subst e
      rw [hk] at hi'
      cases hi'
      have a1 := (hr.1.lt q hv).1
      rw [hl j (fun e => hij e.symm)] at hj'
      have a2 := (h.lt j u q hj' hu).2
      omega
    · by_cases e' : j = k
      · subst e'
        rw [hk] at hj'
        cases hj'
        have a1 := (hr.1.lt q hu).1
        rw [hl i e] at hi'
        have a2 := (h.lt i v q hi' hv).2
        omega
      · rw [hl i e] at hi'
        rw [hl j e'] at hj'
        exact h.apart i j v u q hij hi' hj' hv hu
theorem SSp.grow {lo hi J m' c' : Nat} {vs : List Value} {lens lens' : Nat → Nat} {cont cont' : Nat → List Value} {w w' : World} {X : Value} {A' : Option Addr} {ys : List Value} (h : SSp lo hi vs lens cont w) (hle : hi ≤ w.heap.size) (hJ : vs[J]? = some X) (hg : w.grownBy w' X.ownBlock)
    (hv : w'.ownsRow lo 65 1 (.slice A' m' c') m' ys) (hb : (Value.slice A' m' c').ownBlock = X.ownBlock ∨ (Value.slice A' m' c').ownBlock = some w.heap.size) (hl : lens' J = m') (hc : cont' J = ys) (ho : ∀ j, j ≠ J → lens' j = lens j ∧ cont' j = cont j) : SSp lo w'.heap.size (vs.set J (.slice A' m' c')) lens' cont' w' := by
  have hJl : J < vs.length := by
    rcases Nat.lt_or_ge J vs.length with h1 | h1
    · exact h1
    · rw [List.getElem?_eq_none h1] at hJ; cases hJ
  have hw := hg.size
  have hother (j : Nat) (hj : j ≠ J) (u : Value) (hu : vs[j]? = some u) (q : Nat) (hq : u.ownBlock = some q) : q < w.heap.size ∧ X.ownBlock ≠ some q := by
    refine ⟨by have := (h.lt j u q hu hq).2; omega, fun hx => ?_⟩
    exact h.apart j J u X q hj hu hJ hq hx
  refine ⟨fun j hj => ?_, fun i j v u q hij hi hj hvq huq => ?_⟩
  · by_cases e : j = J
    · subst e
      exact ⟨A', m', c', by rw [List.getElem?_set, if_pos rfl, if_pos hJl], hl.symm, by rw [hc]; exact OwR.start hv⟩
    · obtain ⟨A, m, c, e1, e2, e3⟩ := h.row j (by simpa using hj)
      obtain ⟨o1, o2⟩ := ho j e
      refine ⟨A, m, c, by rw [List.getElem?_set, if_neg (fun h => e h.symm)]; exact e1, by rw [o1]; exact e2, ?_⟩
      rw [o2]
      refine ⟨e3.1.kept hg ?_, fun q hq => by have := e3.2 q hq; omega⟩
      cases hb2 : (Value.slice A m c).ownBlock with
      | none => exact .inl rfl
      | some q => exact .inr fun hx => (hother j e _ e1 q hb2).2 hx.symm
  · by_cases ei : i = J
    · subst ei
      rw [List.getElem?_set, if_pos rfl, if_pos hJl] at hi
      cases hi
      rw [List.getElem?_set, if_neg hij] at hj
      have := hother j (fun h => hij h.symm) u hj q huq
      rcases hb with hb | hb
      · rw [hb] at hvq; exact this.2 hvq
      · rw [hb] at hvq; simp only [Option.some.injEq] at hvq; omega
    · rw [List.getElem?_set, if_neg (fun h => ei h.symm)] at hi
      by_cases ej : j = J
      · subst ej
        rw [List.getElem?_set, if_pos rfl, if_pos hJl] at hj
        cases hj
        have := hother i ei v hi q hvq
        rcases hb with hb | hb
        · rw [hb] at huq; exact this.2 huq
        · rw [hb] at huq; simp only [Option.some.injEq] at huq; omega
      · rw [List.getElem?_set, if_neg (fun h => ej h.symm)] at hj
        exact h.apart i j v u q hij hi hj hvq huq
/-- What a row of numbers of links is in memory. -/
def ptrs (lb : List Nat) (l : List Nat) : List Value := l.map fun q => ptrV lb[q]?
theorem ptrs_more (lb l : List Nat) (g : Nat) (h : ∀ q ∈ l, q < lb.length) : ptrs (lb ++ [g]) l = ptrs lb l := by
  unfold ptrs
  refine List.map_congr_left fun q hq => ?_
  rw [List.getElem?_append_left (h q hq)]
/-- Links under way: their blocks, their rows (needs and users by turns), in blocks from lo on. -/
structure LkW (lo : Nat) (lb : List Nat) (R : Nat → List Nat) (V : List Value) (w : World) : Prop where
  vl : V.length = 2 * lb.length
  bx : ∀ (j g : Nat), lb[j]? = some g → Bx g [.int .i64 j, V.getD (2 * j) undef, V.getD (2 * j + 1) undef] w ∧ Tg g 64 w ∧ lo ≤ g
  up : lb.Pairwise (· < ·)
  rows : SSp lo w.heap.size V (fun k => (R k).length) (fun k => ptrs lb (R k)) w
  small : ∀ (k q : Nat), q ∈ R k → q < lb.length
section
variable {lo : Nat} {lb : List Nat} {R : Nat → List Nat} {V : List Value} {w w' : World}
theorem Bx.keepE {b : Nat} {vs : List Value} {w w' : World} (h : Bx b vs w) (e : w'.heap[b]? = w.heap[b]?) (hs : w.heap.size ≤ w'.heap.size) : Bx b vs w' :=
  ⟨Nat.lt_of_lt_of_le h.lt hs, fun j v hv => (World.cell?_of_block (w := w) (a := ⟨b, j, none⟩) e).trans (h.c j v hv), fun j => (World.frozen?_of_block (w := w) (a := ⟨b, j, none⟩) e).trans (h.f j)⟩
theorem LkW.step (h : LkW lo lb R V w) (hb : Below w.heap.size w w') : LkW lo lb R V w' :=
  ⟨h.vl, fun j g hj => by obtain ⟨h1, h2, h3⟩ := h.bx j g hj; exact ⟨h1.step hb, h2.below hb h1.lt, h3⟩, h.up, (h.rows.keep fun k _ hk => hb.block k hk).mono (Nat.le_refl _) hb.size, h.small⟩
theorem LkW.lt (h : LkW lo lb R V w) {j g : Nat} (hj : lb[j]? = some g) : g < w.heap.size := (h.bx j g hj).1.lt
theorem LkW.ne (h : LkW lo lb R V w) {i j g g' : Nat} (hi : lb[i]? = some g) (hj : lb[j]? = some g') (hij : i ≠ j) : g ≠ g' := by
  have hp := List.pairwise_iff_getElem.1 h.up
  have hi2 : i < lb.length := (List.getElem?_eq_some_iff.1 hi).1
  have hj2 : j < lb.length := (List.getElem?_eq_some_iff.1 hj).1
  rw [List.getElem?_eq_getElem hi2] at hi
  rw [List.getElem?_eq_getElem hj2] at hj
  simp only [Option.some.injEq] at hi hj
  rcases Nat.lt_or_ge i j with h1 | h1
  · have := hp i j hi2 hj2 h1; omega
  · have := hp j i hj2 hi2 (by omega); omega
theorem SSp.setT {lo hi b : Nat} {t : TypeId} {vs : List Value} {lens : Nat → Nat} {cont : Nat → List Value} {w : World} (h : SSp lo hi vs lens cont w) (hb : Tg b t w) (ht : (65 : TypeId) ≠ t) (j : Nat) (u : Value) : SSp lo hi vs lens cont (w.setCell ⟨b, j, none⟩ u) :=
  ⟨fun i hi => by obtain ⟨A, m, c, h1, h2, h3⟩ := h.row i hi; exact ⟨A, m, c, h1, h2, own_setT h3.1 hb ht j none u, h3.2⟩, h.apart⟩
/-- One link more, without rows. -/
theorem LkW.new (h : LkW lo lb R V w) (hlo : lo ≤ w.heap.size) (h0 : R (2 * lb.length) = []) (h1 : R (2 * lb.length + 1) = []) :
    LkW lo (lb ++ [w.heap.size]) R (V ++ [.slice none 0 0, .slice none 0 0]) (w.alloc (.cells #[.int .i64 lb.length, .slice none 0 0, .slice none 0 0] 64)) := by
  have hvl := h.vl
  have hs := h.step ((Below.refl _ _).alloc (Nat.le_refl _) (.cells #[.int .i64 lb.length, .slice none 0 0, .slice none 0 0] 64))
  refine ⟨by simp; omega, fun j g hj => ?_, ?_, ?_, fun k q hq => by have := h.small k q hq; simp; omega⟩
  · rcases Nat.lt_or_ge j lb.length with hl | hl
    · rw [List.getElem?_append_left hl] at hj
      have := hs.bx j g hj
      have e (k : Nat) (hk : k < V.length) : (V ++ [Value.slice none 0 0, .slice none 0 0]).getD k undef = V.getD k undef := by simp [List.getD, List.getElem?_append_left hk]
      rw [e _ (by omega), e _ (by omega)]
      exact this
    · have hj2 : j = lb.length := by
        have := (List.getElem?_eq_some_iff.1 hj).1
        simp at this; omega
      subst hj2
      rw [List.getElem?_append_right (Nat.le_refl _), Nat.sub_self] at hj
      simp only [List.getElem?_cons_zero, Option.some.injEq] at hj
      subst hj
      have e0 : (V ++ [Value.slice none 0 0, .slice none 0 0]).getD (2 * lb.length) undef = .slice none 0 0 := by rw [← hvl]; simp [List.getD]
      have e1 : (V ++ [Value.slice none 0 0, .slice none 0 0]).getD (2 * lb.length + 1) undef = .slice none 0 0 := by rw [← hvl]; simp [List.getD]
      rw [e0, e1]
      exact ⟨Bx.start w _ _, Tg.new w _ _ _, hlo⟩
  · refine List.pairwise_append.2 ⟨h.up, by simp, fun a ha b hb => ?_⟩
    simp only [List.mem_singleton] at hb
    subst hb
    obtain ⟨i, hi, rfl⟩ := List.mem_iff_getElem.1 ha
    exact h.lt (List.getElem?_eq_getElem hi)
  · have hr := hs.rows
    refine ⟨fun j hj => ?_, fun i j v u k hij hi hj hv hu => ?_⟩
    · rcases Nat.lt_or_ge j V.length with hl | hl
      · obtain ⟨A, m, c, e1, e2, e3⟩ := hr.row j hl
        exact ⟨A, m, c, by rw [List.getElem?_append_left hl]; exact e1, e2, by rw [ptrs_more _ _ _ (fun q hq => h.small j q hq)]; exact e3⟩
      · have hj2 : j = 2 * lb.length ∨ j = 2 * lb.length + 1 := by simp at hj; omega
        have e : R j = [] := by rcases hj2 with rfl | rfl <;> assumption
        refine ⟨none, 0, 0, ?_, by simp [e], ?_⟩
        · rw [List.getElem?_append_right hl]
          rcases hj2 with rfl | rfl
          · rw [show 2 * lb.length - V.length = 0 by omega]; rfl
          · rw [show 2 * lb.length + 1 - V.length = 1 by omega]; rfl
        · rw [e]
          exact OwR.nil _ _ _ _ _
    · have hnil (k : Nat) (x : Value) (hk : V.length ≤ k) (hx : (V ++ [Value.slice none 0 0, .slice none 0 0])[k]? = some x) : x = .slice none 0 0 := by
        rw [List.getElem?_append_right hk] at hx
        have : k - V.length = 0 ∨ k - V.length = 1 := by
          have := (List.getElem?_eq_some_iff.1 hx).1; simp at this; omega
        rcases this with e | e <;> rw [e] at hx <;> simp at hx <;> exact hx.symm
      rcases Nat.lt_or_ge i V.length with a1 | a1
      · rcases Nat.lt_or_ge j V.length with a2 | a2
        · rw [List.getElem?_append_left a1] at hi
          rw [List.getElem?_append_left a2] at hj
          exact hr.apart i j v u k hij hi hj hv hu
        · rw [hnil j u a2 hj] at hu
          simp [Value.ownBlock] at hu
      · rw [hnil i v a1 hi] at hv
        simp [Value.ownBlock] at hv
/-- A row has one pointer more, and its field tells where it lies. -/
theorem LkW.app (h : LkW lo lb R V w) {j fld K g q gq m' c' : Nat} {A' : Option Addr} {X : Value} {o : Obj} (hj : lb[j]? = some g) (hf : fld < 2) (hK : K = 2 * j + fld) (hq : lb[q]? = some gq) (hX : V[K]? = some X)
    (hown : w'.ownsRow lo 65 1 (.slice A' m' c') m' (ptrs lb (R K) ++ [ptrV (some gq)])) (hm : m' = (R K).length + 1) (hg : (w.alloc o).grownBy w' X.ownBlock) (hb : (Value.slice A' m' c').ownBlock = X.ownBlock ∨ (Value.slice A' m' c').ownBlock = some (w.alloc o).heap.size) :
    LkW lo lb (fun k => if k = K then R K ++ [q] else R k) (V.set K (.slice A' m' c')) (w'.setCell ⟨g, 1 + fld, none⟩ (.slice A' m' c')) := by
  have hs := h.step ((Below.refl _ _).alloc (Nat.le_refl _) o)
  have hvl := h.vl
  have hjl : j < lb.length := (List.getElem?_eq_some_iff.1 hj).1
  have hKl : K < V.length := by omega
  have hXr : ∀ (i g' : Nat), lb[i]? = some g' → X.ownBlock ≠ some g' := fun i g' hi => by
    obtain ⟨A, m, c, e1, e2, e3⟩ := hs.rows.row K hKl
    rw [hX] at e1
    cases e1
    exact own_tag e3.1 (hs.bx i g' hi).2.1 link_ne_ptr
  have hbx : ∀ (i g' : Nat), lb[i]? = some g' → Bx g' [.int .i64 i, V.getD (2 * i) undef, V.getD (2 * i + 1) undef] w' ∧ Tg g' 64 w' := fun i g' hi => by
    have h1 := hs.bx i g' hi
    have e := hg.block g' h1.1.lt (fun e => hXr i g' hi e.symm)
    exact ⟨h1.1.keepE e hg.size, h1.2.1.keep e⟩
  have hTg := (hbx j g hj).2
  refine ⟨by simpa using hvl, fun i g' hi => ?_, h.up, ?_, fun k x hx => ?_⟩
  · refine ⟨?_, (hbx i g' hi).2.set _ _, (h.bx i g' hi).2.2⟩
    by_cases e : i = j
    · subst e
      rw [hj] at hi
      cases hi
      have h2 := (hbx i g hj).1.set (1 + fld) (by simp; omega) (.slice A' m' c')
      have hfl : fld = 0 ∨ fld = 1 := by omega
      rcases hfl with rfl | rfl
      · have e1 : (V.set K (.slice A' m' c')).getD (2 * i) undef = .slice A' m' c' := by simp [List.getD, hK, show 2 * i < V.length by omega]
        have e2 : (V.set K (.slice A' m' c')).getD (2 * i + 1) undef = V.getD (2 * i + 1) undef := by simp [List.getD, List.getElem?_set, hK]
        rw [e1, e2]; exact h2
      · have e1 : (V.set K (.slice A' m' c')).getD (2 * i + 1) undef = .slice A' m' c' := by simp [List.getD, hK, show 2 * i + 1 < V.length by omega]
        have e2 : (V.set K (.slice A' m' c')).getD (2 * i) undef = V.getD (2 * i) undef := by simp [List.getD, List.getElem?_set, hK]
        rw [e1, e2]; exact h2
    · have e1 : (V.set K (.slice A' m' c')).getD (2 * i) undef = V.getD (2 * i) undef := by simp [List.getD, List.getElem?_set, show ¬ K = 2 * i by omega]
      have e2 : (V.set K (.slice A' m' c')).getD (2 * i + 1) undef = V.getD (2 * i + 1) undef := by simp [List.getD, List.getElem?_set, show ¬ K = 2 * i + 1 by omega]
      rw [e1, e2]
      exact (hbx i g' hi).1.other _ (h.ne hi hj e) _
  · have h3 := hs.rows.grow (lens' := fun k => ((fun k => if k = K then R K ++ [q] else R k) k).length) (cont' := fun k => ptrs lb ((fun k => if k = K then R K ++ [q] else R k) k)) (Nat.le_refl _) hX hg hown hb (by dsimp only; rw [if_pos rfl, List.length_append, hm]; rfl) (by dsimp only; rw [if_pos rfl]; simp [ptrs, hq]) (fun k hk => by dsimp only; rw [if_neg hk]; exact ⟨rfl, rfl⟩)
    have h4 := h3.setT hTg link_ne_ptr (1 + fld) (.slice A' m' c')
    have e : (w'.setCell ⟨g, 1 + fld, none⟩ (.slice A' m' c')).heap.size = w'.heap.size := by simp [World.setCell]
    rw [e]; exact h4
  · by_cases e : k = K
    · rw [if_pos e] at hx
      rcases List.mem_append.1 hx with h5 | h5
      · exact h.small K x h5
      · simp at h5; subst h5; exact (List.getElem?_eq_some_iff.1 hq).1
    · rw [if_neg e] at hx; exact h.small k x hx
end
/-- The slice at A reads as pointers to the links l. -/
def PtS (w : World) (B : Nat) (A : Option Addr) (lb l : List Nat) : Prop :=
  0 < l.length → ∃ b off, A = some ⟨b, off, none⟩ ∧ b < B ∧ ∀ (k q : Nat), l[k]? = some q → w.cell? ⟨b, off + k, none⟩ = some (ptrV lb[q]?)
/-- Links as they read: their numbers, and both rows. -/
structure LkS (B : Nat) (lb : List Nat) (R : Nat → List Nat) (w : World) : Prop where
  it : ∀ (j g : Nat), lb[j]? = some g → g < B ∧ w.cell? ⟨g, 0, none⟩ = some (.int .i64 j) ∧ (∃ A m c, w.cell? ⟨g, 1, none⟩ = some (.slice A m c) ∧ m = (R (2 * j)).length ∧ PtS w B A lb (R (2 * j))) ∧ (∃ A m c, w.cell? ⟨g, 2, none⟩ = some (.slice A m c) ∧ m = (R (2 * j + 1)).length ∧ PtS w B A lb (R (2 * j + 1)))
  small : ∀ (k q : Nat), q ∈ R k → q < lb.length
theorem PtS.keep {w w' : World} {B : Nat} {A : Option Addr} {lb l : List Nat} (h : PtS w B A lb l) (hk : ∀ p : Addr, p.block < B → w'.cell? p = w.cell? p) : PtS w' B A lb l := by
  intro hl
  obtain ⟨b, off, e, hb, hc⟩ := h hl
  exact ⟨b, off, e, hb, fun k q hq => (hk _ hb).trans (hc k q hq)⟩
theorem LkS.keep {w w' : World} {B : Nat} {lb : List Nat} {R : Nat → List Nat} (h : LkS B lb R w) (hk : ∀ p : Addr, p.block < B → w'.cell? p = w.cell? p) : LkS B lb R w' := by
  refine ⟨fun j g hj => ?_, h.small⟩
  obtain ⟨h1, h2, ⟨A, m, c, a1, a2, a3⟩, ⟨A', m', c', b1, b2, b3⟩⟩ := h.it j g hj
  exact ⟨h1, (hk _ h1).trans h2, ⟨A, m, c, (hk _ h1).trans a1, a2, a3.keep hk⟩, ⟨A', m', c', (hk _ h1).trans b1, b2, b3.keep hk⟩⟩
theorem LkW.read {lo : Nat} {lb : List Nat} {R : Nat → List Nat} {V : List Value} {w : World} (h : LkW lo lb R V w) : LkS w.heap.size lb R w := by
  have hvl := h.vl
  have hrow : ∀ k, k < V.length → ∃ A m c, V.getD k undef = .slice A m c ∧ m = (R k).length ∧ PtS w w.heap.size A lb (R k) := fun k hk => by
    obtain ⟨A, m, c, e1, e2, e3⟩ := h.rows.row k hk
    refine ⟨A, m, c, by simp [List.getD, e1], e2, fun hl => ?_⟩
    rcases e3.1.2 with ⟨_, h0⟩ | ⟨g, cap, cur, hv, _⟩
    · omega
    · have hv2 := hv
      simp only [Value.slice.injEq] at hv
      obtain ⟨rfl, _, rfl⟩ := hv
      refine ⟨g, 0, rfl, e3.2 g rfl, fun i q hq => ?_⟩
      have hi : i < (R k).length := (List.getElem?_eq_some_iff.1 hq).1
      rw [Nat.zero_add, e3.1.cellAt i (by omega)]
      simp [ptrs, hq]
  refine ⟨fun j g hj => ?_, h.small⟩
  have hjl : j < lb.length := (List.getElem?_eq_some_iff.1 hj).1
  obtain ⟨h1, h2, h3⟩ := h.bx j g hj
  obtain ⟨A, m, c, a1, a2, a3⟩ := hrow (2 * j) (by omega)
  obtain ⟨A', m', c', b1, b2, b3⟩ := hrow (2 * j + 1) (by omega)
  rw [a1, b1] at h1
  exact ⟨h1.lt, h1.c 0 _ rfl, ⟨A, m, c, h1.c 1 _ rfl, a2, a3⟩, ⟨A', m', c', h1.c 2 _ rfl, b2, b3⟩⟩
end Go.Proofs.Ytdhjflhpenkchaa

namespace Go.Proofs.Ytdhjflhpenkchaa
set_option linter.unusedSimpArgs false
set_option linter.unusedVariables false
open Go.RowKit
/-- A node of the list ahead that is no effect. -/
def rdA (gs : List Nd) (x : Int) : Bool := decide (x < (gs.length : Int)) && !((gs.getD x.toNat default).k == 2)
theorem rdA_take (gs : List Nd) (i : Nat) (hi : i ≤ gs.length) (x : Int) (hx : 0 ≤ x) : rdA (gs.take i) x = rdOK gs i x := by
  unfold rdA rdOK
  rw [List.length_take, Nat.min_eq_left hi]
  by_cases h : x < (i : Int)
  · have : (gs.take i).getD x.toNat default = gs.getD x.toNat default := by
      simp only [List.getD, List.getElem?_take, if_pos (show x.toNat < i by omega)]
    rw [this]
  · rw [decide_eq_false h]; rfl
set_option maxRecDepth 100000 in
set_option maxHeartbeats 1600000 in
theorem impl_areReadable (A A' : Option Addr) (n c l c' : Nat) (gs : List Nd) (L : List Int) (w : World) (B : Nat) (hB : B ≤ w.heap.size) (hn : n = gs.length) (hl : l = L.length) (h : GS w B A gs) (h' : IS w B A' L) (hs : n ≤ 2000000) (hs' : l ≤ 2000000) (hbd : ∀ j, j < l → 0 ≤ L.getD j 0) :
    Calls Try.prog 103 #[.slice A n c, .slice A' l c'] w fun e w' => e = .returned (.bool (L.all (rdA gs))) ∧ w = w' := by
  have H := Lib.hid h
  have HI := Lib.hid h'
  have HN := Lib.hid hn
  have HL := Lib.hid hl
  have HBD := Lib.hid hbd
  clear h h' hn hl hbd
  go_enter Try.func103, Try.ntmps103
  go_wp2
  go_loop [9] (fun u => ∃ k : Nat, k ≤ l ∧ u = .int .i64 k ∧ Hid (∀ j, j < k → rdA gs (L.getD j 0) = true)) (fun u => l - (intOf u).toNat)
  case atStart => exact ⟨0, by omega, rfl, by intro j hj; omega⟩
  case round =>
    obtain ⟨k, hk, rfl, HK⟩ := hrel
    by_cases hlt : k < l
    · obtain ⟨b', off', rfl, hb', hc⟩ := HI.out (by have := HL.out; omega)
      have hx := hc k (by have := HL.out; omega)
      have hx0 := HBD.out k hlt
      clear hc
      generalize hxx : L.getD k 0 = x at *
      have HX := Lib.hid hxx
      clear hxx
      obtain ⟨t, rfl⟩ : ∃ t : Nat, x = (t : Int) := ⟨x.toNat, by omega⟩
      by_cases htn : t < n
      · obtain ⟨b, off, rfl, hbB, c3, _⟩ := H.out.at_ t (by have := HN.out; omega)
        have hro : rdA gs (t : Int) = !((gs.getD t default).k == 2) := by unfold rdA; rw [decide_eq_true (by have := HN.out; omega)]; simp
        generalize gs.getD t default = q at *
        cases hq : (q.k == 2)
        all_goals
          have HR := Lib.hid hro
          have HQ := Lib.hid hq
          clear hro
          go_wp2
        · go_round
          case rel => exact ⟨k + 1, by omega, by go_num, fun j hj => by
            rcases Nat.lt_or_ge j k with h1 | h1
            · exact HK.out j h1
            · obtain rfl : j = k := by omega
              rw [HX.out, HR.out, HQ.out]; rfl⟩
          case measure => simp [intOf]; omega
        · go_ret
          refine ⟨ret_b ?_, rfl⟩
          exact (all_bad L (rdA gs) k (by have := HL.out; omega) (by rw [HX.out, HR.out, HQ.out]; rfl)).symm
      · have hro : rdA gs (t : Int) = false := by unfold rdA; rw [decide_eq_false (by have := HN.out; omega)]; rfl
        have HR := Lib.hid hro
        clear hro
        go_wp2
        go_ret
        refine ⟨ret_b ?_, rfl⟩
        exact (all_bad L (rdA gs) k (by have := HL.out; omega) (by rw [HX.out, HR.out])).symm
    · go_wp2
      go_ret
      refine ⟨ret_b ?_, rfl⟩
      exact (all_good L (rdA gs) fun j hj => HK.out j (by have := HL.out; omega)).symm
/-- Whether a node fits behind others. -/
def fitsB (gs : List Nd) (d : Nd) : Bool :=
  if d.k == 0 then decide (d.ps.length = 0)
  else if d.k == 1 then validF d.ps && (mayR d.ps).all (rdA gs)
  else if d.k == 2 then validF d.ps && (mayR d.ps).all (rdA gs)
  else false
theorem fits_node (gs : List Nd) (i : Nat) (hi : i ≤ gs.length) : fitsB (gs.take i) (gs.getD i default) = nodeOK gs i := by
  unfold fitsB nodeOK goodRd
  have e : (mayR (gs.getD i default).ps).all (rdA (gs.take i)) = (mayR (gs.getD i default).ps).all (rdOK gs i) := by
    rw [Bool.eq_iff_iff, List.all_eq_true, List.all_eq_true]
    constructor
    · intro h x hx; rw [← rdA_take gs i hi x (mem_mayR_bd _ _ hx).1]; exact h x hx
    · intro h x hx; rw [rdA_take gs i hi x (mem_mayR_bd _ _ hx).1]; exact h x hx
  rw [e]
set_option maxRecDepth 100000 in
set_option maxHeartbeats 1600000 in
theorem impl_fitsBehind (A A1 : Option Addr) (n c n1 c1 : Nat) (gs : List Nd) (k : Int) (ps : List Pt) (w : World) (B : Nat) (hB : B ≤ w.heap.size) (hn : n = gs.length) (hn1 : n1 = ps.length) (h : GS w B A gs) (h1 : PS w B A1 ps) (hs : n ≤ 2000000) (hs1 : n1 ≤ 1999999) :
    Calls Try.prog 60 #[.slice A n c, .agg #[.int .i64 k, .slice A1 n1 c1]] w fun e w' => e = .returned (.bool (fitsB gs ⟨k, ps⟩)) ∧ Below w.heap.size w w' := by
  have H := Lib.hid h
  have H1 := Lib.hid h1
  have HN := Lib.hid hn
  have HN1 := Lib.hid hn1
  have hfe : fitsB gs ⟨k, ps⟩ = if k == 0 then decide (ps.length = 0) else if k == 1 then validF ps && (mayR ps).all (rdA gs) else if k == 2 then validF ps && (mayR ps).all (rdA gs) else false := rfl
  cases h0 : (k == 0)
  · by_cases h12 : (k == 1) = true ∨ (k == 2) = true
    · have hfe2 : fitsB gs ⟨k, ps⟩ = (validF ps && (mayR ps).all (rdA gs)) := by
        rw [hfe, h0]
        rcases h12 with e | e
        · rw [e]; rfl
        · rw [e]; cases (k == 1) <;> rfl
      rw [hfe2]
      have HVF := Lib.hid fun (w : World) (hB : B ≤ w.heap.size) (h : PS w B A1 ps) => impl_ValidFormula A1 n1 c1 ps w B hB hn1 h (by omega)
      have HMR := Lib.hid fun (w : World) (hB : B ≤ w.heap.size) (h : PS w B A1 ps) => impl_MayRead A1 n1 c1 ps w B hB hn1 h (by omega)
      clear h h1 hn hn1 hfe hfe2
      cases hv : validF ps
      · rw [hv] at HVF
        clear hv HMR
        rw [show (false && (mayR ps).all (rdA gs)) = false from rfl]
        cases ha : (k == 1)
        · have hb : (k == 2) = true := by rcases h12 with e | e; rw [ha] at e; cases e; exact e
          clear h12
          go_enter Try.func60, Try.ntmps60
          go_wp2_with fail
          refine (HVF.out _ (by simp; omega) (H1.out.alloc hB _)).mono ?_
          rintro e w1 ⟨rfl, hb1⟩
          go_wp2
          go_ret
          exact ⟨rfl, ((Below.refl _ _).alloc (Nat.le_refl _) _).trans (hb1.mono (by simp))⟩
        · clear h12
          go_enter Try.func60, Try.ntmps60
          go_wp2_with fail
          refine (HVF.out _ (by simp; omega) (H1.out.alloc hB _)).mono ?_
          rintro e w1 ⟨rfl, hb1⟩
          go_wp2
          go_ret
          exact ⟨rfl, ((Below.refl _ _).alloc (Nat.le_refl _) _).trans (hb1.mono (by simp))⟩
      · have hmf : mayF ps = mayR ps := by simp [mayF, hv]
        rw [hv] at HVF
        rw [hmf] at HMR
        have hlen := mayR_len ps 10
        rw [mayR_below] at hlen
        have hbd := mayR_getD_bd ps
        clear hv hmf
        generalize mayR ps = L at *
        generalize hl : L.length = l at *
        have HL := Lib.hid hl
        have HAR := Lib.hid fun (A' : Option Addr) (c' : Nat) (w : World) (B : Nat) (hB : B ≤ w.heap.size) (h : GS w B A gs) (h' : IS w B A' L) => impl_areReadable A A' n c l c' gs L w B hB HN.out hl.symm h h' hs (by omega) (fun j hj => (hbd j hj).1)
        clear hl hbd
        rw [show (true && L.all (rdA gs)) = L.all (rdA gs) from Bool.true_and _]
        generalize L.all (rdA gs) = r at *
        cases ha : (k == 1)
        · have hb : (k == 2) = true := by rcases h12 with e | e; rw [ha] at e; cases e; exact e
          clear h12
          go_enter Try.func60, Try.ntmps60
          go_wp2_with fail
          refine (HVF.out _ (by simp; omega) (H1.out.alloc hB _)).mono ?_
          rintro e w1 ⟨rfl, hb1⟩
          have hz1 : w.heap.size < w1.heap.size := by have := hb1.size; simp at this; omega
          have hbx : w1.cell? ⟨w.heap.size, 1, none⟩ = some (.slice A1 n1 c1) := (hb1.cell (p := ⟨w.heap.size, 1, none⟩) (by simp)).trans (by go_simp)
          have HP1 := Lib.hid ((H1.out.alloc hB (.cells #[.int .i64 k, .slice A1 n1 c1] 38)).below hb1 (by simp; omega))
          have HG1 := Lib.hid ((H.out.alloc hB (.cells #[.int .i64 k, .slice A1 n1 c1] 38)).below hb1 (by simp; omega))
          have hB1 : Below w.heap.size w w1 := ((Below.refl _ _).alloc (Nat.le_refl _) _).trans (hb1.mono (by simp))
          clear hb1
          go_wp2_with fail
          refine (HMR.out _ (by omega) HP1.out).mono ?_
          rintro e w2 ⟨v2, rfl, hown, hb2⟩
          obtain ⟨A2, c2, rfl, hI⟩ := hown.form
          have HI := Lib.hid hI
          have HG2 := Lib.hid ((HG1.out.below hb2 (by omega)).more (B' := w2.heap.size) (by have := hb2.size; omega))
          rw [HL.out]
          clear hI hown
          go_wp2_with fail
          refine (HAR.out _ _ _ _ (Nat.le_refl _) HG2.out HI.out).mono ?_
          rintro e w3 ⟨rfl, rfl⟩
          go_wp2
          go_ret
          exact ⟨rfl, hB1.trans (hb2.mono (by omega))⟩
        · clear h12
          go_enter Try.func60, Try.ntmps60
          go_wp2_with fail
          refine (HVF.out _ (by simp; omega) (H1.out.alloc hB _)).mono ?_
          rintro e w1 ⟨rfl, hb1⟩
          have hz1 : w.heap.size < w1.heap.size := by have := hb1.size; simp at this; omega
          have hbx : w1.cell? ⟨w.heap.size, 1, none⟩ = some (.slice A1 n1 c1) := (hb1.cell (p := ⟨w.heap.size, 1, none⟩) (by simp)).trans (by go_simp)
          have HP1 := Lib.hid ((H1.out.alloc hB (.cells #[.int .i64 k, .slice A1 n1 c1] 38)).below hb1 (by simp; omega))
          have HG1 := Lib.hid ((H.out.alloc hB (.cells #[.int .i64 k, .slice A1 n1 c1] 38)).below hb1 (by simp; omega))
          have hB1 : Below w.heap.size w w1 := ((Below.refl _ _).alloc (Nat.le_refl _) _).trans (hb1.mono (by simp))
          clear hb1
          go_wp2_with fail
          refine (HMR.out _ (by omega) HP1.out).mono ?_
          rintro e w2 ⟨v2, rfl, hown, hb2⟩
          obtain ⟨A2, c2, rfl, hI⟩ := hown.form
          have HI := Lib.hid hI
          have HG2 := Lib.hid ((HG1.out.below hb2 (by omega)).more (B' := w2.heap.size) (by have := hb2.size; omega))
          rw [HL.out]
          clear hI hown
          go_wp2_with fail
          refine (HAR.out _ _ _ _ (Nat.le_refl _) HG2.out HI.out).mono ?_
          rintro e w3 ⟨rfl, rfl⟩
          go_wp2
          go_ret
          exact ⟨rfl, hB1.trans (hb2.mono (by omega))⟩
    · have ha : (k == 1) = false := by cases e : (k == 1); rfl; exact absurd (.inl e) h12
      have hb : (k == 2) = false := by cases e : (k == 2); rfl; exact absurd (.inr e) h12
      rw [hfe, h0, ha, hb]
      clear h h1 hn hn1 hfe h12
      go_enter Try.func60, Try.ntmps60
      go_wp2
      go_ret
      exact ⟨rfl, (Below.refl _ _).alloc (Nat.le_refl _) _⟩
  · rw [hfe, h0]
    clear h h1 hn hn1 hfe
    go_enter Try.func60, Try.ntmps60
    go_wp2
    go_ret
    refine ⟨ret_b ?_, (Below.refl _ _).alloc (Nat.le_refl _) _⟩
    rw [HN1.out]
    cases ps <;> simp
    omega
set_option maxRecDepth 100000 in
set_option maxHeartbeats 1600000 in
theorem impl_ValidGraph (A : Option Addr) (n c : Nat) (gs : List Nd) (w : World) (B : Nat) (hB : B ≤ w.heap.size) (hn : n = gs.length) (h : GS w B A gs) (hs : GB gs) (hnc : n ≤ c) :
    Calls Try.prog 17 #[.agg #[.slice A n c]] w fun e w' => e = .returned (.bool (validG gs)) ∧ Below w.heap.size w w' := by
  have hn1 : n ≤ 1048576 := by rw [hn]; exact hs.1
  by_cases h10 : 10 < n
  · rw [validG_long gs (by omega)]
    clear h hn hs
    go_enter Try.func17, Try.ntmps17
    go_wp2
    go_ret
    exact ⟨rfl, (Below.refl _ _).alloc (Nat.le_refl _) _⟩
  have H := Lib.hid h
  have HN := Lib.hid hn
  have HS := Lib.hid hs
  clear h hn hs
  go_enter Try.func17, Try.ntmps17
  go_wp2
  go_loopw [12] (fun u wr => ∃ k : Nat, k ≤ n ∧ u = .int .i64 k ∧ Hid (∀ j, j < k → nodeOK gs j = true) ∧ Below (w.heap.size + 1) (w.alloc (.cells #[.slice A n c] 25)) wr) (fun u _ => n - (intOf u).toNat)
  case atStart => exact ⟨0, by omega, rfl, by intro j hj; omega, Below.refl _ _⟩
  case round =>
    obtain ⟨k, hk, rfl, HK, hbr⟩ := hrel
    have hbox : wr.cell? ⟨w.heap.size, 0, none⟩ = some (.slice A n c) := (hbr.cell (p := ⟨w.heap.size, 0, none⟩) (by simp)).trans (by go_simp)
    have hwr : w.heap.size + 1 ≤ wr.heap.size := by have := hbr.size; simpa using this
    have hws : w.heap.size < wr.heap.size := by omega
    by_cases hlt : k < n
    · obtain ⟨b, off, rfl, hbB, c0, A1, n1, c1, c2, hn1', hps⟩ := H.out.at_ k (by have := HN.out; omega)
      have hx := HS.out.2 k
      have b0 : wr.cell? ⟨b, off + k * 2, none⟩ = _ := ((hbr.cell (p := ⟨b, off + k * 2, none⟩) (by simp; omega)).trans (World.cell?_alloc_lt _ _ _ (by simp; omega))).trans c0
      have b1 : wr.cell? ⟨b, off + k * 2 + 1, none⟩ = _ := ((hbr.cell (p := ⟨b, off + k * 2 + 1, none⟩) (by simp; omega)).trans (World.cell?_alloc_lt _ _ _ (by simp; omega))).trans c2
      have HPS := Lib.hid ((hps.alloc hB (.cells #[.slice (some ⟨b, off, none⟩) n c] 25)).below hbr (by omega))
      have HGS := Lib.hid (((H.out.take k (by have := HN.out; omega)).alloc hB (.cells #[.slice (some ⟨b, off, none⟩) n c] 25)).below hbr (by omega))
      have hfn := fits_node gs k (by have := HN.out; omega)
      have hlen : k = (gs.take k).length := by rw [List.length_take]; have := HN.out; omega
      clear c0 c2 hps
      generalize gs.getD k default = d at *
      have hy1 : n1 ≤ 1999999 := by omega
      have HFB := Lib.hid fun (w : World) (hB : B ≤ w.heap.size) (h : GS w B (some ⟨b, off, none⟩) (gs.take k)) (h1 : PS w B A1 d.ps) => impl_fitsBehind (some ⟨b, off, none⟩) A1 k c n1 c1 (gs.take k) d.k d.ps w B hB hlen hn1' h h1 (by omega) hy1
      rw [show fitsB (gs.take k) ⟨d.k, d.ps⟩ = nodeOK gs k from hfn] at HFB
      have HNK := Lib.hid fun (h : nodeOK gs k = false) => validG_bad gs k (by have := HN.out; omega) h
      have HNT : Hid (nodeOK gs k = true → ∀ j, j < k + 1 → nodeOK gs j = true) := fun h j hj => by
        rcases Nat.lt_or_ge j k with h1 | h1
        · exact HK.out j h1
        · obtain rfl : j = k := by omega
          exact h
      clear hfn hlen hn1' hx
      generalize nodeOK gs k = r at *
      cases r
      all_goals
        go_wp2
        obtain ⟨W2, hW2⟩ : ∃ W2, W2 = wr.alloc (.cells #[.int .i64 d.k, .slice A1 n1 c1] 38) := ⟨_, rfl⟩
        have q0 : W2.cell? ⟨w.heap.size, 0, none⟩ = some (.slice (some ⟨b, off, none⟩) n c) := by rw [hW2]; exact (World.cell?_alloc_lt _ _ _ hws).trans hbox
        have q1 : W2.cell? ⟨wr.heap.size, 0, none⟩ = some (.int .i64 d.k) := by rw [hW2]; go_simp
        have q2 : W2.cell? ⟨wr.heap.size, 1, none⟩ = some (.slice A1 n1 c1) := by rw [hW2]; go_simp
        have HP2 : Hid (PS W2 B A1 d.ps) := by rw [hW2]; exact HPS.out.alloc (by omega) _
        have HG2 : Hid (GS W2 B (some ⟨b, off, none⟩) (gs.take k)) := by rw [hW2]; exact HGS.out.alloc (by omega) _
        have hb2 : Below (w.heap.size + 1) (w.alloc (.cells #[.slice (some ⟨b, off, none⟩) n c] 25)) W2 := by rw [hW2]; exact hbr.alloc (by omega) _
        have hz2 : w.heap.size + 1 < W2.heap.size := by rw [hW2]; simp; omega
        have hkc : k ≤ c := by omega
        rw [← hW2]
        clear hW2 HPS HGS b0 b1
        go_still_tail 5, (by kernel_rfl)
        go_wp2_with fail
        refine (HFB.out W2.drew (show B ≤ W2.heap.size by omega) HG2.out HP2.out).mono ?_
        rintro e w3 ⟨rfl, hb3⟩
        have hB3 := hb2.drew.trans (hb3.mono (show w.heap.size + 1 ≤ W2.heap.size by omega))
        go_wp2
      · go_ret
        exact ⟨ret_b (HNK.out trivial).symm, ((Below.refl _ _).alloc (Nat.le_refl _) _).trans (hB3.mono (by omega))⟩
      · go_roundw
        case rel => exact ⟨k + 1, by omega, by go_num, HNT.out trivial, hB3⟩
        case measure => simp [intOf]; omega
    · go_wp2
      go_ret
      refine ⟨ret_b ?_, ((Below.refl _ _).alloc (Nat.le_refl _) _).trans (hbr.mono (by omega))⟩
      rw [validG_fin gs fun j hj => HK.out j (by have := HN.out; omega)]
      have := HN.out
      simp
      omega
end Go.Proofs.Ytdhjflhpenkchaa

namespace Go.Proofs.Ytdhjflhpenkchaa
set_option linter.unusedSimpArgs false
set_option linter.unusedVariables false
open Go.RowKit
/-- The rows of the links, needs and users by turns. -/
def linkR (gs : List Nd) (n k : Nat) : List Nat := if k % 2 = 0 then (if k / 2 < n then rdsN gs (k / 2) else []) else usN gs n (k / 2)
end Go.Proofs.Ytdhjflhpenkchaa

namespace Go.Proofs.Ytdhjflhpenkchaa
set_option linter.unusedSimpArgs false
set_option linter.unusedVariables false
open Go.RowKit
theorem mayF_valid (gs : List Nd) (k : Nat) (hv : validG gs = true) (hk : k < gs.length) : mayF (gs.getD k default).ps = mayR (gs.getD k default).ps := by
  unfold mayF
  cases h0 : ((gs.getD k default).k == 0)
  · rw [(nodeOK_formula gs k ((validG_parts gs hv).2 k hk) h0).1]; rfl
  · rw [nodeOK_cell gs k ((validG_parts gs hv).2 k hk) h0, mayR_nil]
    cases validF [] <;> rfl
end Go.Proofs.Ytdhjflhpenkchaa

namespace Go.Proofs.Ytdhjflhpenkchaa
set_option linter.unusedSimpArgs false
set_option linter.unusedVariables false
open Go.RowKit Go.Maps
/-- The rows while the reads of node k are linked: q of them are done. -/
def lkR (gs : List Nd) (k q : Nat) (K : Nat) : List Nat :=
  if K % 2 = 0 then (if K / 2 < k then rdsN gs (K / 2) else if K / 2 = k then (rdsN gs k).take q else [])
  else usN gs k (K / 2) ++ (if K / 2 ∈ (rdsN gs k).take q then [k] else [])
theorem lkR_even (gs : List Nd) (k q j : Nat) : lkR gs k q (2 * j) = if j < k then rdsN gs j else if j = k then (rdsN gs k).take q else [] := by
  unfold lkR; rw [if_pos (by omega), show 2 * j / 2 = j by omega]
theorem lkR_odd (gs : List Nd) (k q j : Nat) : lkR gs k q (2 * j + 1) = usN gs k j ++ (if j ∈ (rdsN gs k).take q then [k] else []) := by
  unfold lkR; rw [if_neg (by omega), show (2 * j + 1) / 2 = j by omega]
theorem lkR_zero (gs : List Nd) (k : Nat) : lkR gs k 0 = linkR gs k := by
  funext K
  unfold lkR linkR
  simp only [List.take_zero, List.not_mem_nil, if_false, List.append_nil]
  by_cases h : K % 2 = 0
  · rw [if_pos h, if_pos h]
    by_cases h2 : K / 2 < k
    · rw [if_pos h2, if_pos h2]
    · rw [if_neg h2, if_neg h2]; split <;> rfl
  · rw [if_neg h, if_neg h]
theorem usN_succ (gs : List Nd) (k j : Nat) : usN gs (k + 1) j = usN gs k j ++ (if (j : Int) ∈ mayR (gs.getD k default).ps then [k] else []) := by
  unfold usN
  rw [List.range_succ, List.filter_append]
  congr 1
  by_cases h : (j : Int) ∈ mayR (gs.getD k default).ps
  · rw [if_pos h]; simp only [List.filter_cons, decide_eq_true h, if_true, List.filter_nil]
  · rw [if_neg h]; simp only [List.filter_cons, decide_eq_false h, Bool.false_eq_true, if_false, List.filter_nil]
theorem lkR_all (gs : List Nd) (hv : validG gs = true) (k : Nat) (hk : k < gs.length) (l : Nat) (hl : (rdsN gs k).length = l) : lkR gs k l = linkR gs (k + 1) := by
  funext K
  unfold lkR linkR
  rw [List.take_of_length_le (by omega)]
  by_cases h : K % 2 = 0
  · rw [if_pos h, if_pos h]
    by_cases h2 : K / 2 < k
    · rw [if_pos h2, if_pos (by omega)]
    · rw [if_neg h2]
      by_cases h3 : K / 2 = k
      · rw [if_pos h3, if_pos (by omega), h3]
      · rw [if_neg h3, if_neg (by omega)]
  · rw [if_neg h, if_neg h, usN_succ]
    congr 1
    have := mem_rdsN gs hv k (K / 2) hk
    by_cases h2 : K / 2 ∈ rdsN gs k
    · rw [if_pos h2, if_pos (this.1 h2)]
    · rw [if_neg h2, if_neg (fun h => h2 (this.2 h))]
theorem linkR_new (gs : List Nd) (hv : validG gs = true) (k : Nat) (hk : k ≤ gs.length) : linkR gs k (2 * k) = [] ∧ linkR gs k (2 * k + 1) = [] := by
  unfold linkR
  refine ⟨?_, ?_⟩
  · rw [if_pos (by omega), if_neg (by omega)]
  · rw [if_neg (by omega), show (2 * k + 1) / 2 = k by omega]
    unfold usN
    rw [List.filter_eq_nil_iff]
    intro u hu hc
    have h1 : u ∈ usN gs k k := List.mem_filter.2 ⟨hu, hc⟩
    have := usN_gt gs hv k k u hk h1
    have := List.mem_range.1 hu
    omega
theorem rdsN_nodup (gs : List Nd) (hv : validG gs = true) (k : Nat) (hk : k < gs.length) : (rdsN gs k).Nodup := by
  have h1 : (mayR (gs.getD k default).ps).Nodup := by
    have : (mayR (gs.getD k default).ps).Pairwise (· < ·) := by
      unfold mayR
      rw [List.pairwise_map]
      exact ((List.pairwise_lt_range (n := 10)).filter _).imp fun h => by omega
    exact this.imp fun h => by omega
  unfold rdsN
  have hah := mayR_ahead gs k hv hk
  generalize mayR (gs.getD k default).ps = l at *
  clear hk
  induction l with
  | nil => simp
  | cons x l ih =>
    obtain ⟨a, b⟩ := List.nodup_cons.1 h1
    rw [List.map_cons, List.nodup_cons]
    refine ⟨fun hm => ?_, ih b fun y hy => hah y (by simp [hy])⟩
    obtain ⟨y, hy, e⟩ := List.mem_map.1 hm
    have := hah x (by simp)
    have := hah y (by simp [hy])
    have : y = x := by omega
    subst this
    exact a hy
theorem lkR_step (gs : List Nd) (hv : validG gs = true) (k : Nat) (hk : k < gs.length) (q t : Nat) (hq : (rdsN gs k)[q]? = some t) :
    lkR gs k (q + 1) = fun K => if K = 2 * t + 1 then ((fun K => if K = 2 * k then lkR gs k q (2 * k) ++ [t] else lkR gs k q K) (2 * t + 1)) ++ [k] else ((fun K => if K = 2 * k then lkR gs k q (2 * k) ++ [t] else lkR gs k q K) K) := by
  have hql := (List.getElem?_eq_some_iff.1 hq).1
  have htk : (rdsN gs k).take (q + 1) = (rdsN gs k).take q ++ [t] := by
    rw [List.take_add_one, hq]; rfl
  have hnd := rdsN_nodup gs hv k hk
  have hnt : t ∉ (rdsN gs k).take q := by
    intro hm
    obtain ⟨i, hi, e⟩ := List.mem_iff_getElem.1 hm
    rw [List.length_take] at hi
    rw [List.getElem_take] at e
    have h2 : (rdsN gs k)[q] = t := by rw [List.getElem?_eq_getElem hql] at hq; simpa using hq
    have := (List.getElem_inj hnd).1 (e.trans h2.symm)
    omega
  have htl : t < k := rdsN_lt gs hv k t hk (List.mem_of_getElem? hq)
  funext K
  dsimp only
  by_cases h1 : K = 2 * t + 1
  · subst h1
    have h0 : ¬ 2 * t + 1 = 2 * k := by omega
    rw [if_pos rfl, if_neg h0, lkR_odd, lkR_odd, htk, if_pos (by simp), if_neg hnt]
    simp
  · rw [if_neg h1]
    by_cases h2 : K = 2 * k
    · subst h2
      rw [if_pos rfl, lkR_even, lkR_even, if_neg (by omega), if_pos rfl, if_neg (by omega), if_pos rfl, htk]
    · rw [if_neg h2]
      obtain ⟨j, e⟩ : ∃ j, K = 2 * j ∨ K = 2 * j + 1 := ⟨K / 2, by omega⟩
      rcases e with e | e
      · subst e
        rw [lkR_even, lkR_even]
        have h3 : ¬ j = k := by omega
        rw [if_neg h3, if_neg h3]
      · subst e
        have h5 : ¬ j = t := by omega
        rw [lkR_odd, lkR_odd, htk]
        congr 1
        by_cases h6 : j ∈ (rdsN gs k).take q
        · rw [if_pos h6, if_pos (by simp [h6])]
        · rw [if_neg h6, if_neg (by simp [h6, h5])]
theorem LkW.mid {lo : Nat} {lb : List Nat} {R : Nat → List Nat} {V : List Value} {w w' : World} (h : LkW lo lb R V w) {K : Nat} {X : Value} {o : Obj} (hX : V[K]? = some X) (hg : (w.alloc o).grownBy w' X.ownBlock) :
    ∀ (i g' : Nat), lb[i]? = some g' → Bx g' [.int .i64 i, V.getD (2 * i) undef, V.getD (2 * i + 1) undef] w' ∧ Tg g' 64 w' := by
  have hs := h.step ((Below.refl _ _).alloc (Nat.le_refl _) o)
  have hKl : K < V.length := (List.getElem?_eq_some_iff.1 hX).1
  intro i g' hi
  have h1 := hs.bx i g' hi
  have e := hg.block g' h1.1.lt (fun e => by
    obtain ⟨A, m, c, e1, e2, e3⟩ := hs.rows.row K hKl
    rw [hX] at e1
    cases e1
    exact own_tag e3.1 h1.2.1 link_ne_ptr e.symm)
  exact ⟨h1.1.keepE e hg.size, h1.2.1.keep e⟩
theorem LkW.row {lo : Nat} {lb : List Nat} {R : Nat → List Nat} {V : List Value} {w : World} (h : LkW lo lb R V w) {K : Nat} (hK : K < 2 * lb.length) :
    ∃ A c, V[K]? = some (.slice A (R K).length c) ∧ V.getD K undef = .slice A (R K).length c ∧ w.ownsRow lo 65 1 (.slice A (R K).length c) (R K).length (ptrs lb (R K)) := by
  obtain ⟨A, m, c, e1, e2, e3⟩ := h.rows.row K (by have := h.vl; omega)
  subst e2
  exact ⟨A, c, e1, by simp [List.getD, e1], e3.1⟩
end Go.Proofs.Ytdhjflhpenkchaa

namespace Go.Proofs.Ytdhjflhpenkchaa
set_option linter.unusedSimpArgs false
set_option linter.unusedVariables false
open Go.RowKit Go.Maps
theorem row_head2 {w : World} {base n size : Nat} {e : TypeId} {v : Value} {xs : List Value} (h : w.ownsRow base e size v n xs) (hn : 0 < n) : ∃ g cap, v = .slice (some ⟨g, 0, none⟩) n cap := by
  rcases h.2 with ⟨hv, h0⟩ | ⟨g, cap, cur, hv, _⟩
  · omega
  · exact ⟨g, cap, hv⟩
theorem int_ne_ptr : (3 : TypeId) ≠ 65 := by decide
theorem int_ne_link : (3 : TypeId) ≠ 64 := by decide
theorem LkW.map {lo b : Nat} {lb : List Nat} {R : Nat → List Nat} {V : List Value} {w w' : World} (h : LkW lo lb R V w) (hg : w.grownBy w' (some b)) (hb : b < lo) : LkW lo lb R V w' := by
  have hk : ∀ q, lo ≤ q → q < w.heap.size → w'.heap[q]? = w.heap[q]? := fun q h1 h2 => hg.block q h2 (by simp; omega)
  refine ⟨h.vl, fun j g hj => ?_, h.up, (h.rows.keep fun q h1 h2 => hk q h1 h2).mono (Nat.le_refl _) hg.size, h.small⟩
  obtain ⟨h1, h2, h3⟩ := h.bx j g hj
  have e := hk g h3 h1.lt
  exact ⟨h1.keepE e hg.size, h2.keep e, h3⟩
set_option maxRecDepth 100000 in
set_option maxHeartbeats 3200000 in
theorem impl_linksOf (A : Option Addr) (n c : Nat) (gs : List Nd) (w : World) (B : Nat) (hB : B ≤ w.heap.size) (hn : n = gs.length) (h : GS w B A gs) (hv : validG gs = true) (hG : GB gs) :
    Calls Try.prog 56 #[.agg #[.slice A n c]] w fun e w' => ∃ lb, e = .returned (.map (some (w.heap.size + 1))) ∧ lb.length = n ∧ LkS w'.heap.size lb (linkR gs n) w' ∧ MpI w' (w.heap.size + 1) n (fun j => lb[j]?) ∧ Below w.heap.size w w' := by
  obtain ⟨i1, hi, hz0, hz1, hz2⟩ := info_parts info_link
  have hmm := @run_makeMap Try.prog
  have hn10 : n ≤ 10 := by have := (validG_parts gs hv).1; omega
  have H := Lib.hid h
  have HN := Lib.hid hn
  have HV := Lib.hid hv
  have HS := Lib.hid hG
  clear h hn hv hG
  go_enter Try.func56, Try.ntmps56
  go_wp2
  obtain ⟨w1, hw1⟩ : ∃ w1, w1 = (w.alloc (.cells #[.slice A n c] 25)).alloc (.map #[] 0) := ⟨_, rfl⟩
  have hz1w : w1.heap.size = w.heap.size + 2 := by rw [hw1]; simp
  have hMP1 : MpI w1 (w.heap.size + 1) 0 (fun _ => none) := by
    rw [hw1]
    have := MpI.made (w.alloc (.cells #[.slice A n c] 25))
    simpa using this
  have hb1 : Below w.heap.size w w1 := by rw [hw1]; exact ((Below.refl _ _).alloc (Nat.le_refl _) _).alloc (by simp) _
  have MP1 := Lib.hid hMP1
  have HB1 := Lib.hid hb1
  rw [← hw1]
  clear hw1 hMP1 hb1 hmm
  have HZ1 := Lib.hid hz1w
  have hz1g : w.heap.size + 2 ≤ w1.heap.size := by omega
  have HL0 : Hid (LkW (w.heap.size + 2) [] (linkR gs 0) [] w1) := by
    refine ⟨rfl, fun j g hj => by simp at hj, List.Pairwise.nil, ⟨fun j hj => by simp at hj, fun i j v u k _ hi => by simp at hi⟩, fun k q hq => ?_⟩
    unfold linkR at hq
    split at hq
    · rw [if_neg (by omega)] at hq; simp at hq
    · simp [usN] at hq
  clear hz1w
  go_loopw [14] (fun u wr => ∃ (k : Nat) (lb : List Nat) (V : List Value), k ≤ n ∧ u = .int .i64 k ∧ lb.length = k ∧ Hid (LkW (w.heap.size + 2) lb (linkR gs k) V wr) ∧ Hid (MpI wr (w.heap.size + 1) k (fun j => lb[j]?)) ∧ Hid (Below w.heap.size w wr) ∧ w.heap.size + 2 ≤ wr.heap.size) (fun u _ => n - (intOf u).toNat)
  case atStart => exact ⟨0, [], [], Nat.zero_le _, rfl, rfl, HL0.out, MP1.out, HB1.out, hz1g⟩
  case round =>
    obtain ⟨wo, rfl⟩ : ∃ wo : World, wo = wr := ⟨_, rfl⟩
    obtain ⟨k, lb, V, hk, rfl, hlb, HL, MP, HB, hwr⟩ := hrel
    by_cases hlt : k < n
    · have hkg : k < gs.length := by have := HN.out; omega
      have HGR := Lib.hid (H.out.below HB.out hB)
      obtain ⟨b, off, rfl, hbB, e0, A1, n1, c1, e1, hn1', hps⟩ := HGR.out.at_ k hkg
      have hbw : b < wo.heap.size := by omega
      have hx := HS.out.2 k
      have hmf := mayF_valid gs k HV.out hkg
      have hlm := mayR_len (gs.getD k default).ps 10
      rw [mayR_below] at hlm
      have HPS := Lib.hid (hps.more (B' := wo.heap.size) (by omega))
      have hrd : rdsN gs k = (mayR (gs.getD k default).ps).map Int.toNat := rfl
      have HRD := Lib.hid hrd
      have HAH := Lib.hid (mayR_ahead gs k HV.out hkg)
      have HLB := Lib.hid hlb
      have hnew := linkR_new gs HV.out k (by omega)
      clear hrd hps
      generalize gs.getD k default = d at *
      have HMR := Lib.hid fun (w' : World) (hB : wo.heap.size ≤ w'.heap.size) (h : PS w' wo.heap.size A1 d.ps) => impl_MayRead A1 n1 c1 d.ps w' wo.heap.size hB hn1' h (by omega)
      rw [hmf] at HMR
      generalize mayR d.ps = L at *
      generalize hl : L.length = l at *
      have HLn := Lib.hid hl
      obtain ⟨W, hW⟩ : ∃ W, W = wo.alloc (.cells #[.int .i64 d.k, .slice A1 n1 c1] 38) := ⟨_, rfl⟩
      have hWb : Below wo.heap.size wo W := by rw [hW]; exact (Below.refl _ _).alloc (Nat.le_refl _) _
      have hWz : W.heap.size = wo.heap.size + 1 := by rw [hW]; simp
      have HLW := Lib.hid (HL.out.step hWb)
      have HLN : Hid (LkW (w.heap.size + 2) (lb ++ [wo.heap.size + 1]) (linkR gs k) (V ++ [.slice none 0 0, .slice none 0 0]) (W.alloc (.cells #[.int .i64 k, .slice none 0 0, .slice none 0 0] 64))) := by
        have := HLW.out.new (by omega) (by rw [hlb]; exact hnew.1) (by rw [hlb]; exact hnew.2)
        rw [hlb, hWz] at this
        exact this
      have MPW := Lib.hid ((MP.out.step hWb).alloc (.cells #[.int .i64 k, .slice none 0 0, .slice none 0 0] 64))
      have HBW := Lib.hid ((HB.out.trans (hWb.mono (by omega))).alloc (by omega) (.cells #[.int .i64 k, .slice none 0 0, .slice none 0 0] 64))
      have HPW := Lib.hid ((HPS.out.below hWb (Nat.le_refl _)).alloc (by omega) (.cells #[.int .i64 k, .slice none 0 0, .slice none 0 0] 64))
      rw [hW] at HLN MPW HBW HPW
      clear hmf hl hn1' hx hW hWb hWz HLW HPS HGR hnew
      go_wp2_with fail
      refine (HMR.out _ (by simp; omega) HPW.out).mono ?_
      rintro e w3 ⟨v3, rfl, ho3, hb3⟩
      obtain ⟨A3, c3, rfl, hI3⟩ := OwnI.at_ ho3 HLn.out
      unfold OwnI at ho3
      rw [HLn.out] at ho3
      have hz3 : wo.heap.size + 1 + 1 ≤ w3.heap.size := by have := hb3.size; simpa using this
      have HL3 := Lib.hid (HLN.out.step hb3)
      have MP3 := Lib.hid (MPW.out.step hb3)
      have HB3 := Lib.hid (HBW.out.trans (hb3.mono (by simp; omega)))
      have HO3 := Lib.hid (own_mono (base' := w.heap.size) ho3 (by simp; omega))
      clear ho3 hb3 hI3 HLN MPW HBW HPW e0 e1
      have HLI : Hid (LkW (w.heap.size + 2) (lb ++ [wo.heap.size + 1]) (lkR gs k 0) (V ++ [.slice none 0 0, .slice none 0 0]) w3) := by rw [lkR_zero]; exact HL3.out
      clear HL3
      go_wp2
      go_loopw [26] (fun u wi => ∃ (j : Nat) (V : List Value), j ≤ l ∧ u = .int .i64 j ∧ Hid (LkW (w.heap.size + 2) (lb ++ [wo.heap.size + 1]) (lkR gs k j) V wi) ∧ Hid (MpI wi (w.heap.size + 1) k (fun j => lb[j]?)) ∧ Hid (wi.ownsRow w.heap.size 3 1 (.slice A3 l c3) l (L.map (Value.int .i64))) ∧ Hid (Below w.heap.size w wi) ∧ w3.heap.size ≤ wi.heap.size) (fun u _ => l - (intOf u).toNat)
      case atStart => exact ⟨0, _, Nat.zero_le _, rfl, HLI.out, MP3.out, HO3.out, HB3.out, Nat.le_refl _⟩
      case round =>
        obtain ⟨j, V, hj, rfl, HLJ, MPJ, HOJ, HBJ, hwi⟩ := hrel
        by_cases hjl : j < l
        · have hjL : j < L.length := by have := HLn.out; omega
          obtain ⟨g3, c3', hA3⟩ := row_head2 HOJ.out (by omega)
          simp only [Value.slice.injEq] at hA3
          obtain ⟨rfl, -, rfl⟩ := hA3
          have hx := HOJ.out.cellAt j (by omega)
          rw [List.getElem?_map, List.getElem?_eq_getElem hjL, Option.map_some] at hx
          have hmem : L[j] ∈ L := List.getElem_mem hjL
          obtain ⟨ht0, htk⟩ := HAH.out _ hmem
          obtain ⟨t, htx⟩ : ∃ t : Nat, L[j] = (t : Int) := ⟨L[j].toNat, by omega⟩
          have hqt : (rdsN gs k)[j]? = some t := by
            rw [HRD.out, List.getElem?_map, List.getElem?_eq_getElem hjL, htx]; rfl
          rw [htx] at hx ht0 htk
          have HST := Lib.hid (lkR_step gs HV.out k hkg j t hqt)
          have htl : t < k := by omega
          have hbl : t < lb.length := by have := HLB.out; omega
          obtain ⟨gt, hgt⟩ : ∃ gt, lb[t]? = some gt := ⟨_, List.getElem?_eq_getElem hbl⟩
          have hlook : (Instr.lookup 66 (.map (some (w.heap.size + 1))) (.int .i64 t) false).run Try.prog wr = .ok (.pointer (some ⟨gt, 0, none⟩)) wr := by
            have h := MPJ.out.look t (by omega)
            rw [hgt] at h
            exact h
          have hgt2 : (lb ++ [wo.heap.size + 1])[t]? = some gt := by rw [List.getElem?_append_left hbl]; exact hgt
          have hgk2 : (lb ++ [wo.heap.size + 1])[k]? = some (wo.heap.size + 1) := by rw [List.getElem?_append_right (by have := HLB.out; omega), HLB.out, Nat.sub_self]; rfl
          have hll : (lb ++ [wo.heap.size + 1]).length = k + 1 := by rw [List.length_append, HLB.out]; rfl
          have HLL := Lib.hid hll
          have HGT2 := Lib.hid hgt2
          have HGK2 := Lib.hid hgk2
          obtain ⟨A5, c5, hX5, hX5', hr5⟩ := HLJ.out.row (K := 2 * k) (by rw [hll]; omega)
          have hbk := (HLJ.out.bx k _ hgk2).1
          rw [hX5'] at hbk
          have k1 := hbk.c 1 _ rfl
          have HX5 := Lib.hid hX5
          have HR5 := Lib.hid hr5
          have hrl : (lkR gs k j (2 * k)).length ≤ 10 := by
            rw [lkR_even, if_neg (by omega), if_pos rfl, HRD.out, List.length_take, List.length_map]
            have := HLn.out; omega
          clear hX5 hX5' hr5 hbk hgt hgt2 hgk2 hll hmem htx hqt
          generalize hml : (lkR gs k j (2 * k)).length = m5 at *
          have HML := Lib.hid hml
          have hgbig : w.heap.size + 2 ≤ gt := by have := (HLJ.out.bx t gt HGT2.out).2.2; omega
          clear hml
          go_wp2_with (at_builtin; refine wpList_append_own_at _ rfl _ _ 62 rfl (w.heap.size + 2) 65 i1 (.pointer none) 1 8 Try.underlying62 hi hz0 hz1 hz2 rfl (by decide) _ _ _ rfl (HR5.out.alloc _) ⟨_, 0, none⟩ 1 1 [.pointer (some ⟨gt, 0, none⟩)] rfl rfl (cell_one_new _ _ _) ?c2 ?c3 ?c4 ?c5 ?_)
          case c2 => first | rfl | (intro u hu; simp at hu; subst hu; rfl)
          case c3 => unfold maxLen; omega
          case c4 => omega
          case c5 => first | omega | (simp; omega)
          intro v' w5 hown' hgrow _ hat
          obtain ⟨g5, c5', rfl⟩ := row_head2 hown' (by omega)
          have hsz : (wr.alloc (.cells #[.pointer (some ⟨gt, 0, none⟩)] 65)).heap.size = wr.heap.size + 1 := by simp
          have hmid := HLJ.out.mid HX5.out hgrow
          have m1 := (hmid k _ HGK2.out).1
          have n1' := m1.c 1 _ (show _ = some _ from rfl)
          have f1' := m1.f 1
          have HAPP := Lib.hid (HLJ.out.app (fld := 0) (K := 2 * k) (q := t) HGK2.out (by omega) (by omega) HGT2.out HX5.out hown' (by have := HML.out; omega) hgrow (by rcases hat with h | h; exact .inl h; exact .inr (by rw [hsz]; exact h)))
          have hpos := hown'.lt g5 rfl
          have hrow5 := (HR5.out.alloc (.cells #[.pointer (some ⟨gt, 0, none⟩)] 65)).lt
          have MP5 := Lib.hid (((MPJ.out.alloc (.cells #[.pointer (some ⟨gt, 0, none⟩)] 65)).grown hgrow (fun e => by have := (hrow5 _ e.symm).1; omega)).setCell ⟨wo.heap.size + 1, 1 + 0, none⟩ (by show w.heap.size + 1 ≠ wo.heap.size + 1; omega) (.slice (some ⟨g5, 0, none⟩) (m5 + 1) c5'))
          have HB5 : Hid (Below w.heap.size w (w5.setCell ⟨wo.heap.size + 1, 1 + 0, none⟩ (.slice (some ⟨g5, 0, none⟩) (m5 + 1) c5'))) := ((HBJ.out.alloc HBJ.out.size (.cells #[.pointer (some ⟨gt, 0, none⟩)] 65)).grown hgrow (by omega) (fun q hq => by have := (hrow5 q hq).1; omega)).setCell (by show w.heap.size ≤ wo.heap.size + 1; omega) _
          have HO5 := Lib.hid (own_setT ((HOJ.out.alloc (.cells #[.pointer (some ⟨gt, 0, none⟩)] 65)).kept hgrow (blocks_ne (HOJ.out.alloc (.cells #[.pointer (some ⟨gt, 0, none⟩)] 65)) (HR5.out.alloc (.cells #[.pointer (some ⟨gt, 0, none⟩)] 65)) int_ne_ptr)) (hmid k _ HGK2.out).2 int_ne_link (1 + 0) none (.slice (some ⟨g5, 0, none⟩) (m5 + 1) c5'))
          have hzz : wr.heap.size + 1 ≤ w5.heap.size := by have := hgrow.size; omega
          clear hown' hgrow hat hmid m1 hrow5 hpos
          go_upto_region 11 with fail
          obtain ⟨w6, hw6⟩ : ∃ w6, w6 = w5.setCell ⟨wo.heap.size + 1, 1, none⟩ (.slice (some ⟨g5, 0, none⟩) (m5 + 1) c5') := ⟨_, rfl⟩
          have e6 : w5.setCell ⟨wo.heap.size + 1, 1 + 0, none⟩ (.slice (some ⟨g5, 0, none⟩) (m5 + 1) c5') = w6 := hw6.symm
          rw [← hw6]
          rw [e6] at HAPP MP5 HB5 HO5
          have hz6 : wr.heap.size + 1 ≤ w6.heap.size := by rw [hw6]; simpa [World.setCell] using hzz
          have HLJ6 := Lib.hid HAPP.out
          obtain ⟨A8, c8, hX8, hX8', hr8⟩ := HLJ6.out.row (K := 2 * t + 1) (by have := HLL.out; omega)
          have hbt := (HLJ6.out.bx t _ HGT2.out).1
          rw [hX8'] at hbt
          have k8 := hbt.c 2 _ rfl
          have HX8 := Lib.hid hX8
          have HR8 := Lib.hid hr8
          have hrl8 : ((fun K => if K = 2 * k then lkR gs k j (2 * k) ++ [t] else lkR gs k j K) (2 * t + 1)).length ≤ 10 := by
            dsimp only
            rw [if_neg (by omega), lkR_odd, List.length_append]
            have h1 : (usN gs k t).length ≤ k := by unfold usN; have := List.length_filter_le (fun u => decide ((t : Int) ∈ mayR (gs.getD u default).ps)) (List.range k); simpa using this
            split
            · simp; omega
            · simp; omega
          clear hX8 hX8' hr8 hbt hw6 e6 HAPP
          generalize hml8 : ((fun K => if K = 2 * k then lkR gs k j (2 * k) ++ [t] else lkR gs k j K) (2 * t + 1)).length = m8 at *
          have HML8 := Lib.hid hml8
          clear hml8
          clear n1' f1' hx hlook k1
          go_wp2_with (at_builtin; refine wpList_append_own_at _ rfl _ _ 62 rfl (w.heap.size + 2) 65 i1 (.pointer none) 1 8 Try.underlying62 hi hz0 hz1 hz2 rfl (by decide) _ _ _ rfl (HR8.out.alloc _) ⟨_, 0, none⟩ 1 1 [.pointer (some ⟨wo.heap.size + 1, 0, none⟩)] rfl rfl (cell_one_new _ _ _) ?c2 ?c3 ?c4 ?c5 ?_)
          case c2 => first | rfl | (intro u hu; simp at hu; subst hu; rfl)
          case c3 => unfold maxLen; omega
          case c4 => omega
          case c5 => first | omega | (simp; omega)
          intro v' w7 hown' hgrow _ hat
          obtain ⟨g7, c7', rfl⟩ := row_head2 hown' (by omega)
          have hsz : (w6.alloc (.cells #[.pointer (some ⟨wo.heap.size + 1, 0, none⟩)] 65)).heap.size = w6.heap.size + 1 := by simp
          have hmid := HLJ6.out.mid HX8.out hgrow
          have m1 := (hmid t _ HGT2.out).1
          have n2' := m1.c 2 _ (show _ = some _ from rfl)
          have f2' := m1.f 2
          have HAPP := Lib.hid (HLJ6.out.app (fld := 1) (K := 2 * t + 1) (q := k) (m' := m8 + 1) (c' := c7') (A' := some ⟨g7, 0, none⟩) HGT2.out (by omega) (by omega) HGK2.out HX8.out (by have e : (if 2 * t + 1 = 2 * k then lkR gs k j (2 * k) ++ [t] else lkR gs k j (2 * t + 1)) = lkR gs k j (2 * t + 1) := if_neg (by omega); first | exact hown' | (rw [e]; exact hown') | (show World.ownsRow _ _ _ _ _ _ (ptrs _ (if 2 * t + 1 = 2 * k then lkR gs k j (2 * k) ++ [t] else lkR gs k j (2 * t + 1)) ++ _); rw [e]; exact hown')) (congrArg (· + 1) HML8.out.symm) hgrow (by rcases hat with h | h; exact .inl h; exact .inr (by rw [hsz]; exact h)))
          have hpos := hown'.lt g7 rfl
          have hrow8 := (HR8.out.alloc (.cells #[.pointer (some ⟨wo.heap.size + 1, 0, none⟩)] 65)).lt
          have MP7 := Lib.hid (((MP5.out.alloc (.cells #[.pointer (some ⟨wo.heap.size + 1, 0, none⟩)] 65)).grown hgrow (fun e => by have := (hrow8 _ e.symm).1; omega)).setCell ⟨gt, 1 + 1, none⟩ (by show w.heap.size + 1 ≠ gt; omega) (.slice (some ⟨g7, 0, none⟩) (m8 + 1) c7'))
          have HB7 : Hid (Below w.heap.size w (w7.setCell ⟨gt, 1 + 1, none⟩ (.slice (some ⟨g7, 0, none⟩) (m8 + 1) c7'))) := ((HB5.out.alloc HB5.out.size (.cells #[.pointer (some ⟨wo.heap.size + 1, 0, none⟩)] 65)).grown hgrow (by omega) (fun q hq => by have := (hrow8 q hq).1; omega)).setCell (by show w.heap.size ≤ gt; omega) _
          have HO7 := Lib.hid (own_setT ((HO5.out.alloc (.cells #[.pointer (some ⟨wo.heap.size + 1, 0, none⟩)] 65)).kept hgrow (blocks_ne (HO5.out.alloc (.cells #[.pointer (some ⟨wo.heap.size + 1, 0, none⟩)] 65)) (HR8.out.alloc (.cells #[.pointer (some ⟨wo.heap.size + 1, 0, none⟩)] 65)) int_ne_ptr)) (hmid t _ HGT2.out).2 int_ne_link (1 + 1) none (.slice (some ⟨g7, 0, none⟩) (m8 + 1) c7'))
          have hzz7 : w6.heap.size + 1 ≤ w7.heap.size := by have := hgrow.size; omega
          clear hown' hgrow hat hmid m1 hrow8 hpos
          go_wp2
          go_roundw
          case rel => exact ⟨j + 1, _, by omega, by go_num, by rw [HST.out]; exact HAPP.out, MP7.out, HO7.out, HB7.out, by simp [World.setCell]; omega⟩
          case measure => simp [intOf]; omega
        · obtain rfl : j = l := by omega
          have hrl : (rdsN gs k).length = j := by rw [HRD.out, List.length_map, HLn.out]
          have HLA : Hid (LkW (w.heap.size + 2) (lb ++ [wo.heap.size + 1]) (linkR gs (k + 1)) V wr) := by rw [← lkR_all gs HV.out k hkg j hrl]; exact HLJ.out
          go_wp2_with (at_mapUpdate; refine wpList_store_ptr _ rfl _ _ _ rfl (w.heap.size + 1) k _ rfl MPJ.out (by unfold maxLen; omega) k (wo.heap.size + 1) (by omega) rfl rfl ?_)
          intro w9 hmp9 hgrow9
          have hb9 : Below (w.heap.size + 2) wr w9 → True := fun _ => trivial
          have HL9 : Hid (LkW (w.heap.size + 2) (lb ++ [wo.heap.size + 1]) (linkR gs (k + 1)) V w9) := HLA.out.map hgrow9 (by omega)
          have HB9 : Hid (Below w.heap.size w w9) := HBJ.out.grown hgrow9 (by omega) (fun q hq => by simp at hq; omega)
          have MP9 : Hid (MpI w9 (w.heap.size + 1) (k + 1) fun j => (lb ++ [wo.heap.size + 1])[j]?) := by
            have e : (fun j => if j = k then some (wo.heap.size + 1) else lb[j]?) = fun j => (lb ++ [wo.heap.size + 1])[j]? := by
              funext i
              by_cases h : i = k
              · rw [if_pos h, h, ← HLB.out, List.getElem?_append_right (Nat.le_refl _), Nat.sub_self]; rfl
              · rw [if_neg h]
                rcases Nat.lt_or_ge i lb.length with h1 | h1
                · rw [List.getElem?_append_left h1]
                · rw [List.getElem?_eq_none h1, List.getElem?_eq_none (by have := HLB.out; simp; omega)]
            rw [← e]; exact hmp9
          have hz9 := hgrow9.size
          clear hmp9 hgrow9
          go_wp2
          go_roundw
          case rel => exact ⟨k + 1, _, V, by omega, by go_num, by rw [List.length_append, HLB.out]; rfl, HL9.out, MP9.out, HB9.out, by omega⟩
          case measure => simp [intOf]; omega
    · obtain rfl : k = n := by omega
      go_wp2
      go_ret
      exact ⟨lb, rfl, hlb, HL.out.read, MP.out, HB.out⟩
end Go.Proofs.Ytdhjflhpenkchaa

namespace Go.Proofs.Ytdhjflhpenkchaa
set_option linter.unusedSimpArgs false
set_option linter.unusedVariables false
open Go.RowKit Go.Maps
theorem LkS.grown {B mb : Nat} {lb : List Nat} {R : Nat → List Nat} {w w' : World} (h : LkS B lb R w) (hg : w.grownBy w' (some mb)) (hB : B ≤ mb) (hw : B ≤ w.heap.size) : LkS B lb R w' :=
  h.keep fun p hp => World.cell?_of_block (w := w) (hg.block p.block (by omega) (by simp; omega))
end Go.Proofs.Ytdhjflhpenkchaa

namespace Go.Proofs.Ytdhjflhpenkchaa
set_option linter.unusedSimpArgs false
set_option linter.unusedVariables false
open Go.RowKit
set_option maxHeartbeats 800000 in
theorem impl_hasNode (A : Option Addr) (n c : Nat) (gs : List Nd) (x : Int) (w : World) (B : Nat) (hB : B ≤ w.heap.size) (hn : n = gs.length) (hnc : n ≤ c) (h : GS w B A gs) (hs : GB gs) :
    Calls Try.prog 55 #[.agg #[.slice A n c], .int .i64 x] w fun e w' => e = .returned (.bool (validG gs && hasN gs x)) ∧ Below w.heap.size w w' := by
  have hr : hasN gs x = rng x 0 ((n : Int) - 1) := by rw [hn]; rfl
  have hn1 : n ≤ 1048576 := by rw [hn]; exact hs.1
  rw [hr]
  have H := Lib.hid h
  have HVG := Lib.hid fun (w' : World) (hB : B ≤ w'.heap.size) (h : GS w' B A gs) => impl_ValidGraph A n c gs w' B hB hn h hs hnc
  clear h hn hs hr
  cases hv : validG gs
  all_goals
    rw [hv] at HVG
    clear hv
    go_enter Try.func55, Try.ntmps55
    go_wp2_with fail
    refine (HVG.out _ (by simp; omega) (H.out.alloc hB _)).mono ?_
    rintro e w1 ⟨rfl, hb⟩
    have q : w1.cell? ⟨w.heap.size, 0, none⟩ = some (.slice A n c) := (hb.cell (p := ⟨w.heap.size, 0, none⟩) (by simp)).trans (by go_simp)
    go_wp2_with (go_at_call 99; refine (impl_inRange _ _ _).mono ?_; rintro e w' ⟨rfl, rfl⟩)
    go_ret
    exact ⟨ret_b (by simp), ((Below.refl _ _).alloc (Nat.le_refl _) _).trans (hb.mono (by simp))⟩
/-- Returns a fresh slice of numbers and a bool, or nothing. -/
theorem RetIB.nil {w w' : World} (hb : Below w.heap.size w w') : RetIB w [] false (.returned (.tuple #[.slice none 0 0, .bool false])) w' := ⟨_, rfl, World.ownsRow_nil _ _ _ _, hb⟩
end Go.Proofs.Ytdhjflhpenkchaa

namespace Go.Proofs.Ytdhjflhpenkchaa
set_option linter.unusedSimpArgs false
set_option linter.unusedVariables false
open Go.RowKit Go.Maps
theorem hasB_parts (gs : List Nd) (x : Int) (h : hasB gs x = true) : validG gs = true ∧ gs.length ≤ 10 ∧ ∃ t : Nat, x = (t : Int) ∧ t < gs.length := by
  unfold hasB at h
  simp only [Bool.and_eq_true] at h
  exact ⟨h.1, (validG_parts gs h.1).1, hasN_nat gs x h.2⟩
theorem usN_len (gs : List Nd) (n j : Nat) : (usN gs n j).length ≤ n := by
  unfold usN
  have := List.length_filter_le (fun u => decide ((j : Int) ∈ mayR (gs.getD u default).ps)) (List.range n)
  simpa using this
theorem usersF_len (gs : List Nd) (x : Int) : (usersF gs x).length ≤ 10 := by
  unfold usersF
  split
  · rename_i h
    have := (hasB_parts gs x h).2.1
    have := usN_len gs gs.length x.toNat
    rw [List.length_map]; omega
  · simp
theorem linkR_users (gs : List Nd) : (fun x => linkR gs gs.length (2 * x + 1)) = usN gs gs.length := by
  funext x
  unfold linkR
  rw [if_neg (by omega), show (2 * x + 1) / 2 = x by omega]
end Go.Proofs.Ytdhjflhpenkchaa

namespace Go.Proofs.Ytdhjflhpenkchaa
set_option linter.unusedSimpArgs false
set_option linter.unusedVariables false
open Go.RowKit
def usI (gs : List Nd) (k t : Nat) : List Int := (usN gs k t).map fun u : Nat => (u : Int)
theorem usI_succ (gs : List Nd) (k t : Nat) : usI gs (k + 1) t = usI gs k t ++ (if (t : Int) ∈ mayR (gs.getD k default).ps then [(k : Int)] else []) := by
  unfold usI
  rw [usN_succ, List.map_append]
  congr 1
  split <;> rfl
theorem usI_len (gs : List Nd) (k t : Nat) : (usI gs k t).length ≤ k := by unfold usI; rw [List.length_map]; exact usN_len gs k t
theorem usI_start (gs : List Nd) (hv : validG gs = true) (t : Nat) (ht : t < gs.length) : usI gs (t + 1) t = [] := by
  unfold usI
  rw [List.map_eq_nil_iff]
  unfold usN
  rw [List.filter_eq_nil_iff]
  intro u hu hc
  have h1 : u ∈ usN gs (t + 1) t := List.mem_filter.2 ⟨hu, hc⟩
  have := usN_gt gs hv (t + 1) t u (by omega) h1
  have := List.mem_range.1 hu
  omega
set_option maxRecDepth 100000 in
set_option maxHeartbeats 1600000 in
theorem spec_users (A : Option Addr) (n c : Nat) (gs : List Nd) (t : Nat) (w : World) (B : Nat) (hB : B ≤ w.heap.size) (hn : n = gs.length) (h : GS w B A gs) (hv : validG gs = true) (hG : GB gs) (ht : t < n) :
    Calls Try.prog 59 #[.agg #[.slice A n c], .int .i64 t] w fun e w' => RetI w (usI gs n t) e w' := by
  obtain ⟨i0, hi, hz0, hz1, hz2⟩ := info_parts info_int
  have hn10 : n ≤ 10 := by have := (validG_parts gs hv).1; omega
  have hs0 := usI_start gs hv t (by omega)
  have H := Lib.hid h
  have HN := Lib.hid hn
  have HV := Lib.hid hv
  have HS := Lib.hid hG
  have HS0 := Lib.hid hs0
  clear h hn hv hG hs0
  go_enter Try.func59, Try.ntmps59
  go_wp2
  go_loopw [5, 6] (fun v i wr => ∃ k : Nat, t + 1 ≤ k ∧ k ≤ n ∧ i = .int .i64 k ∧ Hid (OwnI wr (w.heap.size + 1) v (usI gs k t)) ∧ Below (w.heap.size + 1) (w.alloc (.cells #[.slice A n c] 25)) wr) (fun _ i _ => n - (intOf i).toNat)
  case atStart =>
    refine ⟨t + 1, Nat.le_refl _, by omega, by go_num, ?_, (Below.refl _ _).alloc (by simp) _⟩
    rw [HS0.out]
    have := World.ownsRow_lit (e := 3) (size := 1) (base := w.heap.size + 1) (w.alloc (.cells #[.slice A n c] 25)) #[] 0 (by simp) (by unfold maxLen; omega) rfl
    simpa [OwnI, Hid] using this
  case round =>
    obtain ⟨k, hk1, hk, rfl, HO, hbr⟩ := hrel
    have hbox : wr.cell? ⟨w.heap.size, 0, none⟩ = some (.slice A n c) := (hbr.cell (p := ⟨w.heap.size, 0, none⟩) (by simp)).trans (by go_simp)
    have hwr : w.heap.size + 1 ≤ wr.heap.size := by have := hbr.size; simpa using this
    by_cases hlt : k < n
    · have hkg : k < gs.length := by have := HN.out; omega
      obtain ⟨b, off, rfl, hbB, c0, A1, n1, c1, c2, hn1', hps⟩ := H.out.at_ k hkg
      have hx := HS.out.2 k
      have e1 : wr.cell? ⟨b, off + k * 2 + 1, none⟩ = _ := ((hbr.cell (p := ⟨b, off + k * 2 + 1, none⟩) (by simp; omega)).trans (World.cell?_alloc_lt _ _ _ (by simp; omega))).trans c2
      have HPS := Lib.hid (((hps.alloc hB (.cells #[.slice (some ⟨b, off, none⟩) n c] 25)).below hbr (by omega)).more (B' := wr.heap.size) (by omega))
      have HST := Lib.hid (usI_succ gs k t)
      have hml := usI_len gs k t
      generalize gs.getD k default = d at *
      have HMR := Lib.hid fun (w' : World) (hB : wr.heap.size ≤ w'.heap.size) (h : PS w' wr.heap.size A1 d.ps) => spec_mayRead A1 n1 c1 d.ps w' wr.heap.size hB hn1' h (by omega)
      have hlm := mayR_len d.ps 10
      rw [mayR_below] at hlm
      generalize mayR d.ps = L at *
      generalize usI gs k t = M at *
      generalize hl : L.length = l at *
      have HL := Lib.hid hl
      clear hl hn1' hx c0 c2 hps
      go_wp2_with fail
      refine (HMR.out _ (Nat.le_refl _) HPS.out).mono ?_
      rintro e w2 ⟨v2, rfl, hown2, hb2⟩
      obtain ⟨g, cL, hgv, hbg, hgw⟩ := hown2.form
      rw [HL.out] at hgv
      subst hgv
      have hIL : IS w2 w2.heap.size (some ⟨g, 0, none⟩) L := by have := hown2.1; rw [HL.out] at this; exact IS.of_own this
      have HIL := Lib.hid hIL
      have HO2 := Lib.hid (own_below HO.out hb2)
      have hbr2 := hbr.trans (hb2.mono hwr)
      have hw2 : w.heap.size + 1 ≤ w2.heap.size := by have := hb2.size; omega
      have hpl := plc_ge L (t : Int)
      clear hown2 hIL hb2
      go_wp2_with fail
      refine (spec_placeIn (some ⟨g, 0, none⟩) l cL L (t : Int) w2 w2.heap.size (Nat.le_refl _) HL.out.symm HIL.out (by omega)).mono ?_
      rintro e w3 ⟨rfl, rfl⟩
      generalize plc L (t : Int) = p at *
      by_cases hm : (t : Int) ∈ L
      · rw [decide_eq_true hm] at hpl
        have HST2 := Lib.hid (HST.out.trans (by rw [if_pos hm]))
        clear hm HST
        go_wp2_with (at_builtin; refine wpList_append_own _ rfl _ _ 28 rfl (w.heap.size + 1) 3 i0 (.int .i64 0) 1 8 Try.underlying28 hi hz0 hz1 hz2 rfl (by decide) _ _ _ rfl (HO2.out.alloc _) ⟨_, 0, none⟩ 1 1 [.int .i64 k] rfl rfl (cell_one_new _ _ _) ?c2 ?c3 ?c4 ?c5 ?_)
        case c2 => first | rfl | (intro u hu; simp at hu; subst hu; rfl)
        case c3 => unfold maxLen; omega
        case c4 => omega
        case c5 => first | omega | (simp; omega)
        intro v' w4 hown' hgrow _
        have hpos := (HO2.out.alloc (.cells #[.int .i64 k] 3)).lt
        have HO' : Hid (OwnI w4 (w.heap.size + 1) v' (usI gs (k + 1) t)) := by
          rw [HST2.out]
          simpa [OwnI, Hid] using hown'
        have HB' := Lib.hid ((hbr2.alloc hw2 (.cells #[.int .i64 k] 3)).grown hgrow (by simp; omega) (fun q hq => (hpos q hq).1))
        clear hown' hgrow hpos
        go_wp2
        go_roundw
        case rel => exact ⟨k + 1, by omega, by omega, by go_num, HO'.out, HB'.out⟩
        case measure => simp [intOf]; omega
      · rw [decide_eq_false hm] at hpl
        have HST2 := Lib.hid (HST.out.trans (by rw [if_neg hm, List.append_nil]))
        clear hm HST
        go_wp2
        go_roundw
        case rel => exact ⟨k + 1, by omega, by omega, by go_num, by rw [HST2.out]; exact HO2.out, hbr2⟩
        case measure => simp [intOf]; omega
    · obtain rfl : k = n := by omega
      go_wp2
      go_ret
      exact ⟨_, rfl, own_mono HO.out (by omega), ((Below.refl _ _).alloc (Nat.le_refl _) _).trans (hbr.mono (by omega))⟩
end Go.Proofs.Ytdhjflhpenkchaa

namespace Go.Proofs.Ytdhjflhpenkchaa
set_option linter.unusedSimpArgs false
set_option linter.unusedVariables false
open Go.RowKit Go.Maps
set_option maxRecDepth 100000 in
set_option maxHeartbeats 1600000 in
theorem top_spec_UsersOf (gs : List Nd) (x : Int) (hG : GB gs) : ∀ (A : Option Addr) (n c : Nat) (w : World), n = gs.length → n ≤ c → GS w w.heap.size A gs →
    Calls Try.prog 16 #[.agg #[.slice A n c], .int .i64 x] w fun e w' => RetI w (usersF gs x) e w' := by
  intro A n c w hn hnc h
  have HH := Lib.hid (spec_validGraph A n c gs (w.alloc (.cells #[.slice A n c] 25)) w.heap.size (by simp) hn (h.alloc (Nat.le_refl _) _) hG)
  have H := Lib.hid h
  have hn1 : n ≤ 1048576 := by rw [hn]; exact hG.1
  have hrg : rng x 0 ((n : Int) - 1) = hasN gs x := by rw [hn]; rfl
  cases hb : hasB gs x
  · have hr : usersF gs x = [] := by unfold usersF; rw [hb]; rfl
    rw [hr]
    have hbb : (validG gs && hasN gs x) = false := hb
    generalize validG gs = b0 at *
    generalize hasN gs x = b1 at *
    clear hb hr h hn hG
    go_enter Try.func16, Try.ntmps16
    go_wp2_with fail
    refine HH.out.mono ?_
    rintro e w1 ⟨rfl, hb⟩
    have q1 : w1.cell? ⟨w.heap.size, 0, none⟩ = some (.slice A n c) := (hb.cell (p := ⟨w.heap.size, 0, none⟩) (by simp)).trans (by go_simp)
    have hB1 : Below w.heap.size w w1 := ((Below.refl _ _).alloc (Nat.le_refl _) _).trans (hb.mono (by simp))
    have hl1 : w.heap.size < w1.heap.size := by have := hb.size; simp at this; omega
    clear hb
    cases b0
    · go_wp2
      go_ret
      exact RetI.nil hB1
    · have hb1 : b1 = false := by simpa using hbb
      subst hb1
      go_wp2_with (go_at_call 58; refine (spec_inRange _ _ _ _).mono ?_; rintro e w' ⟨rfl, rfl⟩)
      go_ret
      exact RetI.nil hB1
  · obtain ⟨hv, h10, t, rfl, ht⟩ := hasB_parts gs x hb
    have hr : usersF gs t = usI gs gs.length t := by unfold usersF; rw [hb]; rfl
    have hhn : hasN gs (t : Int) = true := by unfold hasB at hb; simp only [Bool.and_eq_true] at hb; exact hb.2
    rw [hr]
    rw [hv] at HH
    rw [hhn] at hrg
    have htn : t < n := by omega
    have HFU := Lib.hid fun (w' : World) (hB : w.heap.size ≤ w'.heap.size) (h : GS w' w.heap.size A gs) => (by rw [← hn]; exact spec_users A n c gs t w' w.heap.size hB hn h hv hG htn : Calls Try.prog 59 #[.agg #[.slice A n c], .int .i64 t] w' fun e w'' => RetI w' (usI gs gs.length t) e w'')
    generalize usI gs gs.length t = R at *
    clear hb hr h hn hG hhn
    go_enter Try.func16, Try.ntmps16
    go_wp2_with fail
    refine HH.out.mono ?_
    rintro e w1 ⟨rfl, hb⟩
    have q1 : w1.cell? ⟨w.heap.size, 0, none⟩ = some (.slice A n c) := (hb.cell (p := ⟨w.heap.size, 0, none⟩) (by simp)).trans (by go_simp)
    have HG1 := Lib.hid ((H.out.alloc (Nat.le_refl _) (.cells #[.slice A n c] 25)).below hb (by simp))
    have hB1 : Below w.heap.size w w1 := ((Below.refl _ _).alloc (Nat.le_refl _) _).trans (hb.mono (by simp))
    have hl1 : w.heap.size < w1.heap.size := by have := hb.size; simp at this; omega
    clear hb
    go_wp2_with (go_at_call 58; refine (spec_inRange _ _ _ _).mono ?_; rintro e w' ⟨rfl, rfl⟩)
    refine (HFU.out _ hB1.size HG1.out).mono ?_
    rintro e w2 ⟨v, rfl, ho, hb2⟩
    go_wp2
    go_ret
    exact ⟨v, by simp, own_mono ho hB1.size, hB1.trans (hb2.mono hB1.size)⟩
set_option maxRecDepth 100000 in
set_option maxHeartbeats 1600000 in
theorem top_impl_UsersOf (gs : List Nd) (x : Int) (hG : GB gs) : ∀ (A : Option Addr) (n c : Nat) (w : World), n = gs.length → n ≤ c → GS w w.heap.size A gs →
    Calls Try.prog 14 #[.agg #[.slice A n c], .int .i64 x] w fun e w' => RetI w (usersF gs x) e w' := by
  intro A n c w hn hnc h
  obtain ⟨i0, hi, hz0, hz1, hz2⟩ := info_parts info_int
  have HH := Lib.hid (impl_hasNode A n c gs x (w.alloc (.cells #[.slice A n c] 25)) w.heap.size (by simp) hn hnc (h.alloc (Nat.le_refl _) _) hG)
  have hhb : (validG gs && hasN gs x) = hasB gs x := rfl
  rw [hhb] at HH
  have H := Lib.hid h
  cases hb : hasB gs x
  · have hr : usersF gs x = [] := by unfold usersF; rw [hb]; rfl
    rw [hr]
    rw [hb] at HH
    clear hb hr hhb h hn hG
    go_enter Try.func14, Try.ntmps14
    go_wp2_with fail
    refine HH.out.mono ?_
    rintro e w1 ⟨rfl, hb⟩
    go_wp2
    go_ret
    exact RetI.nil (((Below.refl _ _).alloc (Nat.le_refl _) _).trans (hb.mono (by simp)))
  · obtain ⟨hv, h10, t, rfl, ht⟩ := hasB_parts gs x hb
    have hr : usersF gs t = (usN gs gs.length t).map fun u : Nat => (u : Int) := by unfold usersF; rw [hb]; rfl
    have hul := usN_len gs gs.length t
    have hlr : linkR gs n (2 * t + 1) = usN gs gs.length t := by
      rw [hn]; exact congrFun (linkR_users gs) t
    rw [hr]
    rw [hb] at HH
    have HLK := Lib.hid fun (w' : World) (hB : w.heap.size ≤ w'.heap.size) (h : GS w' w.heap.size A gs) => impl_linksOf A n c gs w' w.heap.size hB hn h hv hG
    have hn10 : n ≤ 10 := by omega
    have htn : t < n := by omega
    generalize linkR gs n = R at *
    generalize usN gs gs.length t = U at *
    have HLR := Lib.hid hlr
    clear hb hr hhb h hn hG hlr
    go_enter Try.func14, Try.ntmps14
    go_wp2_with fail
    refine HH.out.mono ?_
    rintro e w1 ⟨rfl, hb⟩
    have q1 : w1.cell? ⟨w.heap.size, 0, none⟩ = some (.slice A n c) := (hb.cell (p := ⟨w.heap.size, 0, none⟩) (by simp)).trans (by go_simp)
    have HG1 := Lib.hid ((H.out.alloc (Nat.le_refl _) (.cells #[.slice A n c] 25)).below hb (by simp))
    have hB1 : Below w.heap.size w w1 := ((Below.refl _ _).alloc (Nat.le_refl _) _).trans (hb.mono (by simp))
    have hl1 : w.heap.size < w1.heap.size := by have := hb.size; simp at this; omega
    clear hb
    go_wp2_with fail
    refine (HLK.out w1 hB1.size HG1.out).mono ?_
    rintro e w2 ⟨lb, rfl, hlb, hL2, hM2, hb2⟩
    have htl : t < lb.length := by omega
    obtain ⟨g, hg⟩ : ∃ g, lb[t]? = some g := ⟨_, List.getElem?_eq_getElem htl⟩
    have hlook := hM2.look t (by omega)
    rw [hg] at hlook
    replace hlook : (Instr.lookup 66 (.map (some (w1.heap.size + 1))) (.int .i64 t) false).run Try.prog w2 = .ok (.pointer (some ⟨g, 0, none⟩)) w2 := hlook
    obtain ⟨hgB, _, _, ⟨A2, m, c2, d0, hm, hps⟩⟩ := hL2.it t g hg
    rw [HLR.out] at hm hps
    have HL2 := Lib.hid hL2
    have HPS := Lib.hid hps
    have HMM := Lib.hid hm
    have HB2 := Lib.hid (hB1.trans (hb2.mono hB1.size))
    have hm10 : m ≤ 10 := by omega
    clear hL2 hM2 hb2 hps hm hg
    go_wp2
    go_loopw [5, 20] (fun v u wr => ∃ k : Nat, k ≤ m ∧ u = .int .i64 k ∧ Hid (OwnI wr w2.heap.size v ((U.take k).map fun u : Nat => (u : Int))) ∧ Hid (Below w2.heap.size w2 wr)) (fun _ u _ => m - (intOf u).toNat)
    case atStart => exact ⟨0, Nat.zero_le _, rfl, World.ownsRow_nil _ _ _ _, Below.refl _ _⟩
    case round =>
      obtain ⟨k, hk, rfl, HO, HB⟩ := hrel
      have hwr := HB.out.size
      by_cases hlt : k < m
      · have hkU : k < U.length := by have := HMM.out; omega
        obtain ⟨y, hy⟩ : ∃ y, U[k]? = some y := ⟨_, List.getElem?_eq_getElem hkU⟩
        have hyl : y < lb.length := HL2.out.small (2 * t + 1) y (by rw [HLR.out]; exact List.mem_of_getElem? hy)
        obtain ⟨gy, hgy⟩ : ∃ gy, lb[y]? = some gy := ⟨_, List.getElem?_eq_getElem hyl⟩
        obtain ⟨bp, op, rfl, hbp, hcp⟩ := HPS.out (by omega)
        have p0 := (HB.out.cell (p := ⟨bp, op + k, none⟩) (by show bp < w2.heap.size; omega)).trans (hcp k y hy)
        rw [hgy] at p0
        replace p0 : wr.cell? ⟨bp, op + k, none⟩ = some (.pointer (some ⟨gy, 0, none⟩)) := p0
        obtain ⟨hgyB, p1', _⟩ := HL2.out.it y gy hgy
        have p1 := (HB.out.cell (p := ⟨gy, 0, none⟩) (by show gy < w2.heap.size; omega)).trans p1'
        have hst : (U.take (k + 1)).map (fun u : Nat => (u : Int)) = (U.take k).map (fun u : Nat => (u : Int)) ++ [(y : Int)] := by
          rw [List.take_add_one, hy, List.map_append]; rfl
        have HST := Lib.hid hst
        have hdl : ((U.take k).map fun u : Nat => (u : Int)).length ≤ 10 := by rw [List.length_map, List.length_take]; omega
        have hgyw : gy < wr.heap.size := by omega
        clear hcp p1' hy hst hgy
        generalize (U.take k).map (fun u : Nat => (u : Int)) = D at *
        go_wp2_with (at_builtin; refine wpList_append_own _ rfl _ _ 28 rfl w2.heap.size 3 i0 (.int .i64 0) 1 8 Try.underlying28 hi hz0 hz1 hz2 rfl (by decide) _ _ _ rfl (HO.out.alloc _) ⟨_, 0, none⟩ 1 1 [.int .i64 y] rfl rfl (cell_one_new _ _ _) ?c2 ?c3 ?c4 ?c5 ?_)
        case c2 => first | rfl | (intro u hu; simp at hu; subst hu; rfl)
        case c3 => unfold maxLen; omega
        case c4 => omega
        case c5 => first | omega | (simp; omega)
        intro v' w4 hown' hgrow _
        have hpos := (HO.out.alloc (.cells #[.int .i64 y] 3)).lt
        have HO' : Hid (OwnI w4 w2.heap.size v' ((U.take (k + 1)).map fun u : Nat => (u : Int))) := by
          show OwnI w4 w2.heap.size v' ((U.take (k + 1)).map fun u : Nat => (u : Int))
          rw [HST.out]
          simpa [OwnI] using hown'
        have HB' := Lib.hid ((HB.out.alloc hwr (.cells #[.int .i64 y] 3)).grown hgrow (by simp; omega) (fun q hq => (hpos q hq).1))
        clear hown' hgrow hpos
        go_wp2
        go_roundw
        case rel => exact ⟨k + 1, by omega, by go_num, HO'.out, HB'.out⟩
        case measure => simp [intOf]; omega
      · obtain rfl : k = m := by omega
        go_wp2
        go_ret
        have ho := HO.out
        rw [List.take_of_length_le (by have := HMM.out; omega)] at ho
        exact ⟨_, rfl, own_mono ho HB2.out.size, HB2.out.trans (HB.out.mono HB2.out.size)⟩
end Go.Proofs.Ytdhjflhpenkchaa

namespace Go.Proofs.Ytdhjflhpenkchaa
set_option linter.unusedSimpArgs false
set_option linter.unusedVariables false
open Go.RowKit
theorem nwTo_asc (P : Nat → Bool) (n j : Nat) (h : j + 1 < (nwTo P n).length) : (nwTo P n).getD j 0 < (nwTo P n).getD (j + 1) 0 := by
  have hp : (nwTo P n).Pairwise (· < ·) := by
    unfold nwTo
    rw [List.pairwise_map]
    refine List.Pairwise.imp ?_ (List.Pairwise.filter _ List.pairwise_lt_range)
    intro a b hab
    omega
  have := List.pairwise_iff_getElem.1 hp j (j + 1) (by omega) h (by omega)
  simpa [List.getD, h, show j < (nwTo P n).length by omega] using this
end Go.Proofs.Ytdhjflhpenkchaa
