/- Words and contracts for memory that the texts behind use. -/
import Derived.Test.YtehlamofancdjaaS0
import Derived.Test.YtehlamofancdjaaS1
import Derived.Test.YtehlamofancdjaaS2
import Derived.WalkKit
import Derived.Laws.OwnMore
import Derived.Deep.Draws
import Derived.Test.YtehlamofancdjaaProg
import Derived.WalkSpells
import Derived.WalkLawsBesides
import Derived.Outline
import Derived.Lib.Hide
import Derived.BigQuiet
import Derived.Deep.QuietTactic
import Derived.StillTailTactics
import Derived.Deep.LoopGhost
import Derived.Laws.MakeOwn
import Derived.WalkSmall
import Derived.RegionTactic
import Derived.BigRegion
import Derived.Deep.RegionWith
import Derived.Deep.RegionHeld3
import Derived.Maps.AppendAt
import Derived.Laws.CopyOwn

namespace Go.Proofs.Ytehlamofancdjaa
set_option linter.unusedSimpArgs false
set_option linter.unusedVariables false
open Go.RowKit
/-- No part below. -/
def noneB (a b c : Int) : Bool := a == -1 && b == -1 && c == -1
set_option maxHeartbeats 400000 in
theorem impl_inRange (n m : Int) (w : World) :
    Calls Try.prog 62 #[.int .i64 n, .int .i64 m] w fun e w' => e = .returned (.bool (rng n 0 m)) ∧ w = w' := by
  go_enter Try.func62, Try.ntmps62
  go_wp2
  all_goals
    go_ret
    exact ⟨ret_b (by unfold rng; simp; try omega), rfl⟩
set_option maxHeartbeats 800000 in
theorem impl_hasNoneBelow (k a b c n : Int) (w : World) :
    Calls Try.prog 98 #[.agg #[.int .i64 k, .int .i64 a, .int .i64 b, .int .i64 c, .int .i64 n]] w fun e w' => e = .returned (.bool (noneB a b c)) ∧ Below w.heap.size w w' := by
  go_enter Try.func98, Try.ntmps98
  go_wp2
  all_goals
    go_ret
    exact ⟨ret_b (by simp [noneB, *]), (Below.refl _ _).alloc (Nat.le_refl _) _⟩
end Go.Proofs.Ytehlamofancdjaa

namespace Go.Proofs.Ytehlamofancdjaa
set_option linter.unusedSimpArgs false
set_option linter.unusedVariables false
open Go.RowKit
theorem below_bcell {W w1 : World} (hb : Below W.heap.size W w1) : (∀ b o, b < W.heap.size → w1.cell? ⟨b, o, none⟩ = W.cell? ⟨b, o, none⟩) ∧ (∀ b o, b < W.heap.size → w1.frozen? ⟨b, o, none⟩ = W.frozen? ⟨b, o, none⟩) :=
  ⟨fun b o h => hb.cell (p := ⟨b, o, none⟩) h, fun b o h => hb.frozen (p := ⟨b, o, none⟩) h⟩
end Go.Proofs.Ytehlamofancdjaa

namespace Go.Proofs.Ytehlamofancdjaa
set_option linter.unusedSimpArgs false
set_option linter.unusedVariables false
open Go.RowKit
theorem allR_false (l : List Int) (lo hi : Int) (k : Nat) (h : k < l.length) (hr : rng (l.getD k 0) lo hi = false) : allR l lo hi = false := by
  unfold allR
  rw [List.all_eq_false]
  exact ⟨l.getD k 0, by simp [List.getD, h], by rw [hr]; simp⟩
set_option maxHeartbeats 400000 in
theorem impl_allInRange (A : Option Addr) (n c : Nat) (xs : List Int) (hi : Int) (w : World) (B : Nat) (hB : B ≤ w.heap.size) (hn : n = xs.length) (h : IS w B A xs) (hs : n ≤ 2000000) :
    Calls Try.prog 44 #[.slice A n c, .int .i64 hi] w fun e w' => e = .returned (.bool (decide (xs.length ≤ 10) && allR xs 0 hi)) ∧ w = w' := by
  by_cases h10 : 10 < n
  · have hf : (decide (xs.length ≤ 10) && allR xs 0 hi) = false := by rw [decide_eq_false (by omega)]; rfl
    rw [hf]
    clear hf hn h
    go_enter Try.func44, Try.ntmps44
    go_wp2
    go_ret
    exact ⟨rfl, rfl⟩
  have hf : (decide (xs.length ≤ 10) && allR xs 0 hi) = allR xs 0 hi := by rw [decide_eq_true (by omega)]; rfl
  rw [hf]
  have H := Lib.hid h
  have HN := Lib.hid hn
  clear hn h hf
  go_enter Try.func44, Try.ntmps44
  go_wp2
  go_loop [12] (fun i => ∃ k : Nat, k ≤ n ∧ i = .int .i64 k ∧ Hid (∀ j, j < k → rng (xs.getD j 0) 0 hi = true)) (fun i => n - (intOf i).toNat)
  case atStart => exact ⟨0, Nat.zero_le _, rfl, fun j hj => by omega⟩
  case round =>
    obtain ⟨k, hk, rfl, HA⟩ := hrel
    by_cases hlt : k < n
    · obtain ⟨b, off, rfl, hbB, hc⟩ := H.out (by have := HN.out; omega)
      have c0 := hc k (by have := HN.out; omega)
      clear hc H
      generalize hp : xs.getD k 0 = p at *
      have HP := Lib.hid hp
      clear hp
      cases hr : rng p 0 hi
      · go_wp2_with (go_at_call 62; refine (impl_inRange _ _ _).mono ?_; rintro e w' ⟨rfl, rfl⟩)
        go_ret
        refine ⟨ret_b ?_, rfl⟩
        rw [allR_false xs 0 hi k (by have := HN.out; omega) (by rw [HP.out]; exact hr)]
        try rfl
      · have HR := Lib.hid hr
        go_wp2_with (go_at_call 62; refine (impl_inRange _ _ _).mono ?_; rintro e w' ⟨rfl, rfl⟩)
        go_round
        case rel => exact ⟨k + 1, by omega, by go_num, fun j hj => by
          rcases Nat.lt_or_ge j k with h1 | h1
          · exact HA.out j h1
          · obtain rfl : j = k := by omega
            rw [HP.out]; exact HR.out⟩
        case measure => simp [intOf]; omega
    · go_wp2
      go_ret
      refine ⟨ret_b ?_, rfl⟩
      rw [allR_true xs 0 hi fun j hj => HA.out j (by have := HN.out; omega)]
      try rfl
end Go.Proofs.Ytehlamofancdjaa

namespace Go.Proofs.Ytehlamofancdjaa
set_option linter.unusedSimpArgs false
set_option linter.unusedVariables false
open Go.RowKit
def pbOk (p : Pt) : Bool :=
  if p.k == 0 then noneB p.a p.b p.c && rng p.n 0 99
  else if p.k == 1 then noneB p.a p.b p.c && rng p.n 0 9
  else if ar p.k == 2 then p.c == -1 && p.n == 0
  else if ar p.k == 3 then p.n == 0
  else false
def pbI (p : Pt) : List Int := if p.k == 8 || ar p.k == 2 then bel p else []
/-- Returns a fresh slice of numbers and a bool. -/
def RetIB (w : World) (xs : List Int) (b : Bool) (e : Ending) (w' : World) : Prop := ∃ v, e = .returned (.tuple #[v, .bool b]) ∧ OwnI w' w.heap.size v xs ∧ Below w.heap.size w w'
theorem retIB_lit {w w1 : World} (hb : Below w.heap.size w w1) (xs : List Int) (cs : Array Value) (n : Nat) (hn : n = xs.length) (hm : n ≤ maxLen) (hc : cs.toList = xs.map (Value.int .i64)) (b : Bool) (e : Ending)
    (he : e = .returned (.tuple #[.slice (some ⟨w1.heap.size, 0, none⟩) n n, .bool b])) : RetIB w xs b e (w1.alloc (.cells cs 3)) := by
  subst hn
  refine ⟨_, he, ?_, hb.alloc hb.size _⟩
  have h := World.ownsRow_lit (e := 3) (size := 1) w1 cs xs.length hb.size hm (by rw [← Array.length_toList, hc]; simp)
  rw [hc] at h
  exact h
theorem RetIB.drew {w w' : World} {xs : List Int} {b : Bool} {e : Ending} (h : RetIB w xs b e w') : RetIB w xs b e w'.drew := by
  obtain ⟨v, he, ho, hb⟩ := h
  exact ⟨v, he, ho, hb.drew⟩
theorem retIB_nil {w w1 : World} (hb : Below w.heap.size w w1) (b c : Bool) (hbc : b = c) : RetIB w [] c (.returned (.tuple #[.slice none 0 0, .bool b])) w1 := by
  subst hbc
  exact ⟨_, rfl, World.ownsRow_nil _ _ _ _, hb⟩
theorem below_box {w w1 : World} {o : Obj} (hb : Below (w.alloc o).heap.size (w.alloc o) w1) : Below w.heap.size w w1 :=
  ((Below.refl _ _).alloc (Nat.le_refl _) o).trans (hb.mono (by simp))
set_option maxHeartbeats 1600000 in
theorem impl_partsBelow (p : Pt) (w : World) :
    Calls Try.prog 93 #[.agg #[.int .i64 p.k, .int .i64 p.a, .int .i64 p.b, .int .i64 p.c, .int .i64 p.n]] w fun e w' => RetIB w (pbI p) (pbOk p) e w' := by
  obtain ⟨k, a, b, c, n⟩ := p
  have hm : 3 ≤ maxLen := by unfold maxLen; omega
  have HM := Lib.hid hm
  clear hm
  rcases ar_cases k with rfl | rfl | rfl | rfl | rfl | rfl | rfl | rfl | rfl | hk
  · go_enter Try.func93, Try.ntmps93
    go_wp2_with (first | (go_at_call 62; refine (impl_inRange _ _ _).mono ?_; rintro e w' ⟨rfl, rfl⟩) | (go_at_call 98; refine (impl_hasNoneBelow _ _ _ _ _ _).mono ?_; rintro e w1 ⟨rfl, hb⟩; obtain ⟨hc, hf⟩ := below_bcell hb))
    all_goals
      go_ret2
      exact retIB_nil (below_box hb) _ _ (by simp [pbOk, *])
  · go_enter Try.func93, Try.ntmps93
    go_wp2_with (first | (go_at_call 62; refine (impl_inRange _ _ _).mono ?_; rintro e w' ⟨rfl, rfl⟩) | (go_at_call 98; refine (impl_hasNoneBelow _ _ _ _ _ _).mono ?_; rintro e w1 ⟨rfl, hb⟩; obtain ⟨hc, hf⟩ := below_bcell hb))
    all_goals
      go_ret2
      exact retIB_nil (below_box hb) _ _ (by simp [pbOk, *])
  · cases hcc : (c == -1)
    all_goals
      go_enter Try.func93, Try.ntmps93
      go_wp2_with (first | (go_at_call 62; refine (impl_inRange _ _ _).mono ?_; rintro e w' ⟨rfl, rfl⟩) | (go_at_call 98; refine (impl_hasNoneBelow _ _ _ _ _ _).mono ?_; rintro e w1 ⟨rfl, hb⟩; obtain ⟨hc, hf⟩ := below_bcell hb))
      go_region
      all_goals
        go_wp2
        go_ret2
        exact (retIB_lit ((Below.refl _ _).alloc (Nat.le_refl _) _) _ _ 2 rfl (by have := HM.out; omega) rfl _ _ (by simp [pbOk, ar, *])).drew
  · cases hcc : (c == -1)
    all_goals
      go_enter Try.func93, Try.ntmps93
      go_wp2_with (first | (go_at_call 62; refine (impl_inRange _ _ _).mono ?_; rintro e w' ⟨rfl, rfl⟩) | (go_at_call 98; refine (impl_hasNoneBelow _ _ _ _ _ _).mono ?_; rintro e w1 ⟨rfl, hb⟩; obtain ⟨hc, hf⟩ := below_bcell hb))
      go_region
      all_goals
        go_wp2
        go_ret2
        exact (retIB_lit ((Below.refl _ _).alloc (Nat.le_refl _) _) _ _ 2 rfl (by have := HM.out; omega) rfl _ _ (by simp [pbOk, ar, *])).drew
  · cases hcc : (c == -1)
    all_goals
      go_enter Try.func93, Try.ntmps93
      go_wp2_with (first | (go_at_call 62; refine (impl_inRange _ _ _).mono ?_; rintro e w' ⟨rfl, rfl⟩) | (go_at_call 98; refine (impl_hasNoneBelow _ _ _ _ _ _).mono ?_; rintro e w1 ⟨rfl, hb⟩; obtain ⟨hc, hf⟩ := below_bcell hb))
      go_region
      all_goals
        go_wp2
        go_ret2
        exact (retIB_lit ((Below.refl _ _).alloc (Nat.le_refl _) _) _ _ 2 rfl (by have := HM.out; omega) rfl _ _ (by simp [pbOk, ar, *])).drew
  · cases hcc : (c == -1)
    all_goals
      go_enter Try.func93, Try.ntmps93
      go_wp2_with (first | (go_at_call 62; refine (impl_inRange _ _ _).mono ?_; rintro e w' ⟨rfl, rfl⟩) | (go_at_call 98; refine (impl_hasNoneBelow _ _ _ _ _ _).mono ?_; rintro e w1 ⟨rfl, hb⟩; obtain ⟨hc, hf⟩ := below_bcell hb))
      go_region
      all_goals
        go_wp2
        go_ret2
        exact (retIB_lit ((Below.refl _ _).alloc (Nat.le_refl _) _) _ _ 2 rfl (by have := HM.out; omega) rfl _ _ (by simp [pbOk, ar, *])).drew
  · cases hcc : (c == -1)
    all_goals
      go_enter Try.func93, Try.ntmps93
      go_wp2_with (first | (go_at_call 62; refine (impl_inRange _ _ _).mono ?_; rintro e w' ⟨rfl, rfl⟩) | (go_at_call 98; refine (impl_hasNoneBelow _ _ _ _ _ _).mono ?_; rintro e w1 ⟨rfl, hb⟩; obtain ⟨hc, hf⟩ := below_bcell hb))
      go_region
      all_goals
        go_wp2
        go_ret2
        exact (retIB_lit ((Below.refl _ _).alloc (Nat.le_refl _) _) _ _ 2 rfl (by have := HM.out; omega) rfl _ _ (by simp [pbOk, ar, *])).drew
  · cases hcc : (c == -1)
    all_goals
      go_enter Try.func93, Try.ntmps93
      go_wp2_with (first | (go_at_call 62; refine (impl_inRange _ _ _).mono ?_; rintro e w' ⟨rfl, rfl⟩) | (go_at_call 98; refine (impl_hasNoneBelow _ _ _ _ _ _).mono ?_; rintro e w1 ⟨rfl, hb⟩; obtain ⟨hc, hf⟩ := below_bcell hb))
      go_region
      all_goals
        go_wp2
        go_ret2
        exact (retIB_lit ((Below.refl _ _).alloc (Nat.le_refl _) _) _ _ 2 rfl (by have := HM.out; omega) rfl _ _ (by simp [pbOk, ar, *])).drew
  · go_enter Try.func93, Try.ntmps93
    go_wp2_with (first | (go_at_call 62; refine (impl_inRange _ _ _).mono ?_; rintro e w' ⟨rfl, rfl⟩) | (go_at_call 98; refine (impl_hasNoneBelow _ _ _ _ _ _).mono ?_; rintro e w1 ⟨rfl, hb⟩; obtain ⟨hc, hf⟩ := below_bcell hb))
    go_region
    all_goals
      go_wp2
      go_ret2
      exact (retIB_lit ((Below.refl _ _).alloc (Nat.le_refl _) _) _ _ 3 rfl (by have := HM.out; omega) rfl _ _ (by simp [pbOk, ar, *])).drew
  · have k0 : (k == 0) = false := by simp; omega
    have k1 : (k == 1) = false := by simp; omega
    have k2 : (k == 2) = false := by simp; omega
    have k3 : (k == 3) = false := by simp; omega
    have k4 : (k == 4) = false := by simp; omega
    have k5 : (k == 5) = false := by simp; omega
    have k6 : (k == 6) = false := by simp; omega
    have k7 : (k == 7) = false := by simp; omega
    have k8 : (k == 8) = false := by simp; omega
    have ha : ar k = -1 := by unfold ar; rw [if_neg (by omega), if_neg (by omega), if_neg (by omega)]
    have H1 : pbI ⟨k, a, b, c, n⟩ = [] := by simp [pbI, k8, ha]
    have H2 : pbOk ⟨k, a, b, c, n⟩ = false := by simp [pbOk, k0, k1, ha]
    rw [H1, H2]
    clear ha H1 H2 hk
    go_enter Try.func93, Try.ntmps93
    go_wp2_with (first | (go_at_call 62; refine (impl_inRange _ _ _).mono ?_; rintro e w' ⟨rfl, rfl⟩) | (go_at_call 98; refine (impl_hasNoneBelow _ _ _ _ _ _).mono ?_; rintro e w1 ⟨rfl, hb⟩; obtain ⟨hc, hf⟩ := below_bcell hb))
    go_ret2
    exact retIB_nil ((Below.refl _ _).alloc (Nat.le_refl _) _) _ _ rfl
end Go.Proofs.Ytehlamofancdjaa

namespace Go.Proofs.Ytehlamofancdjaa
set_option linter.unusedSimpArgs false
set_option linter.unusedVariables false
open Go.RowKit
theorem pbI_bel (p : Pt) : pbI p = bel p := by
  unfold pbI
  by_cases h8 : p.k = 8
  · simp [h8]
  · by_cases h2 : ar p.k = 2
    · simp [h2]
    · have h3 : ar p.k ≠ 3 := by
        unfold ar at h2 ⊢
        split
        · omega
        · split
          · omega
          · simp
      simp [h8, h2, bel, h3]
theorem good_iff (p : Pt) (i : Int) : goodPt p i = (pbOk p && decide (∀ b ∈ bel p, 0 ≤ b ∧ b ≤ i - 1)) := by
  by_cases h0 : p.k = 0
  · have : ar p.k = 0 := by simp [ar, h0]
    simp [goodPt, pbOk, h0, this, bel, noneB, ar]
  · by_cases h1 : p.k = 1
    · have : ar p.k = 0 := by simp [ar, h1]
      simp [goodPt, pbOk, h1, this, bel, noneB, ar]
    · have hn : ar p.k ≠ 0 := by
        unfold ar
        split
        · omega
        · split
          · omega
          · split <;> omega
      by_cases h2 : ar p.k = 2
      · simp [goodPt, pbOk, h0, h1, h2, bel, rng]
        rw [Bool.eq_iff_iff]
        simp
        constructor
        · rintro ⟨⟨⟨⟨a1, a2⟩, b1, b2⟩, c⟩, d⟩; exact ⟨⟨c, d⟩, ⟨a1, a2⟩, b1, b2⟩
        · rintro ⟨⟨c, d⟩, ⟨a1, a2⟩, b1, b2⟩; exact ⟨⟨⟨⟨a1, a2⟩, b1, b2⟩, c⟩, d⟩
      · by_cases h3 : ar p.k = 3
        · simp [goodPt, pbOk, h0, h1, h3, bel, rng]
          rw [Bool.eq_iff_iff]
          simp
          constructor
          · rintro ⟨⟨⟨⟨a1, a2⟩, b1, b2⟩, c1, c2⟩, d⟩; exact ⟨d, ⟨a1, a2⟩, ⟨b1, b2⟩, c1, c2⟩
          · rintro ⟨d, ⟨a1, a2⟩, ⟨b1, b2⟩, c1, c2⟩; exact ⟨⟨⟨⟨a1, a2⟩, b1, b2⟩, c1, c2⟩, d⟩
        · simp [goodPt, pbOk, h0, h1, h2, h3, hn]
theorem marks_fin (L : List Int) (m : Nat) (hn : L.Nodup) (h : ∀ x ∈ L, 0 ≤ x ∧ x < (m : Int)) : L.length = m ↔ ∀ i, i < m → L.count (i : Int) = 1 := by
  have h1 := sum_ones (fun i : Nat => L.count (i : Int)) m fun i _ => by
    exact List.nodup_iff_count.1 hn _
  rw [← sum_counts L m h]
  exact h1.2
theorem validF_dup (ps : List Pt) (k m : Nat) (h : k < ps.length) (hm : m < (bel (ps.getD k default)).length) (t : Nat) (ht : (bel (ps.getD k default)).getD m 0 = (t : Int)) (htk : t < k)
    (hin : (t : Int) ∈ (ps.take k).flatMap bel ++ (bel (ps.getD k default)).take m) : validF ps = false := by
  refine validF_cnt ps t (by omega) ?_
  have hsplit : ps = ps.take (k + 1) ++ ps.drop (k + 1) := (List.take_append_drop _ _).symm
  have h1 : (ps.flatMap bel).count (t : Int) = ((ps.take (k + 1)).flatMap bel).count (t : Int) + ((ps.drop (k + 1)).flatMap bel).count (t : Int) := by
    conv => lhs; rw [hsplit]
    rw [List.flatMap_append, List.count_append]
  have h2 := take_flat ps k h
  have h3 : bel (ps.getD k default) = (bel (ps.getD k default)).take m ++ (bel (ps.getD k default)).drop m := (List.take_append_drop _ _).symm
  have h4 : (t : Int) ∈ (bel (ps.getD k default)).drop m := by
    rw [List.drop_eq_getElem_cons hm]
    refine List.mem_cons.2 (.inl ?_)
    rw [← ht]
    generalize bel (ps.getD k default) = M at *
    simp [List.getD, hm]
  have h5 : ((ps.take (k + 1)).flatMap bel).count (t : Int) = ((ps.take k).flatMap bel ++ (bel (ps.getD k default)).take m).count (t : Int) + ((bel (ps.getD k default)).drop m).count (t : Int) := by
    rw [h2]
    conv => lhs; rw [h3]
    rw [← List.append_assoc, List.count_append]
  have h6 := List.count_pos_iff.2 hin
  have h7 := List.count_pos_iff.2 h4
  omega
/-- With good parts and no number twice: valid exactly if there are as many below as there are parts but one. -/
theorem validF_marks (ps : List Pt) (h1 : 1 ≤ ps.length) (h12 : ps.length ≤ 12) (hg : ∀ i, i < ps.length → goodPt (ps.getD i default) i = true) (hd : (ps.flatMap bel).Nodup) :
    validF ps = ((((ps.flatMap bel).length : Nat) : Int) == (ps.length : Int) - 1) := by
  have hr : ∀ x ∈ ps.flatMap bel, 0 ≤ x ∧ x < ((ps.length - 1 : Nat) : Int) := by
    intro x hx
    obtain ⟨p, hp, hxp⟩ := List.mem_flatMap.1 hx
    obtain ⟨i, hi, rfl⟩ := List.mem_iff_getElem.1 hp
    have := hg i hi
    rw [show ps.getD i default = ps[i] by simp [List.getD, hi]] at this
    have := good_bel _ _ this x hxp
    omega
  have hm := marks_fin _ _ hd hr
  have hrng : rng ps.length 1 12 = true := by simp [rng]; omega
  have hgd : decide (∀ i, i < ps.length → goodPt (ps.getD i default) i = true) = true := decide_eq_true hg
  unfold validF
  rw [hgd, hrng, Bool.eq_iff_iff]
  simp only [Bool.true_and, Bool.and_true, decide_eq_true_eq, beq_iff_eq]
  rw [← hm]
  omega
end Go.Proofs.Ytehlamofancdjaa

namespace Go.Proofs.Ytehlamofancdjaa
set_option linter.unusedSimpArgs false
set_option linter.unusedVariables false
open Go.RowKit
theorem below_of_drew {C : Nat} {w w' : World} (h : Below C w.drew w') : Below C w w' := ⟨h.os, h.tape, h.output, h.size, h.block⟩
def Tm.val : Tm → Value
  | .num v => .iface 112 (.agg #[.int .i64 v])
  | .rd v => .iface 114 (.agg #[.int .i64 v])
  | .pr k l r => .iface 116 (.agg #[.int .i64 k, l.val, r.val])
  | .ch t a b => .iface 119 (.agg #[t.val, a.val, b.val])
theorem Tm.val_form (t : Tm) : ∃ T x, t.val = .iface T x := by
  cases t <;> exact ⟨_, _, rfl⟩
/-- Returns a term. -/
def RetT (w : World) (t : Tm) (e : Ending) (w' : World) : Prop := ∃ T x, e = .returned (.iface T x) ∧ Tm.val t = .iface T x ∧ Below w.heap.size w w'
set_option maxRecDepth 100000 in
set_option maxHeartbeats 3200000 in
theorem impl_termAt (A : Option Addr) (n c : Nat) (ps : List Pt) (B : Nat) (hn : n = ps.length) (hg : AllGood ps) (hs : n ≤ 2000000) (f : Nat) :
    ∀ (i : Nat) (w : World), i < f → i < n → B ≤ w.heap.size → PS w B A ps →
    Calls Try.prog 85 #[.slice A n c, .int .i64 i] w fun e w' => RetT w (tmAt ps f i) e w' := by
  induction f with
  | zero => intro i w hi; omega
  | succ f ih =>
    intro i w hif hin hB h
    obtain ⟨b, off, rfl, hbB, hc⟩ := h (by omega)
    obtain ⟨c0, c1, c2, c3, c4⟩ := hc i (by omega)
    clear hc
    have hgi := hg i (by omega)
    have H := Lib.hid h
    have IH := Lib.hid ih
    have HG := Lib.hid hg
    have HN := Lib.hid hn
    clear h ih hg hn
    generalize hp : ps.getD i default = p at *
    have HP := Lib.hid hp
    clear hp
    rcases good_kind p i hgi with h0 | h1 | h2 | h8
    · have k0 : (p.k == 0) = true := by simp [h0]
      have hr : tmAt ps (f + 1) i = .num p.n := by simp only [tmAt, HP.out, k0, if_true]
      rw [hr]
      clear hr h0 hgi
      go_enter Try.func85, Try.ntmps85
      go_wp2
      go_ret
      exact ⟨_, _, rfl, rfl, (Below.refl _ _).alloc (Nat.le_refl _) _⟩
    · have k0 : (p.k == 0) = false := by simp [h1]
      have k1 : (p.k == 1) = true := by simp [h1]
      have hr : tmAt ps (f + 1) i = .rd p.n := by simp only [tmAt, HP.out, k0, k1, if_true, if_false, Bool.false_eq_true]
      rw [hr]
      clear hr h1 hgi
      go_enter Try.func85, Try.ntmps85
      go_wp2
      go_ret
      exact ⟨_, _, rfl, rfl, (Below.refl _ _).alloc (Nat.le_refl _) _⟩
    · have k0 : (p.k == 0) = false := by simp; omega
      have k1 : (p.k == 1) = false := by simp; omega
      have k8 : (p.k == 8) = false := by simp; omega
      have hr : tmAt ps (f + 1) i = .pr p.k (tmAt ps f p.a.toNat) (tmAt ps f p.b.toNat) := by simp only [tmAt, HP.out, k0, k1, k8, if_false, Bool.false_eq_true]
      rw [hr]
      obtain ⟨ta, tb, ea, eb, la, lb⟩ := (good_bel_nat p i hgi).1 h2
      rw [ea, eb]
      rw [ea] at c1
      rw [eb] at c2
      simp only [Int.toNat_natCast]
      clear hr h2 hgi ea eb
      go_enter Try.func85, Try.ntmps85
      go_wp2_with fail
      have q0 : (w.alloc (.cells #[.int .i64 p.k, .int .i64 ta, .int .i64 tb, .int .i64 p.c, .int .i64 p.n] 103)).cell? ⟨w.heap.size, 0, none⟩ = some (.int .i64 p.k) := by go_simp
      have q1 : (w.alloc (.cells #[.int .i64 p.k, .int .i64 ta, .int .i64 tb, .int .i64 p.c, .int .i64 p.n] 103)).cell? ⟨w.heap.size, 1, none⟩ = some (.int .i64 ta) := by go_simp
      have q2 : (w.alloc (.cells #[.int .i64 p.k, .int .i64 ta, .int .i64 tb, .int .i64 p.c, .int .i64 p.n] 103)).cell? ⟨w.heap.size, 2, none⟩ = some (.int .i64 tb) := by go_simp
      have hB0 := (Below.refl w.heap.size w).alloc (Nat.le_refl _) (.cells #[.int .i64 p.k, .int .i64 ta, .int .i64 tb, .int .i64 p.c, .int .i64 p.n] 103)
      have hz : w.heap.size < (w.alloc (.cells #[.int .i64 p.k, .int .i64 ta, .int .i64 tb, .int .i64 p.c, .int .i64 p.n] 103)).heap.size := by simp
      have HW := Lib.hid (H.out.alloc hB (.cells #[.int .i64 p.k, .int .i64 ta, .int .i64 tb, .int .i64 p.c, .int .i64 p.n] 103))
      clear c0 c1 c2 c3 c4 H
      generalize w.alloc (.cells #[.int .i64 p.k, .int .i64 ta, .int .i64 tb, .int .i64 p.c, .int .i64 p.n] 103) = W at *
      go_region_held3 (fun w' => w'.cell? ⟨w.heap.size, 0, none⟩ = some (.int .i64 p.k) ∧ w'.cell? ⟨w.heap.size, 1, none⟩ = some (.int .i64 ta) ∧ w'.cell? ⟨w.heap.size, 2, none⟩ = some (.int .i64 tb)) (first | exact ⟨q0, q1, q2⟩ | exact ⟨q0', q1', q2'⟩ | exact ⟨q0'', q1'', q2''⟩)
        (first
          | (go_at_call_of 85 (Value.int IntKind.i64 ta); refine (IH.out ta _ (by omega) (by omega) ?_ ?_).mono ?_; (have := hB; show B ≤ W.heap.size; omega); exact HW.out; rintro e w1 ⟨T1, x1, rfl, hT1, hb1'⟩; have hb1 : Below W.heap.size W w1 := below_of_drew hb1'; have HT1 := Lib.hid hT1; clear hT1 hb1'; have q0' := (hb1.cell (p := ⟨w.heap.size, 0, none⟩) hz).trans q0; have q1' := (hb1.cell (p := ⟨w.heap.size, 1, none⟩) hz).trans q1; have q2' := (hb1.cell (p := ⟨w.heap.size, 2, none⟩) hz).trans q2)
          | (go_at_call_of 85 (Value.int IntKind.i64 tb); refine (IH.out tb _ (by omega) (by omega) ?_ ?_).mono ?_; (have := hb1.size; omega); exact HW.out.below hb1 (by omega); rintro e w2 ⟨T2, x2, rfl, hT2, hb2⟩; have HT2 := Lib.hid hT2; clear hT2; have q0'' := (hb2.cell (p := ⟨w.heap.size, 0, none⟩) (by have := hb1.size; show w.heap.size < w1.heap.size; omega)).trans q0'; have q1'' := (hb2.cell (p := ⟨w.heap.size, 1, none⟩) (by have := hb1.size; show w.heap.size < w1.heap.size; omega)).trans q1'; have q2'' := (hb2.cell (p := ⟨w.heap.size, 2, none⟩) (by have := hb1.size; show w.heap.size < w1.heap.size; omega)).trans q2'))
      go_wp2
      go_ret
      refine ⟨_, _, rfl, ?_, hB0.trans ((hb1.trans (hb2.mono hb1.size)).mono (by omega))⟩
      have e1 := HT1.out
      have e2 := HT2.out
      simp [Tm.val, e1, e2]
    · have k0 : (p.k == 0) = false := by simp; omega
      have k1 : (p.k == 1) = false := by simp; omega
      have k8 : (p.k == 8) = true := by simp; omega
      have hr : tmAt ps (f + 1) i = .ch (tmAt ps f p.a.toNat) (tmAt ps f p.b.toNat) (tmAt ps f p.c.toNat) := by simp only [tmAt, HP.out, k0, k1, k8, if_true, if_false, Bool.false_eq_true]
      rw [hr]
      obtain ⟨ta, tb, tc, ea, eb, ec, la, lb, lc⟩ := (good_bel_nat p i hgi).2 h8
      rw [ea, eb, ec]
      rw [ea] at c1
      rw [eb] at c2
      rw [ec] at c3
      simp only [Int.toNat_natCast]
      clear hr h8 hgi ea eb ec
      go_enter Try.func85, Try.ntmps85
      go_wp2_with fail
      have q1 : (w.alloc (.cells #[.int .i64 p.k, .int .i64 ta, .int .i64 tb, .int .i64 tc, .int .i64 p.n] 103)).cell? ⟨w.heap.size, 1, none⟩ = some (.int .i64 ta) := by go_simp
      have q2 : (w.alloc (.cells #[.int .i64 p.k, .int .i64 ta, .int .i64 tb, .int .i64 tc, .int .i64 p.n] 103)).cell? ⟨w.heap.size, 2, none⟩ = some (.int .i64 tb) := by go_simp
      have q3 : (w.alloc (.cells #[.int .i64 p.k, .int .i64 ta, .int .i64 tb, .int .i64 tc, .int .i64 p.n] 103)).cell? ⟨w.heap.size, 3, none⟩ = some (.int .i64 tc) := by go_simp
      have hB0 := (Below.refl w.heap.size w).alloc (Nat.le_refl _) (.cells #[.int .i64 p.k, .int .i64 ta, .int .i64 tb, .int .i64 tc, .int .i64 p.n] 103)
      have hz : w.heap.size < (w.alloc (.cells #[.int .i64 p.k, .int .i64 ta, .int .i64 tb, .int .i64 tc, .int .i64 p.n] 103)).heap.size := by simp
      have HW := Lib.hid (H.out.alloc hB (.cells #[.int .i64 p.k, .int .i64 ta, .int .i64 tb, .int .i64 tc, .int .i64 p.n] 103))
      clear c0 c1 c2 c3 c4 H
      generalize w.alloc (.cells #[.int .i64 p.k, .int .i64 ta, .int .i64 tb, .int .i64 tc, .int .i64 p.n] 103) = W at *
      go_region_held3 (fun w' => w'.cell? ⟨w.heap.size, 1, none⟩ = some (.int .i64 ta) ∧ w'.cell? ⟨w.heap.size, 2, none⟩ = some (.int .i64 tb) ∧ w'.cell? ⟨w.heap.size, 3, none⟩ = some (.int .i64 tc)) (first | exact ⟨q1, q2, q3⟩ | exact ⟨q1', q2', q3'⟩ | exact ⟨q1'', q2'', q3''⟩ | exact ⟨q1''', q2''', q3'''⟩)
        (first
          | (go_at_call_of 85 (Value.int IntKind.i64 ta); refine (IH.out ta _ (by omega) (by omega) ?_ ?_).mono ?_; (have := hB; show B ≤ W.heap.size; omega); exact HW.out; rintro e w1 ⟨T1, x1, rfl, hT1, hb1'⟩; have hb1 : Below W.heap.size W w1 := below_of_drew hb1'; have HT1 := Lib.hid hT1; clear hT1 hb1'; have hz1 : w.heap.size < w1.heap.size := Nat.lt_of_lt_of_le hz hb1.size; have HW1 := Lib.hid (HW.out.below hb1 (by omega)); have q1' := (hb1.cell (p := ⟨w.heap.size, 1, none⟩) hz).trans q1; have q2' := (hb1.cell (p := ⟨w.heap.size, 2, none⟩) hz).trans q2; have q3' := (hb1.cell (p := ⟨w.heap.size, 3, none⟩) hz).trans q3)
          | (go_at_call_of 85 (Value.int IntKind.i64 tb); refine (IH.out tb _ (by omega) (by omega) ?_ ?_).mono ?_; (omega); exact HW1.out; rintro e w2 ⟨T2, x2, rfl, hT2, hb2⟩; have HT2 := Lib.hid hT2; clear hT2; have hz2 : w.heap.size < w2.heap.size := Nat.lt_of_lt_of_le hz1 hb2.size; have HW2 := Lib.hid (HW1.out.below hb2 (by omega)); have q1'' := (hb2.cell (p := ⟨w.heap.size, 1, none⟩) (by first | exact hz | (have := hz1; show w.heap.size < w1.heap.size; omega))).trans q1'; have q2'' := (hb2.cell (p := ⟨w.heap.size, 2, none⟩) (by first | exact hz | (have := hz1; show w.heap.size < w1.heap.size; omega))).trans q2'; have q3'' := (hb2.cell (p := ⟨w.heap.size, 3, none⟩) (by first | exact hz | (have := hz1; show w.heap.size < w1.heap.size; omega))).trans q3')
          | (go_at_call_of 85 (Value.int IntKind.i64 tc); refine (IH.out tc _ (by omega) (by omega) ?_ ?_).mono ?_; (omega); exact HW2.out; rintro e w3 ⟨T3, x3, rfl, hT3, hb3⟩; have HT3 := Lib.hid hT3; clear hT3; have hz3 : w.heap.size < w3.heap.size := Nat.lt_of_lt_of_le hz2 hb3.size; have HW3 := Lib.hid (HW2.out.below hb3 (by omega)); have q1''' := (hb3.cell (p := ⟨w.heap.size, 1, none⟩) (by first | exact hz | (have := hz2; show w.heap.size < w2.heap.size; omega))).trans q1''; have q2''' := (hb3.cell (p := ⟨w.heap.size, 2, none⟩) (by first | exact hz | (have := hz2; show w.heap.size < w2.heap.size; omega))).trans q2''; have q3''' := (hb3.cell (p := ⟨w.heap.size, 3, none⟩) (by first | exact hz | (have := hz2; show w.heap.size < w2.heap.size; omega))).trans q3''))
      go_wp2
      go_ret
      refine ⟨_, _, rfl, ?_, hB0.trans ((hb1.trans ((hb2.trans (hb3.mono hb2.size)).mono hb1.size)).mono (by omega))⟩
      have e1 := HT1.out
      have e2 := HT2.out
      have e3 := HT3.out
      simp [Tm.val, e1, e2, e3]
end Go.Proofs.Ytehlamofancdjaa

namespace Go.Proofs.Ytehlamofancdjaa
set_option linter.unusedSimpArgs false
set_option linter.unusedVariables false
open Go.RowKit
/-- Twelve marks: which numbers stand in the list. -/
def Mrk (w : World) (g : Nat) (L : List Int) : Prop :=
  g < w.heap.size ∧ ∀ t : Nat, t < 12 → w.cell? ⟨g, t, none⟩ = some (.bool (decide ((t : Int) ∈ L))) ∧ w.frozen? ⟨g, t, none⟩ = false
theorem Mrk.below {w w' : World} {g : Nat} {L : List Int} (h : Mrk w g L) (hb : Below w.heap.size w w') : Mrk w' g L :=
  ⟨Nat.lt_of_lt_of_le h.1 hb.size, fun t ht => ⟨(hb.cell (p := ⟨g, t, none⟩) h.1).trans (h.2 t ht).1, (hb.frozen (p := ⟨g, t, none⟩) h.1).trans (h.2 t ht).2⟩⟩
theorem Mrk.set {w : World} {g : Nat} {L : List Int} (h : Mrk w g L) (t : Nat) (ht : t < 12) : Mrk (w.setCell ⟨g, t, none⟩ (.bool true)) g (L ++ [(t : Int)]) := by
  refine ⟨by simpa [World.setCell] using h.1, fun j hj => ?_⟩
  obtain ⟨h1, h2⟩ := h.2 j hj
  by_cases e : j = t
  · subst e
    refine ⟨?_, by simpa using h2⟩
    rw [World.cell?_setCell_same _ _ _ h1]; try simp
  · refine ⟨?_, by simpa using h2⟩
    rw [World.cell?_setCell_other _ _ _ _ (by intro e'; simp at e'; try omega), h1]
    have : ((j : Int) = (t : Int)) = False := by simp; omega
    simp [this]
set_option maxRecDepth 100000 in
set_option maxHeartbeats 1600000 in
theorem impl_ValidFormula (A : Option Addr) (n c : Nat) (ps : List Pt) (w : World) (B : Nat) (hB : B ≤ w.heap.size) (hn : n = ps.length) (h : PS w B A ps) (hs : n ≤ 2000000) :
    Calls Try.prog 79 #[.agg #[.slice A n c]] w fun e w' => e = .returned (.bool (validF ps)) ∧ Below w.heap.size w w' := by
  by_cases h1 : n < 1
  · have hf : validF ps = false := by
      unfold validF rng
      have : ¬ (1 ≤ (ps.length : Int) ∧ (ps.length : Int) ≤ 12) := by omega
      simp [this]
    rw [hf]
    clear hn h hf
    go_enter Try.func79, Try.ntmps79
    go_wp2
    go_ret
    exact ⟨rfl, (Below.refl _ _).alloc (Nat.le_refl _) _⟩
  by_cases h12 : 12 < n
  · have hf : validF ps = false := by
      unfold validF rng
      have : ¬ (1 ≤ (ps.length : Int) ∧ (ps.length : Int) ≤ 12) := by omega
      simp [this]
    rw [hf]
    clear hn h hf
    go_enter Try.func79, Try.ntmps79
    go_wp2
    go_ret
    exact ⟨rfl, (Below.refl _ _).alloc (Nat.le_refl _) _⟩
  have H := Lib.hid h
  have HN := Lib.hid hn
  clear hn h
  go_enter Try.func79, Try.ntmps79
  go_wp2
  go_loopw [24, 4] (fun i u wr => ∃ k : Nat, k ≤ n ∧ i = .int .i64 k ∧ u = .int .i64 (((ps.take k).flatMap bel).length : Nat) ∧ Hid (Mrk wr (w.heap.size + 1) ((ps.take k).flatMap bel)) ∧ Hid (((ps.take k).flatMap bel).Nodup) ∧ Hid (∀ j, j < k → goodPt (ps.getD j default) j = true) ∧ Below (w.heap.size + 1) (w.alloc (.cells #[.slice A n c] 48)) wr) (fun i _ _ => n - (intOf i).toNat)
  case atStart =>
    refine ⟨0, Nat.zero_le _, rfl, rfl, ⟨by simp, fun t ht => ?_⟩, List.nodup_nil, by intro j hj; omega, (Below.refl _ _).alloc (by simp) _⟩
    have ht' : t = 0 ∨ t = 1 ∨ t = 2 ∨ t = 3 ∨ t = 4 ∨ t = 5 ∨ t = 6 ∨ t = 7 ∨ t = 8 ∨ t = 9 ∨ t = 10 ∨ t = 11 := by omega
    rcases ht' with rfl | rfl | rfl | rfl | rfl | rfl | rfl | rfl | rfl | rfl | rfl | rfl <;> exact ⟨by go_simp, by go_simp⟩
  case round =>
    obtain ⟨k, hk, rfl, rfl, HM, HD, HG, hb⟩ := hrel
    have hbox : wr.cell? ⟨w.heap.size, 0, none⟩ = some (.slice A n c) := (hb.cell (p := ⟨w.heap.size, 0, none⟩) (by simp)).trans (by go_simp)
    have hgs : w.heap.size + 1 < wr.heap.size := HM.out.1
    have hfl : ((ps.take k).flatMap bel).length ≤ 36 := by
      have h2 := flat_len (ps.take k)
      have h3 : (ps.take k).length ≤ k := List.length_take_le _ _
      omega
    by_cases hlt : k < n
    · obtain ⟨b, off, rfl, hbB, hc⟩ := H.out (by have := HN.out; omega)
      obtain ⟨c0, c1, c2, c3, c4⟩ := hc k (by have := HN.out; omega)
      clear hc
      have hbw : b < w.heap.size := by omega
      have hbr : b < wr.heap.size := by omega
      have b0 := ((hb.cell (p := ⟨b, off + k * 5, none⟩) (by simp; omega)).trans (World.cell?_alloc_lt _ _ _ (by simpa using hbw))).trans c0
      have b1 := ((hb.cell (p := ⟨b, off + k * 5 + 1, none⟩) (by simp; omega)).trans (World.cell?_alloc_lt _ _ _ (by simpa using hbw))).trans c1
      have b2 := ((hb.cell (p := ⟨b, off + k * 5 + 2, none⟩) (by simp; omega)).trans (World.cell?_alloc_lt _ _ _ (by simpa using hbw))).trans c2
      have b3 := ((hb.cell (p := ⟨b, off + k * 5 + 3, none⟩) (by simp; omega)).trans (World.cell?_alloc_lt _ _ _ (by simpa using hbw))).trans c3
      have b4 := ((hb.cell (p := ⟨b, off + k * 5 + 4, none⟩) (by simp; omega)).trans (World.cell?_alloc_lt _ _ _ (by simpa using hbw))).trans c4
      clear c0 c1 c2 c3 c4 H
      generalize hp : ps.getD k default = p at *
      have HP := Lib.hid hp
      clear hp
      generalize hF : (ps.take k).flatMap bel = Fk at *
      have HF := Lib.hid hF
      clear hF
      go_wp2_with fail
      refine (impl_partsBelow p _).mono ?_
      rintro e w2 ⟨v, rfl, hown, hb2⟩
      obtain ⟨A2, c2, rfl, hI⟩ := hown.form
      clear hI
      rw [pbI_bel] at hown ⊢
      have HO := Lib.hid hown
      have HM2 : Hid (Mrk w2 (w.heap.size + 1) (Fk ++ (bel p).take 0)) := by
        have := (HM.out.below ((Below.refl _ _).alloc (Nat.le_refl _) _)).below hb2
        simpa [Hid] using this
      have hbw2 := (hb.alloc (by omega) _).trans (hb2.mono (by simp; omega))
      clear hown HM hb b0 b1 b2 b3 b4
      cases hok : pbOk p
      · go_wp2
        go_ret
        refine ⟨ret_b ?_, ((Below.refl _ _).alloc (Nat.le_refl _) _).trans (hbw2.mono (by omega))⟩
        have hgf : goodPt p k = false := by rw [good_iff, hok]; rfl
        simp [validF_bad ps k (by have := HN.out; omega) (by rw [HP.out]; exact hgf)]
      · have HOK := Lib.hid hok
        clear hok
        generalize hL : (bel p).length = L at *
        have HL := Lib.hid hL
        have hL3 : L ≤ 3 := by rw [← hL]; exact bel_len p
        clear hL hbox
        go_wp2
        go_loopw [38, 4] (fun i u wi => ∃ m : Nat, m ≤ L ∧ i = .int .i64 m ∧ u = .int .i64 ((Fk.length + m : Nat)) ∧ Hid (Mrk wi (w.heap.size + 1) (Fk ++ (bel p).take m)) ∧ Hid ((Fk ++ (bel p).take m).Nodup) ∧ Hid (∀ x ∈ (bel p).take m, 0 ≤ x ∧ x ≤ (k : Int) - 1) ∧ Hid (wi.ownsRow (wr.heap.size + 1) 3 1 (.slice A2 L c2) L ((bel p).map (Value.int .i64))) ∧ Hid (Below (w.heap.size + 1) w2 wi)) (fun i _ _ => L - (intOf i).toNat)
        case atStart => exact ⟨0, Nat.zero_le _, rfl, rfl, HM2.out, by simpa [Hid] using HD.out, by simp [Hid], by have := HO.out; simp only [OwnI, World.size_alloc] at this; rw [HL.out] at this; exact this, Below.refl _ _⟩
        case round =>
          clear HM2 HO
          obtain ⟨m, hm, rfl, rfl, HM, HD2, HR, HO, HB⟩ := hrel
          by_cases hml : m < L
          · obtain ⟨b2, off2, rfl, hb2', hc2⟩ := (IS.of_own HO.out) (by have := HL.out; omega)
            have hx := hc2 m (by have := HL.out; omega)
            clear hc2
            generalize hxx : (bel p).getD m 0 = x at *
            have HX := Lib.hid hxx
            clear hxx
            cases hr : rng x 0 ((k : Int) - 1)
            · go_wp2_with (go_at_call 62; refine (impl_inRange _ _ _).mono ?_; rintro e w' ⟨rfl, rfl⟩)
              go_ret
              refine ⟨ret_b ?_, ((Below.refl _ _).alloc (Nat.le_refl _) _).trans ((hbw2.trans HB.out).mono (by omega))⟩
              have hgf : goodPt p k = false := by
                cases hgg : goodPt p k
                · rfl
                · have := good_bel p k hgg x (by rw [← HX.out]; simp [List.getD, show m < (bel p).length by have := HL.out; omega])
                  simp [rng] at hr
                  omega
              simp [validF_bad ps k (by have := HN.out; omega) (by rw [HP.out]; exact hgf)]
            · obtain ⟨t, rfl⟩ : ∃ t : Nat, x = (t : Int) := ⟨x.toNat, by simp [rng] at hr; omega⟩
              have htk : t < k := by simp [rng] at hr; omega
              obtain ⟨hu1, hu2⟩ := HM.out.2 t (by omega)
              cases hin : decide ((t : Int) ∈ Fk ++ (bel p).take m)
              · have HIN := Lib.hid hin
                rw [hin] at hu1
                clear hin
                go_wp2_with (go_at_call 62; refine (impl_inRange _ _ _).mono ?_; rintro e w' ⟨rfl, rfl⟩)
                go_roundw
                case rel =>
                  have hts := take_succ_int (bel p) m _ (by have := HL.out; omega) HX.out
                  have hn0 := HM.out.set t (by omega)
                  have hnm : ¬ (t : Int) ∈ Fk ++ (bel p).take m := of_decide_eq_false HIN.out
                  have hown := ownsRow_setCell_below HO.out (a := ⟨w.heap.size + 1, t, none⟩) (by simp; try omega) (.bool true)
                  refine ⟨m + 1, by omega, by go_num, by go_num, ?_, ?_, ?_, hown, HB.out.setCell (p := ⟨w.heap.size + 1, t, none⟩) (by simp) _⟩
                  · rw [hts, ← List.append_assoc]; exact hn0
                  · rw [hts, ← List.append_assoc]
                    refine List.nodup_append.2 ⟨HD2.out, by simp, ?_⟩
                    intro a ha b hb e
                    simp at hb
                    subst hb
                    subst e
                    exact hnm ha
                  · rw [hts]
                    intro y hy
                    rcases List.mem_append.1 hy with hy | hy
                    · exact HR.out y hy
                    · simp at hy; omega
                case measure => simp [intOf]; omega
              · have HIN := Lib.hid hin
                rw [hin] at hu1
                clear hin
                go_wp2_with (go_at_call 62; refine (impl_inRange _ _ _).mono ?_; rintro e w' ⟨rfl, rfl⟩)
                go_ret
                refine ⟨ret_b ?_, ((Below.refl _ _).alloc (Nat.le_refl _) _).trans ((hbw2.trans HB.out).mono (by omega))⟩
                have hfd : validF ps = false := by
                  refine validF_dup ps k m (by have := HN.out; omega) (by rw [HP.out]; have := HL.out; omega) t (by rw [HP.out]; exact HX.out) htk ?_
                  rw [HF.out, HP.out]
                  exact of_decide_eq_true HIN.out
                simp [hfd]
          · go_wp2
            go_roundw
            case rel =>
              have hf := take_flat ps k (by have := HN.out; omega)
              rw [HP.out, HF.out] at hf
              have hmL : m = L := by omega
              have htm : (bel p).take m = bel p := List.take_of_length_le (by have := HL.out; omega)
              have hlen : ((Fk.length + m : Nat)) = ((ps.take (k + 1)).flatMap bel).length := by rw [hf, List.length_append, HL.out, hmL]
              refine ⟨k + 1, by omega, by go_num, by rw [← hlen]; try go_num, ?_, ?_, ?_, hbw2.trans HB.out⟩
              · rw [hf]; have := HM.out; rwa [htm] at this
              · rw [hf]; have := HD2.out; rwa [htm] at this
              · intro j hj
                rcases Nat.lt_or_ge j k with h1 | h1
                · exact HG.out j h1
                · obtain rfl : j = k := by omega
                  rw [HP.out, good_iff, HOK.out, Bool.true_and]
                  have := HR.out
                  rw [htm] at this
                  exact decide_eq_true this
            case measure => simp [intOf]; omega
    · obtain rfl : k = n := by omega
      rw [List.take_of_length_le (by have := HN.out; omega)] at HM HD hfl ⊢
      go_wp2
      go_ret
      refine ⟨ret_b ?_, ((Below.refl _ _).alloc (Nat.le_refl _) _).trans (hb.mono (by omega))⟩
      have hkn := HN.out
      rw [validF_marks ps (by omega) (by omega) (fun i hi => HG.out i (by omega)) HD.out, ← hkn]
      try simp
end Go.Proofs.Ytehlamofancdjaa

namespace Go.Proofs.Ytehlamofancdjaa
set_option linter.unusedSimpArgs false
set_option linter.unusedVariables false
open Go.RowKit
set_option maxHeartbeats 800000 in
theorem impl_combine (k x y : Int) (hx : 0 ≤ x) (hx' : x ≤ 999) (hy : 0 ≤ y) (hy' : y ≤ 999) (w : World) :
    Calls Try.prog 84 #[.int .i64 k, .int .i64 x, .int .i64 y] w fun e w' => e = .returned (.int .i64 (jn k x y)) ∧ w = w' := by
  obtain ⟨hm0, hm1⟩ := mul_bd x y hx hx' hy hy'
  have hs : 0 ≤ x - y + 1000 := by omega
  go_enter Try.func84, Try.ntmps84
  go_wp2
  all_goals
    go_ret
    refine ⟨ret_i ?_, rfl⟩
    simp_all [jn]
    try omega
set_option maxRecDepth 100000 in
set_option maxHeartbeats 800000 in
theorem impl_hasEach (A A' : Option Addr) (n c m c' : Nat) (ps : List Pt) (w : World) (B : Nat) (hB : B ≤ w.heap.size) (hn : n = ps.length) (h : PS w B A ps) (hs : n ≤ 2000000) (hm : m ≤ 2000000) :
    Calls Try.prog 83 #[.agg #[.slice A n c], .slice A' m c'] w fun e w' => e = .returned (.bool (eachOK ps m)) ∧ Below w.heap.size w w' := by
  have H := Lib.hid h
  have HN := Lib.hid hn
  clear hn h
  go_enter Try.func83, Try.ntmps83
  go_wp2
  go_loopw [10] (fun i wr => ∃ k : Nat, k ≤ n ∧ i = .int .i64 k ∧ Hid (∀ j, j < k → ((ps.getD j default).k == 1 && decide ((m : Int) ≤ (ps.getD j default).n)) = false) ∧ Below w.heap.size w wr) (fun i _ => n - (intOf i).toNat)
  case atStart => exact ⟨0, Nat.zero_le _, rfl, by intro j hj; omega, (Below.refl _ _).alloc (Nat.le_refl _) _⟩
  case round =>
    obtain ⟨k, hk, rfl, HA, hb⟩ := hrel
    have hwr : w.heap.size ≤ wr.heap.size := hb.size
    by_cases hlt : k < n
    · obtain ⟨b, off, rfl, hbB, hc⟩ := H.out (by have := HN.out; omega)
      obtain ⟨c0, c1, c2, c3, c4⟩ := hc k (by have := HN.out; omega)
      clear hc
      have b0 := (hb.cell (p := ⟨b, off + k * 5, none⟩) (by simp; omega)).trans c0
      have b1 := (hb.cell (p := ⟨b, off + k * 5 + 1, none⟩) (by simp; omega)).trans c1
      have b2 := (hb.cell (p := ⟨b, off + k * 5 + 2, none⟩) (by simp; omega)).trans c2
      have b3 := (hb.cell (p := ⟨b, off + k * 5 + 3, none⟩) (by simp; omega)).trans c3
      have b4 := (hb.cell (p := ⟨b, off + k * 5 + 4, none⟩) (by simp; omega)).trans c4
      clear c0 c1 c2 c3 c4
      generalize hp : ps.getD k default = p at *
      have HP := Lib.hid hp
      clear hp
      cases h1 : (p.k == 1)
      · have H1 := Lib.hid h1
        go_wp2
        go_roundw
        case rel => exact ⟨k + 1, by omega, by go_num, fun j hj => by
          rcases Nat.lt_or_ge j k with h2 | h2
          · exact HA.out j h2
          · obtain rfl : j = k := by omega
            rw [HP.out, H1.out]; rfl, hb.alloc hwr _⟩
        case measure => simp [intOf]; omega
      · have H1 := Lib.hid h1
        by_cases h2 : (m : Int) ≤ p.n
        · have H2 := Lib.hid h2
          go_wp2
          go_ret
          refine ⟨ret_b ?_, hb.alloc hwr _⟩
          have hf : eachOK ps m = false := by
            unfold eachOK
            rw [List.all_eq_false]
            refine ⟨ps.getD k default, getD_mem' ps k (by have := HN.out; omega), ?_⟩
            rw [HP.out, H1.out, decide_eq_true H2.out]; simp
          rw [hf]; try rfl
        · have H2 := Lib.hid h2
          go_wp2
          go_roundw
          case rel => exact ⟨k + 1, by omega, by go_num, fun j hj => by
            rcases Nat.lt_or_ge j k with h3 | h3
            · exact HA.out j h3
            · obtain rfl : j = k := by omega
              rw [HP.out, H1.out, decide_eq_false H2.out]; rfl, hb.alloc hwr _⟩
          case measure => simp [intOf]; omega
    · go_wp2
      go_ret
      refine ⟨ret_b ?_, hb⟩
      have hf : eachOK ps m = true := by
        unfold eachOK
        rw [List.all_eq_true]
        intro x hx
        obtain ⟨j, hj, rfl⟩ := List.mem_iff_getElem.1 hx
        have := HA.out j (by have := HN.out; omega)
        rw [show ps.getD j default = ps[j] by simp [List.getD, hj]] at this
        rw [this]; rfl
      rw [hf]; try rfl
set_option maxHeartbeats 800000 in
theorem impl_canEvaluate (A A' : Option Addr) (n c m c' : Nat) (ps : List Pt) (vs : List Int) (w : World) (B : Nat) (hB : B ≤ w.heap.size) (hn : n = ps.length) (hm : m = vs.length) (h : PS w B A ps) (h' : IS w B A' vs) (hs : n ≤ 2000000) (hs' : m ≤ 2000000) :
    Calls Try.prog 65 #[.agg #[.slice A n c], .slice A' m c'] w fun e w' => e = .returned (.bool (canEv ps vs)) ∧ Below w.heap.size w w' := by
  have H := Lib.hid h
  have HN := Lib.hid hn
  have H' := Lib.hid h'
  have HM := Lib.hid hm
  clear hn h hm h'
  cases hv : validF ps
  · have hr : canEv ps vs = false := by simp [canEv, hv]
    rw [hr]
    have HV := Lib.hid hv
    clear hr hv
    go_enter Try.func65, Try.ntmps65
    go_wp2_with fail
    refine (impl_ValidFormula _ _ _ ps _ B (by simp; omega) HN.out (H.out.alloc hB _) hs).mono ?_
    rintro e w1 ⟨rfl, hb⟩
    rw [HV.out]
    go_wp2
    go_ret
    exact ⟨rfl, ((Below.refl _ _).alloc (Nat.le_refl _) _).trans (hb.mono (by simp))⟩
  · cases hr2 : (decide (vs.length ≤ 10) && allR vs 0 999)
    · have hr : canEv ps vs = false := by simp only [canEv, hr2]; simp
      rw [hr]
      have HV := Lib.hid hv
      have HR2 := Lib.hid hr2
      clear hr hv hr2
      go_enter Try.func65, Try.ntmps65
      go_wp2_with fail
      refine (impl_ValidFormula _ _ _ ps _ B (by simp; omega) HN.out (H.out.alloc hB _) hs).mono ?_
      rintro e w1 ⟨rfl, hb⟩
      rw [HV.out]
      have hz : w.heap.size + 1 ≤ w1.heap.size := by have := hb.size; simpa using this
      have HI1 := Lib.hid ((H'.out.alloc hB _).below hb (by simp; omega))
      go_wp2_with fail
      refine (impl_allInRange _ _ _ vs _ _ B (by omega) HM.out HI1.out hs').mono ?_
      rintro e w2 ⟨rfl, rfl⟩
      rw [HR2.out]
      go_wp2
      go_ret
      exact ⟨rfl, ((Below.refl _ _).alloc (Nat.le_refl _) _).trans (hb.mono (by simp))⟩
    · have hr : canEv ps vs = eachOK ps m := by rw [HM.out]; simp only [canEv, hr2, hv]; simp
      rw [hr]
      have HV := Lib.hid hv
      have HR2 := Lib.hid hr2
      clear hr hv hr2
      go_enter Try.func65, Try.ntmps65
      go_wp2_with fail
      refine (impl_ValidFormula _ _ _ ps _ B (by simp; omega) HN.out (H.out.alloc hB _) hs).mono ?_
      rintro e w1 ⟨rfl, hb⟩
      rw [HV.out]
      have hz : w.heap.size + 1 ≤ w1.heap.size := by have := hb.size; simpa using this
      have hbox : w1.cell? ⟨w.heap.size, 0, none⟩ = some (.slice A n c) := (hb.cell (p := ⟨w.heap.size, 0, none⟩) (by simp)).trans (by go_simp)
      have HI1 := Lib.hid ((H'.out.alloc hB _).below hb (by simp; omega))
      have HP1 := Lib.hid ((H.out.alloc hB _).below hb (by simp; omega))
      go_wp2_with fail
      refine (impl_allInRange _ _ _ vs _ _ B (by omega) HM.out HI1.out hs').mono ?_
      rintro e w2 ⟨rfl, rfl⟩
      rw [HR2.out]
      go_wp2_with fail
      refine (impl_hasEach _ _ _ _ _ _ ps _ B (by omega) HN.out HP1.out hs hs').mono ?_
      rintro e w3 ⟨rfl, hb3⟩
      go_wp2
      go_ret
      exact ⟨by simp, ((Below.refl _ _).alloc (Nat.le_refl _) _).trans ((hb.trans (hb3.mono (by simp; omega))).mono (by simp))⟩
end Go.Proofs.Ytehlamofancdjaa

namespace Go.Proofs.Ytehlamofancdjaa
set_option linter.unusedSimpArgs false
set_option linter.unusedVariables false
open Go.RowKit
theorem own_form {w : World} {base e size n : Nat} {v : Value} {xs : List Value} (h : w.ownsRow base e size v n xs) : ∃ A c, v = .slice A n c := by
  rcases h.2 with ⟨hv, h0⟩ | ⟨g, cap, cur, hv, _⟩
  · exact ⟨none, 0, by rw [hv, h0]⟩
  · exact ⟨_, _, hv⟩
set_option maxHeartbeats 400000 in
theorem impl_wholeOf (A : Option Addr) (n c : Nat) (ps : List Pt) (B : Nat) (hn : n = ps.length) (hg : AllGood ps) (hs : n ≤ 2000000) (h1 : 1 ≤ n) (w : World) (hB : B ≤ w.heap.size) (h : PS w B A ps) :
    Calls Try.prog 67 #[.agg #[.slice A n c]] w fun e w' => RetT w (tmAt ps n (n - 1)) e w' := by
  have H := Lib.hid h
  have HN := Lib.hid hn
  have HG := Lib.hid hg
  clear h hn hg
  obtain ⟨m, rfl⟩ : ∃ m, n = m + 1 := ⟨n - 1, by omega⟩
  go_enter Try.func67, Try.ntmps67
  go_wp2_with fail
  refine (impl_termAt A (m + 1) c ps B HN.out HG.out hs (m + 1) m _ (by omega) (by omega) (by simp; omega) (H.out.alloc hB _)).mono ?_
  rintro e w1 ⟨T, x, rfl, hT, hb⟩
  have HT := Lib.hid hT
  clear hT
  go_wp2
  go_ret
  exact ⟨T, x, by simp, HT.out, ((Below.refl _ _).alloc (Nat.le_refl _) _).trans (hb.mono (by simp))⟩
end Go.Proofs.Ytehlamofancdjaa

namespace Go.Proofs.Ytehlamofancdjaa
set_option linter.unusedSimpArgs false
set_option linter.unusedVariables false
open Go.RowKit
theorem ta_NN (x : Value) (w : World) : (Instr.typeAssert (.iface 112 x) 98 112 true).run Try.prog w = .ok (.tuple #[x, .bool true]) w := by kernel_rfl
theorem ta_RN (x : Value) (w : World) : (Instr.typeAssert (.iface 114 x) 98 112 true).run Try.prog w = .ok (.tuple #[.agg #[.int .i64 0], .bool false]) w := by kernel_rfl
theorem ta_RR (x : Value) (w : World) : (Instr.typeAssert (.iface 114 x) 98 114 true).run Try.prog w = .ok (.tuple #[x, .bool true]) w := by kernel_rfl
theorem ta_PN (x : Value) (w : World) : (Instr.typeAssert (.iface 116 x) 98 112 true).run Try.prog w = .ok (.tuple #[.agg #[.int .i64 0], .bool false]) w := by kernel_rfl
theorem ta_PR (x : Value) (w : World) : (Instr.typeAssert (.iface 116 x) 98 114 true).run Try.prog w = .ok (.tuple #[.agg #[.int .i64 0], .bool false]) w := by kernel_rfl
theorem ta_PP (x : Value) (w : World) : (Instr.typeAssert (.iface 116 x) 98 116 true).run Try.prog w = .ok (.tuple #[x, .bool true]) w := by kernel_rfl
theorem ta_CN (x : Value) (w : World) : (Instr.typeAssert (.iface 119 x) 98 112 true).run Try.prog w = .ok (.tuple #[.agg #[.int .i64 0], .bool false]) w := by kernel_rfl
theorem ta_CR (x : Value) (w : World) : (Instr.typeAssert (.iface 119 x) 98 114 true).run Try.prog w = .ok (.tuple #[.agg #[.int .i64 0], .bool false]) w := by kernel_rfl
theorem ta_CP (x : Value) (w : World) : (Instr.typeAssert (.iface 119 x) 98 116 true).run Try.prog w = .ok (.tuple #[.agg #[.int .i64 0, .nilIface, .nilIface], .bool false]) w := by kernel_rfl
theorem ta_CC (x : Value) (w : World) : (Instr.typeAssert (.iface 119 x) 98 119 true).run Try.prog w = .ok (.tuple #[x, .bool true]) w := by kernel_rfl
/-- From w to w' only blocks of the footprint have turned; the footprint has got new blocks alone. -/
structure Fr (foot : World → Nat → Prop) (w w' : World) : Prop where
  size : w.heap.size ≤ w'.heap.size
  block : ∀ k, k < w.heap.size → ¬ foot w k → w'.heap[k]? = w.heap[k]?
  foot : ∀ k, foot w' k → foot w k ∨ w.heap.size ≤ k
theorem Fr.tr {foot : World → Nat → Prop} {a b c : World} (h : Fr foot a b) (k : Fr foot b c) : Fr foot a c :=
  ⟨Nat.le_trans h.size k.size, fun i hi hn => (k.block i (Nat.lt_of_lt_of_le hi h.size) fun hb => by
    rcases h.foot i hb with h1 | h1
    · exact hn h1
    · omega).trans (h.block i hi hn), fun i hi => by
    rcases k.foot i hi with h1 | h1
    · exact h.foot i h1
    · exact .inr (Nat.le_trans h.size h1)⟩
theorem Fr.cell {foot : World → Nat → Prop} {w w' : World} (h : Fr foot w w') {a : Addr} {v : Value} (hl : a.block < w.heap.size) (hn : ¬ foot w a.block) (hc : w.cell? a = some v) : w'.cell? a = some v :=
  (World.cell?_of_block (h.block a.block hl hn)).trans hc
theorem Fr.of_below {foot : World → Nat → Prop} {w w' : World} (h : Below w.heap.size w w') (hf : ∀ k, foot w' k → foot w k) : Fr foot w w' :=
  ⟨h.size, fun k hk _ => h.block k hk, fun k hk => .inl (hf k hk)⟩
set_option maxRecDepth 100000 in
set_option maxHeartbeats 3200000 in
theorem impl_evaluate1 (K : FuncId) (cap : Value) (vs : List Int) (hv : VOK vs) (foot : World → Nat → Prop) (I : List Int → World → Prop) (hG : ∀ acc w k, I acc w → foot w k → k < w.heap.size) (hI : ∀ acc w w', I acc w → Below w.heap.size w w' → I acc w' ∧ ∀ k, foot w' k → foot w k)
    (hcf : ∀ (q : Nat) (w : World), (callFunc K #[.int .i64 q, cap]).run Try.prog w = .ok (.enter K #[.int .i64 q, cap]) w)
    (hlook : ∀ (q : Nat) acc w, q < vs.length → I acc w → Calls Try.prog K #[.int .i64 q, cap] w fun e w' => e = .returned (.int .i64 (vs.getD q 0)) ∧ I (acc ++ [(q : Int)]) w' ∧ Fr foot w w') (t : Tm) :
    ∀ (acc : List Int) (w : World), t.ok vs.length → I acc w →
    Calls Try.prog 66 #[t.val, .func (.func K) #[] #[cap]] w fun e w' => e = .returned (.int .i64 (t.ev vs)) ∧ I (acc ++ t.rds vs) w' ∧ Fr foot w w' := by
  have HI := Lib.hid hI
  have HL := Lib.hid hlook
  have HV := Lib.hid hv
  have HG := Lib.hid hG
  have HCF := Lib.hid hcf
  clear hI hlook hv hG hcf
  induction t with
  | num v =>
    intro acc w hok h
    have H := Lib.hid h
    clear h hok
    show Calls _ _ #[.iface 112 (.agg #[.int .i64 v]), _] _ _
    have t1 := fun w => ta_NN (.agg #[.int .i64 v]) w
    go_enter Try.func66, Try.ntmps66
    go_wp2
    go_ret
    refine ⟨by simp [Tm.ev], ?_, Fr.of_below ((Below.refl w.heap.size w).alloc (Nat.le_refl _) _) (HI.out _ _ _ H.out ((Below.refl w.heap.size w).alloc (Nat.le_refl _) _)).2⟩
    have h1 := (HI.out _ _ _ H.out ((Below.refl w.heap.size w).alloc (Nat.le_refl _) (.cells #[.int .i64 v] 112))).1
    simpa [Tm.rds] using h1
  | rd v =>
    intro acc w hok h
    simp only [Tm.ok] at hok
    obtain ⟨q, rfl⟩ : ∃ q : Nat, v = (q : Int) := ⟨v.toNat, by omega⟩
    have hq : q < vs.length := by omega
    have HW0 := HI.out _ _ _ h ((Below.refl w.heap.size w).alloc (Nat.le_refl _) (.cells #[.int .i64 q] 114))
    have HW := Lib.hid HW0.1
    have HFR := Lib.hid (Fr.of_below (foot := foot) ((Below.refl w.heap.size w).alloc (Nat.le_refl _) (.cells #[.int .i64 q] 114)) HW0.2)
    have HNF := Lib.hid (show ¬ foot _ w.heap.size from fun hf => Nat.lt_irrefl _ (HG.out _ _ w.heap.size h (HW0.2 _ hf)))
    clear HW0
    clear h hok
    show Calls _ _ #[.iface 114 (.agg #[.int .i64 q]), _] _ _
    have t1 := fun w => ta_RN (.agg #[.int .i64 q]) w
    have t2 := fun w => ta_RR (.agg #[.int .i64 q]) w
    have hc := HCF.out q
    go_enter Try.func66, Try.ntmps66
    go_wp2_with fail
    refine (HL.out q acc _ hq HW.out).mono ?_
    rintro e w1 ⟨rfl, hI1, hg1⟩
    have H1 := Lib.hid hI1
    have HG1 := Lib.hid hg1
    clear hI1 hg1
    go_wp2
    go_ret
    exact ⟨by simp [Tm.ev, hq], H1.out, HFR.out.tr HG1.out⟩
  | pr k l r hl hr =>
    intro acc w hok h
    simp only [Tm.ok] at hok
    obtain ⟨T1, x1, e1⟩ := l.val_form
    obtain ⟨T2, x2, e2⟩ := r.val_form
    have HW0 := HI.out _ _ _ h ((Below.refl w.heap.size w).alloc (Nat.le_refl _) (.cells #[.int .i64 k, .iface T1 x1, .iface T2 x2] 116))
    have HW := Lib.hid HW0.1
    have HFR := Lib.hid (Fr.of_below (foot := foot) ((Below.refl w.heap.size w).alloc (Nat.le_refl _) (.cells #[.int .i64 k, .iface T1 x1, .iface T2 x2] 116)) HW0.2)
    have HNF := Lib.hid (show ¬ foot _ w.heap.size from fun hf => Nat.lt_irrefl _ (HG.out _ _ w.heap.size h (HW0.2 _ hf)))
    clear HW0
    obtain ⟨ex1, ex2⟩ := Tm.ev_bd vs HV.out l hok.1
    obtain ⟨ey1, ey2⟩ := Tm.ev_bd vs HV.out r hok.2
    have HLC := Lib.hid (fun acc w => hl acc w hok.1)
    have HRC := Lib.hid (fun acc w => hr acc w hok.2)
    have hev : (Tm.pr k l r).ev vs = jn k (l.ev vs) (r.ev vs) := rfl
    have hrd : (Tm.pr k l r).rds vs = l.rds vs ++ r.rds vs := rfl
    rw [hev, hrd]
    show Calls _ _ #[.iface 116 (.agg #[.int .i64 k, l.val, r.val]), _] _ _
    rw [e1, e2]
    rw [e1] at HLC
    rw [e2] at HRC
    generalize l.ev vs = xa at *
    generalize r.ev vs = xb at *
    generalize l.rds vs = ra at *
    generalize r.rds vs = rb at *
    clear h hok hl hr hev hrd e1 e2
    have t1 := fun w => ta_PN (.agg #[.int .i64 k, .iface T1 x1, .iface T2 x2]) w
    have t2 := fun w => ta_PR (.agg #[.int .i64 k, .iface T1 x1, .iface T2 x2]) w
    have t3 := fun w => ta_PP (.agg #[.int .i64 k, .iface T1 x1, .iface T2 x2]) w
    go_enter Try.func66, Try.ntmps66
    go_wp2_with fail
    refine (HLC.out acc _ HW.out).mono ?_
    rintro e w1 ⟨rfl, hI1, hg1⟩
    have q0 : w1.cell? ⟨w.heap.size, 0, none⟩ = some (.int .i64 k) := hg1.cell (a := ⟨w.heap.size, 0, none⟩) (by simp) HNF.out (by go_simp)
    have q2 : w1.cell? ⟨w.heap.size, 2, none⟩ = some (.iface T2 x2) := hg1.cell (a := ⟨w.heap.size, 2, none⟩) (by simp) HNF.out (by go_simp)
    have H1 := Lib.hid hI1
    have HG1 := Lib.hid (HFR.out.tr hg1)
    have hs1 : w.heap.size < w1.heap.size := by have := hg1.size; simp at this; omega
    have HNF1 := Lib.hid (show ¬ foot w1 w.heap.size from fun hf => (hg1.foot w.heap.size hf).elim HNF.out (fun h9 => by simp at h9; try omega))
    clear hI1 hg1
    go_wp2_with fail
    refine (HRC.out _ _ H1.out).mono ?_
    rintro e w2 ⟨rfl, hI2, hg2⟩
    have q0' : w2.cell? ⟨w.heap.size, 0, none⟩ = some (.int .i64 k) := hg2.cell (a := ⟨w.heap.size, 0, none⟩) hs1 HNF1.out q0
    have H2 := Lib.hid hI2
    have HG2 := Lib.hid (HG1.out.tr hg2)
    clear hI2 hg2 q0 q2
    go_wp2_with (go_at_call 84; refine (impl_combine k xa xb (by omega) (by omega) (by omega) (by omega) _).mono ?_; rintro e w3 ⟨rfl, rfl⟩)
    go_ret
    exact ⟨by simp, by rw [← List.append_assoc]; exact H2.out, HG2.out⟩
  | ch t a b ht ha hb =>
    intro acc w hok h
    simp only [Tm.ok] at hok
    obtain ⟨T1, x1, e1⟩ := t.val_form
    obtain ⟨T2, x2, e2⟩ := a.val_form
    obtain ⟨T3, x3, e3⟩ := b.val_form
    have HW0 := HI.out _ _ _ h ((Below.refl w.heap.size w).alloc (Nat.le_refl _) (.cells #[.iface T1 x1, .iface T2 x2, .iface T3 x3] 119))
    have HW := Lib.hid HW0.1
    have HFR := Lib.hid (Fr.of_below (foot := foot) ((Below.refl w.heap.size w).alloc (Nat.le_refl _) (.cells #[.iface T1 x1, .iface T2 x2, .iface T3 x3] 119)) HW0.2)
    have HNF := Lib.hid (show ¬ foot _ w.heap.size from fun hf => Nat.lt_irrefl _ (HG.out _ _ w.heap.size h (HW0.2 _ hf)))
    clear HW0
    have HTC := Lib.hid (fun acc w => ht acc w hok.1)
    have HAC := Lib.hid (fun acc w => ha acc w hok.2.1)
    have HBC := Lib.hid (fun acc w => hb acc w hok.2.2)
    have hev : (Tm.ch t a b).ev vs = if t.ev vs == 0 then b.ev vs else a.ev vs := rfl
    have hrd : (Tm.ch t a b).rds vs = t.rds vs ++ (if t.ev vs == 0 then b.rds vs else a.rds vs) := rfl
    rw [hev, hrd]
    show Calls _ _ #[.iface 119 (.agg #[t.val, a.val, b.val]), _] _ _
    rw [e1, e2, e3]
    rw [e1] at HTC
    rw [e2] at HAC
    rw [e3] at HBC
    have t1 := fun w => ta_CN (.agg #[.iface T1 x1, .iface T2 x2, .iface T3 x3]) w
    have t2 := fun w => ta_CR (.agg #[.iface T1 x1, .iface T2 x2, .iface T3 x3]) w
    have t3 := fun w => ta_CP (.agg #[.iface T1 x1, .iface T2 x2, .iface T3 x3]) w
    have t4 := fun w => ta_CC (.agg #[.iface T1 x1, .iface T2 x2, .iface T3 x3]) w
    cases hz : (t.ev vs == 0)
    · have hz' : (t.ev vs != 0) = true := by simp [bne, hz]
      simp only [Bool.false_eq_true, if_false]
      generalize t.ev vs = xt at *
      generalize a.ev vs = xa at *
      generalize t.rds vs = rt at *
      generalize a.rds vs = ra at *
      clear h hok ht ha hb hev hrd e1 e2 e3 hz
      go_enter Try.func66, Try.ntmps66
      go_wp2_with fail
      refine (HTC.out acc _ HW.out).mono ?_
      rintro e w1 ⟨rfl, hI1, hg1⟩
      have q1 : w1.cell? ⟨w.heap.size, 1, none⟩ = some (.iface T2 x2) := hg1.cell (a := ⟨w.heap.size, 1, none⟩) (by simp) HNF.out (by go_simp)
      have H1 := Lib.hid hI1
      have HG1 := Lib.hid (HFR.out.tr hg1)
      clear hI1 hg1
      go_wp2_with fail
      refine (HAC.out _ _ H1.out).mono ?_
      rintro e w2 ⟨rfl, hI2, hg2⟩
      have H2 := Lib.hid hI2
      have HG2 := Lib.hid (HG1.out.tr hg2)
      clear hI2 hg2
      go_wp2
      go_ret
      exact ⟨by simp, by rw [← List.append_assoc]; exact H2.out, HG2.out⟩
    · have hz' : (t.ev vs != 0) = false := by simp [bne, hz]
      simp only [if_true]
      generalize t.ev vs = xt at *
      generalize b.ev vs = xb at *
      generalize t.rds vs = rt at *
      generalize b.rds vs = rb at *
      clear h hok ht ha hb hev hrd e1 e2 e3 hz
      go_enter Try.func66, Try.ntmps66
      go_wp2_with fail
      refine (HTC.out acc _ HW.out).mono ?_
      rintro e w1 ⟨rfl, hI1, hg1⟩
      have q1 : w1.cell? ⟨w.heap.size, 2, none⟩ = some (.iface T3 x3) := hg1.cell (a := ⟨w.heap.size, 2, none⟩) (by simp) HNF.out (by go_simp)
      have H1 := Lib.hid hI1
      have HG1 := Lib.hid (HFR.out.tr hg1)
      clear hI1 hg1
      go_wp2_with fail
      refine (HBC.out _ _ H1.out).mono ?_
      rintro e w2 ⟨rfl, hI2, hg2⟩
      have H2 := Lib.hid hI2
      have HG2 := Lib.hid (HG1.out.tr hg2)
      clear hI2 hg2
      go_wp2
      go_ret
      exact ⟨by simp, by rw [← List.append_assoc]; exact H2.out, HG2.out⟩
set_option maxRecDepth 100000 in
set_option maxHeartbeats 3200000 in
theorem impl_evaluate2 (K : FuncId) (cap cap2 : Value) (vs : List Int) (hv : VOK vs) (foot : World → Nat → Prop) (I : List Int → World → Prop) (hG : ∀ acc w k, I acc w → foot w k → k < w.heap.size) (hI : ∀ acc w w', I acc w → Below w.heap.size w w' → I acc w' ∧ ∀ k, foot w' k → foot w k)
    (hcf : ∀ (q : Nat) (w : World), (callFunc K #[.int .i64 q, cap, cap2]).run Try.prog w = .ok (.enter K #[.int .i64 q, cap, cap2]) w)
    (hlook : ∀ (q : Nat) acc w, q < vs.length → I acc w → Calls Try.prog K #[.int .i64 q, cap, cap2] w fun e w' => e = .returned (.int .i64 (vs.getD q 0)) ∧ I (acc ++ [(q : Int)]) w' ∧ Fr foot w w') (t : Tm) :
    ∀ (acc : List Int) (w : World), t.ok vs.length → I acc w →
    Calls Try.prog 66 #[t.val, .func (.func K) #[] #[cap, cap2]] w fun e w' => e = .returned (.int .i64 (t.ev vs)) ∧ I (acc ++ t.rds vs) w' ∧ Fr foot w w' := by
  have HI := Lib.hid hI
  have HL := Lib.hid hlook
  have HV := Lib.hid hv
  have HG := Lib.hid hG
  have HCF := Lib.hid hcf
  clear hI hlook hv hG hcf
  induction t with
  | num v =>
    intro acc w hok h
    have H := Lib.hid h
    clear h hok
    show Calls _ _ #[.iface 112 (.agg #[.int .i64 v]), _] _ _
    have t1 := fun w => ta_NN (.agg #[.int .i64 v]) w
    go_enter Try.func66, Try.ntmps66
    go_wp2
    go_ret
    refine ⟨by simp [Tm.ev], ?_, Fr.of_below ((Below.refl w.heap.size w).alloc (Nat.le_refl _) _) (HI.out _ _ _ H.out ((Below.refl w.heap.size w).alloc (Nat.le_refl _) _)).2⟩
    have h1 := (HI.out _ _ _ H.out ((Below.refl w.heap.size w).alloc (Nat.le_refl _) (.cells #[.int .i64 v] 112))).1
    simpa [Tm.rds] using h1
  | rd v =>
    intro acc w hok h
    simp only [Tm.ok] at hok
    obtain ⟨q, rfl⟩ : ∃ q : Nat, v = (q : Int) := ⟨v.toNat, by omega⟩
    have hq : q < vs.length := by omega
    have HW0 := HI.out _ _ _ h ((Below.refl w.heap.size w).alloc (Nat.le_refl _) (.cells #[.int .i64 q] 114))
    have HW := Lib.hid HW0.1
    have HFR := Lib.hid (Fr.of_below (foot := foot) ((Below.refl w.heap.size w).alloc (Nat.le_refl _) (.cells #[.int .i64 q] 114)) HW0.2)
    have HNF := Lib.hid (show ¬ foot _ w.heap.size from fun hf => Nat.lt_irrefl _ (HG.out _ _ w.heap.size h (HW0.2 _ hf)))
    clear HW0
    clear h hok
    show Calls _ _ #[.iface 114 (.agg #[.int .i64 q]), _] _ _
    have t1 := fun w => ta_RN (.agg #[.int .i64 q]) w
    have t2 := fun w => ta_RR (.agg #[.int .i64 q]) w
    have hc := HCF.out q
    go_enter Try.func66, Try.ntmps66
    go_wp2_with fail
    refine (HL.out q acc _ hq HW.out).mono ?_
    rintro e w1 ⟨rfl, hI1, hg1⟩
    have H1 := Lib.hid hI1
    have HG1 := Lib.hid hg1
    clear hI1 hg1
    go_wp2
    go_ret
    exact ⟨by simp [Tm.ev, hq], H1.out, HFR.out.tr HG1.out⟩
  | pr k l r hl hr =>
    intro acc w hok h
    simp only [Tm.ok] at hok
    obtain ⟨T1, x1, e1⟩ := l.val_form
    obtain ⟨T2, x2, e2⟩ := r.val_form
    have HW0 := HI.out _ _ _ h ((Below.refl w.heap.size w).alloc (Nat.le_refl _) (.cells #[.int .i64 k, .iface T1 x1, .iface T2 x2] 116))
    have HW := Lib.hid HW0.1
    have HFR := Lib.hid (Fr.of_below (foot := foot) ((Below.refl w.heap.size w).alloc (Nat.le_refl _) (.cells #[.int .i64 k, .iface T1 x1, .iface T2 x2] 116)) HW0.2)
    have HNF := Lib.hid (show ¬ foot _ w.heap.size from fun hf => Nat.lt_irrefl _ (HG.out _ _ w.heap.size h (HW0.2 _ hf)))
    clear HW0
    obtain ⟨ex1, ex2⟩ := Tm.ev_bd vs HV.out l hok.1
    obtain ⟨ey1, ey2⟩ := Tm.ev_bd vs HV.out r hok.2
    have HLC := Lib.hid (fun acc w => hl acc w hok.1)
    have HRC := Lib.hid (fun acc w => hr acc w hok.2)
    have hev : (Tm.pr k l r).ev vs = jn k (l.ev vs) (r.ev vs) := rfl
    have hrd : (Tm.pr k l r).rds vs = l.rds vs ++ r.rds vs := rfl
    rw [hev, hrd]
    show Calls _ _ #[.iface 116 (.agg #[.int .i64 k, l.val, r.val]), _] _ _
    rw [e1, e2]
    rw [e1] at HLC
    rw [e2] at HRC
    generalize l.ev vs = xa at *
    generalize r.ev vs = xb at *
    generalize l.rds vs = ra at *
    generalize r.rds vs = rb at *
    clear h hok hl hr hev hrd e1 e2
    have t1 := fun w => ta_PN (.agg #[.int .i64 k, .iface T1 x1, .iface T2 x2]) w
    have t2 := fun w => ta_PR (.agg #[.int .i64 k, .iface T1 x1, .iface T2 x2]) w
    have t3 := fun w => ta_PP (.agg #[.int .i64 k, .iface T1 x1, .iface T2 x2]) w
    go_enter Try.func66, Try.ntmps66
    go_wp2_with fail
    refine (HLC.out acc _ HW.out).mono ?_
    rintro e w1 ⟨rfl, hI1, hg1⟩
    have q0 : w1.cell? ⟨w.heap.size, 0, none⟩ = some (.int .i64 k) := hg1.cell (a := ⟨w.heap.size, 0, none⟩) (by simp) HNF.out (by go_simp)
    have q2 : w1.cell? ⟨w.heap.size, 2, none⟩ = some (.iface T2 x2) := hg1.cell (a := ⟨w.heap.size, 2, none⟩) (by simp) HNF.out (by go_simp)
    have H1 := Lib.hid hI1
    have HG1 := Lib.hid (HFR.out.tr hg1)
    have hs1 : w.heap.size < w1.heap.size := by have := hg1.size; simp at this; omega
    have HNF1 := Lib.hid (show ¬ foot w1 w.heap.size from fun hf => (hg1.foot w.heap.size hf).elim HNF.out (fun h9 => by simp at h9; try omega))
    clear hI1 hg1
    go_wp2_with fail
    refine (HRC.out _ _ H1.out).mono ?_
    rintro e w2 ⟨rfl, hI2, hg2⟩
    have q0' : w2.cell? ⟨w.heap.size, 0, none⟩ = some (.int .i64 k) := hg2.cell (a := ⟨w.heap.size, 0, none⟩) hs1 HNF1.out q0
    have H2 := Lib.hid hI2
    have HG2 := Lib.hid (HG1.out.tr hg2)
    clear hI2 hg2 q0 q2
    go_wp2_with (go_at_call 84; refine (impl_combine k xa xb (by omega) (by omega) (by omega) (by omega) _).mono ?_; rintro e w3 ⟨rfl, rfl⟩)
    go_ret
    exact ⟨by simp, by rw [← List.append_assoc]; exact H2.out, HG2.out⟩
  | ch t a b ht ha hb =>
    intro acc w hok h
    simp only [Tm.ok] at hok
    obtain ⟨T1, x1, e1⟩ := t.val_form
    obtain ⟨T2, x2, e2⟩ := a.val_form
    obtain ⟨T3, x3, e3⟩ := b.val_form
    have HW0 := HI.out _ _ _ h ((Below.refl w.heap.size w).alloc (Nat.le_refl _) (.cells #[.iface T1 x1, .iface T2 x2, .iface T3 x3] 119))
    have HW := Lib.hid HW0.1
    have HFR := Lib.hid (Fr.of_below (foot := foot) ((Below.refl w.heap.size w).alloc (Nat.le_refl _) (.cells #[.iface T1 x1, .iface T2 x2, .iface T3 x3] 119)) HW0.2)
    have HNF := Lib.hid (show ¬ foot _ w.heap.size from fun hf => Nat.lt_irrefl _ (HG.out _ _ w.heap.size h (HW0.2 _ hf)))
    clear HW0
    have HTC := Lib.hid (fun acc w => ht acc w hok.1)
    have HAC := Lib.hid (fun acc w => ha acc w hok.2.1)
    have HBC := Lib.hid (fun acc w => hb acc w hok.2.2)
    have hev : (Tm.ch t a b).ev vs = if t.ev vs == 0 then b.ev vs else a.ev vs := rfl
    have hrd : (Tm.ch t a b).rds vs = t.rds vs ++ (if t.ev vs == 0 then b.rds vs else a.rds vs) := rfl
    rw [hev, hrd]
    show Calls _ _ #[.iface 119 (.agg #[t.val, a.val, b.val]), _] _ _
    rw [e1, e2, e3]
    rw [e1] at HTC
    rw [e2] at HAC
    rw [e3] at HBC
    have t1 := fun w => ta_CN (.agg #[.iface T1 x1, .iface T2 x2, .iface T3 x3]) w
    have t2 := fun w => ta_CR (.agg #[.iface T1 x1, .iface T2 x2, .iface T3 x3]) w
    have t3 := fun w => ta_CP (.agg #[.iface T1 x1, .iface T2 x2, .iface T3 x3]) w
    have t4 := fun w => ta_CC (.agg #[.iface T1 x1, .iface T2 x2, .iface T3 x3]) w
    cases hz : (t.ev vs == 0)
    · have hz' : (t.ev vs != 0) = true := by simp [bne, hz]
      simp only [Bool.false_eq_true, if_false]
      generalize t.ev vs = xt at *
      generalize a.ev vs = xa at *
      generalize t.rds vs = rt at *
      generalize a.rds vs = ra at *
      clear h hok ht ha hb hev hrd e1 e2 e3 hz
      go_enter Try.func66, Try.ntmps66
      go_wp2_with fail
      refine (HTC.out acc _ HW.out).mono ?_
      rintro e w1 ⟨rfl, hI1, hg1⟩
      have q1 : w1.cell? ⟨w.heap.size, 1, none⟩ = some (.iface T2 x2) := hg1.cell (a := ⟨w.heap.size, 1, none⟩) (by simp) HNF.out (by go_simp)
      have H1 := Lib.hid hI1
      have HG1 := Lib.hid (HFR.out.tr hg1)
      clear hI1 hg1
      go_wp2_with fail
      refine (HAC.out _ _ H1.out).mono ?_
      rintro e w2 ⟨rfl, hI2, hg2⟩
      have H2 := Lib.hid hI2
      have HG2 := Lib.hid (HG1.out.tr hg2)
      clear hI2 hg2
      go_wp2
      go_ret
      exact ⟨by simp, by rw [← List.append_assoc]; exact H2.out, HG2.out⟩
    · have hz' : (t.ev vs != 0) = false := by simp [bne, hz]
      simp only [if_true]
      generalize t.ev vs = xt at *
      generalize b.ev vs = xb at *
      generalize t.rds vs = rt at *
      generalize b.rds vs = rb at *
      clear h hok ht ha hb hev hrd e1 e2 e3 hz
      go_enter Try.func66, Try.ntmps66
      go_wp2_with fail
      refine (HTC.out acc _ HW.out).mono ?_
      rintro e w1 ⟨rfl, hI1, hg1⟩
      have q1 : w1.cell? ⟨w.heap.size, 2, none⟩ = some (.iface T3 x3) := hg1.cell (a := ⟨w.heap.size, 2, none⟩) (by simp) HNF.out (by go_simp)
      have H1 := Lib.hid hI1
      have HG1 := Lib.hid (HFR.out.tr hg1)
      clear hI1 hg1
      go_wp2_with fail
      refine (HBC.out _ _ H1.out).mono ?_
      rintro e w2 ⟨rfl, hI2, hg2⟩
      have H2 := Lib.hid hI2
      have HG2 := Lib.hid (HG1.out.tr hg2)
      clear hI2 hg2
      go_wp2
      go_ret
      exact ⟨by simp, by rw [← List.append_assoc]; exact H2.out, HG2.out⟩
end Go.Proofs.Ytehlamofancdjaa

namespace Go.Proofs.Ytehlamofancdjaa
set_option linter.unusedSimpArgs false
set_option linter.unusedVariables false
open Go.RowKit
/-- What ValueOf answers. -/
def valF (ps : List Pt) (vs : List Int) : Int := if canEv ps vs then (whole ps).ev vs else 0
end Go.Proofs.Ytehlamofancdjaa

namespace Go.Proofs.Ytehlamofancdjaa
set_option linter.unusedSimpArgs false
set_option linter.unusedVariables false
open Go.RowKit
theorem below_new (wk : World) (o : Obj) : Below wk.heap.size wk (wk.alloc o) := (Below.refl _ _).alloc (Nat.le_refl _) o
end Go.Proofs.Ytehlamofancdjaa

namespace Go.Proofs.Ytehlamofancdjaa
set_option linter.unusedSimpArgs false
set_option linter.unusedVariables false
open Go.RowKit
/-- P speaks of blocks lo to hi - 1 alone. -/
def Loc (lo hi : Nat) (P : World → Prop) : Prop := ∀ w w' : World, P w → (∀ k, lo ≤ k → k < hi → w'.heap[k]? = w.heap[k]?) → P w'
theorem Loc.and {lo hi : Nat} {P Q : World → Prop} (hP : Loc lo hi P) (hQ : Loc lo hi Q) : Loc lo hi fun w => P w ∧ Q w :=
  fun w w' h hk => ⟨hP w w' h.1 hk, hQ w w' h.2 hk⟩
theorem Loc.mono {lo hi lo' hi' : Nat} {P : World → Prop} (h : Loc lo hi P) (h1 : lo' ≤ lo) (h2 : hi ≤ hi') : Loc lo' hi' P :=
  fun w w' hp hk => h w w' hp fun k a b => hk k (by omega) (by omega)
theorem IS.loc (B : Nat) (A : Option Addr) (xs : List Int) : Loc 0 B fun w => IS w B A xs :=
  fun w w' h hk => h.keep fun p hp => World.cell?_of_block (hk p.block (Nat.zero_le _) hp)
theorem PS.loc (B : Nat) (A : Option Addr) (ps : List Pt) : Loc 0 B fun w => PS w B A ps :=
  fun w w' h hk => h.keep fun p hp => World.cell?_of_block (hk p.block (Nat.zero_le _) hp)
/-- A row of the call's own in blocks lo to hi - 1. -/
def OwR (lo hi : Nat) (e : TypeId) (size : Nat) (v : Value) (n : Nat) (xs : List Value) (w : World) : Prop :=
  w.ownsRow lo e size v n xs ∧ ∀ k, v.ownBlock = some k → k < hi
section
variable {lo hi lo' hi' : Nat} {e : TypeId} {size n : Nat} {v : Value} {xs : List Value} {w w' : World}
theorem OwR.start (h : w.ownsRow lo e size v n xs) : OwR lo w.heap.size e size v n xs w := ⟨h, fun k hk => (h.lt k hk).2⟩
theorem OwR.mono (h : OwR lo hi e size v n xs w) (h1 : lo' ≤ lo) (h2 : hi ≤ hi') : OwR lo' hi' e size v n xs w := ⟨own_mono h.1 h1, fun k hk => Nat.lt_of_lt_of_le (h.2 k hk) h2⟩
theorem OwR.keep (h : OwR lo hi e size v n xs w) (hk : ∀ k, lo ≤ k → k < hi → w'.heap[k]? = w.heap[k]?) : OwR lo hi e size v n xs w' := by
  refine ⟨⟨h.1.1, ?_⟩, h.2⟩
  rcases h.1.2 with hn | ⟨g, cap, cur, rfl, hb, hg, r⟩
  · exact .inl hn
  · exact .inr ⟨g, cap, cur, rfl, hb, by rw [hk g hb (h.2 g rfl)]; exact hg, r⟩
theorem OwR.loc (lo hi : Nat) (e : TypeId) (size : Nat) (v : Value) (n : Nat) (xs : List Value) : Loc lo hi (OwR lo hi e size v n xs) := fun w w' h hk => h.keep hk
theorem OwR.nil (lo hi : Nat) (e : TypeId) (size : Nat) (w : World) : OwR lo hi e size (.slice none 0 0) 0 [] w := ⟨World.ownsRow_nil _ _ _ _, fun k hk => by simp [Value.ownBlock] at hk⟩
theorem OwR.step (h : OwR lo hi e size v n xs w) (hb : Below w.heap.size w w') : OwR lo hi e size v n xs w' := by
  refine ⟨own_below h.1 hb, h.2⟩
end
section
variable {lo hi : Nat} {n c : Nat} {A : Option Addr} {ps : List Pt} {xs : List Int} {w : World}
theorem OwR.ints (h : OwR lo hi 3 1 (.slice A n c) n (xs.map (Value.int .i64)) w) : IS w hi A xs := by
  intro hn
  obtain ⟨b, off, rfl, _, hc⟩ := IS.of_own h.1 hn
  exact ⟨b, off, rfl, h.2 b rfl, hc⟩
theorem OwR.parts (h : OwR lo hi 103 5 (.slice A n c) n (ps.flatMap Pt.cells) w) : PS w hi A ps := by
  intro hn
  obtain ⟨b, off, rfl, _, hc⟩ := PS.of_own h.1 hn
  exact ⟨b, off, rfl, h.2 b rfl, hc⟩
end
end Go.Proofs.Ytehlamofancdjaa

namespace Go.Proofs.Ytehlamofancdjaa
set_option linter.unusedSimpArgs false
set_option linter.unusedVariables false
open Go.RowKit
theorem GS.loc (B : Nat) (A : Option Addr) (gs : List Nd) : Loc 0 B fun w => GS w B A gs :=
  fun w w' h hk => h.keep fun p hp => World.cell?_of_block (hk p.block (Nat.zero_le _) hp)
/-- The block of a row of one kind is not that of a row of another kind. -/
theorem blocks_ne {w : World} {b1 b2 : Nat} {e1 e2 : TypeId} {s1 s2 n1 n2 : Nat} {v u : Value} {xs ys : List Value} (h : w.ownsRow b1 e1 s1 v n1 xs) (h' : w.ownsRow b2 e2 s2 u n2 ys) (he : e1 ≠ e2) : v.ownBlock = none ∨ v.ownBlock ≠ u.ownBlock := by
  rcases h.2 with ⟨rfl, _⟩ | ⟨g, cap, cur, rfl, _, hh, _⟩
  · exact .inl rfl
  · right
    rcases h'.2 with ⟨rfl, _⟩ | ⟨g', cap', cur', rfl, _, hh', _⟩
    · simp [Value.ownBlock]
    · simp only [Value.ownBlock, ne_eq, Option.some.injEq]
      rintro rfl
      rw [hh] at hh'
      simp only [Option.some.injEq, Obj.cells.injEq] at hh'
      exact he hh'.2.1
end Go.Proofs.Ytehlamofancdjaa

namespace Go.Proofs.Ytehlamofancdjaa
set_option linter.unusedSimpArgs false
set_option linter.unusedVariables false
open Go.RowKit
theorem validG_long (gs : List Nd) (h : 10 < gs.length) : validG gs = false := by
  unfold validG
  rw [decide_eq_false (p := gs.length ≤ 10) (by omega), Bool.and_false]
theorem validC_VOK (gs : List Nd) (cs : List Int) (h : validC gs cs = true) : VOK cs := by
  obtain ⟨hl, hc⟩ := validC_parts gs cs h
  intro j hj
  exact cellOK_bd gs cs j (hc j (by omega))
theorem validC_allR (gs : List Nd) (cs : List Int) (h : validC gs cs = true) : allR cs 0 999 = true := by
  refine allR_true _ _ _ fun k hk => ?_
  have := validC_VOK gs cs h k hk
  unfold rng
  simpa using this
theorem validC_range (gs : List Nd) (cs : List Int) (h : allR cs 0 999 = false) : validC gs cs = false := by
  cases hv : validC gs cs
  · rfl
  · rw [validC_allR gs cs hv] at h; cases h
def meanF (gs : List Nd) (cs : List Int) : List Int := if okC gs cs then mean gs cs else []
end Go.Proofs.Ytehlamofancdjaa

namespace Go.Proofs.Ytehlamofancdjaa
set_option linter.unusedSimpArgs false
set_option linter.unusedVariables false
open Go.RowKit
set_option maxHeartbeats 400000 in
theorem look_value (A' : Option Addr) (m c' g q : Nat) (vs : List Int) (w : World) (B : Nat) (hm : m = vs.length) (hs' : m ≤ 2000000) (hq : q < vs.length) (hc : w.cell? ⟨g, 0, none⟩ = some (.slice A' m c')) (h : IS w B A' vs) :
    Calls Try.prog 82 #[.int .i64 q, .pointer (some ⟨g, 0, none⟩)] w fun e w' => e = .returned (.int .i64 (vs.getD q 0)) ∧ w = w' := by
  obtain ⟨b, off, rfl, hb, hcc⟩ := h (by omega)
  have hx := hcc q hq
  have hqm : q < m := by omega
  generalize vs.getD q 0 = x at *
  clear hcc h hm hq
  go_enter Try.func82, Try.ntmps82
  go_wp2
  go_ret
  exact ⟨rfl, rfl⟩
set_option maxHeartbeats 800000 in
theorem impl_ValueOf (A A' : Option Addr) (n c m c' : Nat) (ps : List Pt) (vs : List Int) (B : Nat) (hn : n = ps.length) (hm : m = vs.length) (hs : n ≤ 1999999) (hs' : m ≤ 2000000) (w : World) (hB : B ≤ w.heap.size) (h : PS w B A ps) (h' : IS w B A' vs) :
    Calls Try.prog 64 #[.agg #[.slice A n c], .slice A' m c'] w fun e w' => e = .returned (.tuple #[.int .i64 (valF ps vs), .bool (canEv ps vs)]) ∧ Below w.heap.size w w' := by
  have H := Lib.hid h
  have HN := Lib.hid hn
  have H' := Lib.hid h'
  have HM := Lib.hid hm
  clear hn h hm h'
  cases hc : canEv ps vs
  · have hr : valF ps vs = 0 := by simp [valF, hc]
    rw [hr]
    have HC := Lib.hid hc
    clear hr hc
    go_enter Try.func64, Try.ntmps64
    go_wp2_with fail
    refine (impl_canEvaluate _ _ _ _ _ _ ps vs _ B (by simp; omega) HN.out HM.out ((H.out.alloc hB _).alloc (by simp; omega) _) ((H'.out.alloc hB _).alloc (by simp; omega) _) (by omega) hs').mono ?_
    rintro e w1 ⟨rfl, hb⟩
    rw [HC.out]
    go_wp2
    go_ret2
    exact ⟨rfl, (((Below.refl _ _).alloc (Nat.le_refl _) _).alloc (by simp) _).trans (hb.mono (by simp; omega))⟩
  · have hr : valF ps vs = (whole ps).ev vs := by simp [valF, hc]
    rw [hr]
    obtain ⟨hv, hvo, hm10, hea⟩ := canEv_parts ps vs hc
    obtain ⟨hg, h1, h12⟩ := validF_good ps hv
    have hok : (whole ps).ok vs.length := tmAt_ok ps vs.length hg hea ps.length (ps.length - 1) (by omega) (by omega)
    have HWH := Lib.hid (fun (w : World) => impl_wholeOf A n c ps B HN.out hg (by omega) (by have := HN.out; omega) w)
    rw [show tmAt ps n (n - 1) = whole ps by rw [HN.out]; rfl] at HWH
    have HC := Lib.hid hc
    have HVO := Lib.hid hvo
    have HOK := Lib.hid hok
    clear hr hc hv hvo hea hg h1 h12 hok
    generalize whole ps = t at *
    go_enter Try.func64, Try.ntmps64
    go_wp2_with fail
    refine (impl_canEvaluate _ _ _ _ _ _ ps vs _ B (by simp; omega) HN.out HM.out ((H.out.alloc hB _).alloc (by simp; omega) _) ((H'.out.alloc hB _).alloc (by simp; omega) _) (by omega) hs').mono ?_
    rintro e w1 ⟨rfl, hb⟩
    rw [HC.out]
    have hz : w.heap.size + 1 + 1 ≤ w1.heap.size := by have := hb.size; simpa using this
    have hbox : w1.cell? ⟨w.heap.size, 0, none⟩ = some (.slice A n c) := (hb.cell (p := ⟨w.heap.size, 0, none⟩) (by simp; omega)).trans (by go_simp)
    have hbox2 : w1.cell? ⟨w.heap.size + 1, 0, none⟩ = some (.slice A' m c') := (hb.cell (p := ⟨w.heap.size + 1, 0, none⟩) (by simp)).trans (by go_simp)
    have HP1 := Lib.hid (((H.out.alloc hB (.cells #[.slice A n c] 48)).alloc (by simp; omega) (.cells #[.slice A' m c'] 25)).below hb (by simp; omega))
    have HI1 := Lib.hid (((H'.out.alloc hB (.cells #[.slice A n c] 48)).alloc (by simp; omega) (.cells #[.slice A' m c'] 25)).below hb (by simp; omega))
    have hB1 : Below w.heap.size w w1 := (((Below.refl _ _).alloc (Nat.le_refl _) _).alloc (by simp) _).trans (hb.mono (by simp; omega))
    clear hb
    go_wp2_with fail
    refine (HWH.out _ (by omega) HP1.out).mono ?_
    rintro e w2 ⟨T, x, rfl, hT, hb2⟩
    have HT := Lib.hid hT
    clear hT
    have hz2 : w.heap.size + 1 + 1 ≤ w2.heap.size := by have := hb2.size; omega
    have hbox3 : w2.cell? ⟨w.heap.size + 1, 0, none⟩ = some (.slice A' m c') := (hb2.cell (p := ⟨w.heap.size + 1, 0, none⟩) (by show w.heap.size + 1 < w1.heap.size; omega)).trans hbox2
    have HI2 := Lib.hid (HI1.out.below hb2 (by omega))
    have hB2 : Below w.heap.size w w2 := hB1.trans (hb2.mono (by omega))
    have HEV := Lib.hid (impl_evaluate1 82 (.pointer (some ⟨w.heap.size + 1, 0, none⟩)) vs HVO.out (fun _ _ => False) (fun _ w' => Below w2.heap.size w2 w')
      (fun acc w' k h hf => hf.elim) (fun acc wa wb h1 h2 => ⟨h1.trans (h2.mono h1.size), fun k hf => hf⟩) (fun q w => by kernel_rfl)
      (fun q acc wa hq h1 => (look_value A' m c' (w.heap.size + 1) q vs wa B HM.out hs' hq ((h1.cell (p := ⟨w.heap.size + 1, 0, none⟩) (by show w.heap.size + 1 < w2.heap.size; omega)).trans hbox3) (HI2.out.below h1 (by omega))).mono
        fun e wb ⟨he, hw⟩ => ⟨he, by rw [← hw]; exact h1, by rw [← hw]; exact Fr.of_below (Below.refl _ _) fun k hf => hf⟩) t)
    clear hb2
    go_wp2_with fail
    rw [← HT.out]
    refine (HEV.out [] _ HOK.out (Below.refl _ _)).mono ?_
    rintro e w3 ⟨rfl, hb3, _⟩
    go_wp2
    go_ret2
    exact ⟨by simp, hB2.trans (hb3.mono (by omega))⟩
end Go.Proofs.Ytehlamofancdjaa

namespace Go.Proofs.Ytehlamofancdjaa
set_option linter.unusedSimpArgs false
set_option linter.unusedVariables false
open Go.RowKit
/-- What MayRead answers. -/
def mayF (ps : List Pt) : List Int := if validF ps then mayR ps else []
/-- Ten marks: which nodes the first parts have. -/
def Mrk10 (w : World) (g : Nat) (ps : List Pt) : Prop :=
  g < w.heap.size ∧ ∀ t : Nat, t < 10 → w.cell? ⟨g, t, none⟩ = some (.bool (hasNode ps t)) ∧ w.frozen? ⟨g, t, none⟩ = false
theorem Mrk10.below {w w' : World} {g : Nat} {ps : List Pt} (h : Mrk10 w g ps) (hb : Below w.heap.size w w') : Mrk10 w' g ps :=
  ⟨Nat.lt_of_lt_of_le h.1 hb.size, fun t ht => ⟨(hb.cell (p := ⟨g, t, none⟩) h.1).trans (h.2 t ht).1, (hb.frozen (p := ⟨g, t, none⟩) h.1).trans (h.2 t ht).2⟩⟩
theorem hasNode_append (ps : List Pt) (p : Pt) (t : Nat) : hasNode (ps ++ [p]) t = (hasNode ps t || (p.k == 1 && p.n == (t : Int))) := by
  simp [hasNode, List.any_append]
theorem Mrk10.keep {w : World} {g : Nat} {ps : List Pt} {p : Pt} (h : Mrk10 w g ps) (hp : (p.k == 1) = false) : Mrk10 w g (ps ++ [p]) :=
  ⟨h.1, fun t ht => by rw [hasNode_append, hp]; simpa using h.2 t ht⟩
theorem Mrk10.set {w : World} {g : Nat} {ps : List Pt} {p : Pt} (h : Mrk10 w g ps) (q : Nat) (hq : q < 10) (hk : (p.k == 1) = true) (hn : p.n = (q : Int)) : Mrk10 (w.setCell ⟨g, q, none⟩ (.bool true)) g (ps ++ [p]) := by
  refine ⟨by simpa [World.setCell] using h.1, fun j hj => ?_⟩
  obtain ⟨h1, h2⟩ := h.2 j hj
  rw [hasNode_append, hk, hn]
  by_cases e : j = q
  · subst e
    refine ⟨?_, by simpa using h2⟩
    rw [World.cell?_setCell_same _ _ _ h1]; simp
  · refine ⟨?_, by simpa using h2⟩
    rw [World.cell?_setCell_other _ _ _ _ (by intro e'; simp at e'; try omega), h1]
    have : ((q : Int) == (j : Int)) = false := by simp; omega
    simp [this]
set_option maxRecDepth 100000 in
set_option maxHeartbeats 1600000 in
theorem impl_MayRead (A : Option Addr) (n c : Nat) (ps : List Pt) (w : World) (B : Nat) (hB : B ≤ w.heap.size) (hn : n = ps.length) (h : PS w B A ps) (hs : n ≤ 1999999) :
    Calls Try.prog 81 #[.agg #[.slice A n c]] w fun e w' => RetI w (mayF ps) e w' := by
  obtain ⟨i0, hi, hz0, hz1, hz2⟩ := info_parts info_int
  have H := Lib.hid h
  have HN := Lib.hid hn
  clear h hn
  cases hv : validF ps
  · have hd : mayF ps = [] := by simp [mayF, hv]
    rw [hd]
    have HV := Lib.hid hv
    clear hd hv
    go_enter Try.func81, Try.ntmps81
    go_wp2_with fail
    refine (impl_ValidFormula _ _ _ ps _ B (by simp; omega) HN.out (H.out.alloc hB _) (by omega)).mono ?_
    rintro e w1 ⟨rfl, hb⟩
    rw [HV.out]
    go_wp2
    go_ret
    exact ⟨_, rfl, World.ownsRow_nil _ _ _ _, ((Below.refl _ _).alloc (Nat.le_refl _) _).trans (hb.mono (by simp))⟩
  · have hd : mayF ps = mayR ps := by simp [mayF, hv]
    rw [hd]
    obtain ⟨hg, h1, h12⟩ := validF_good ps hv
    have HV := Lib.hid hv
    have HG := Lib.hid hg
    clear hd hv hg h1 h12
    go_enter Try.func81, Try.ntmps81
    go_wp2_with fail
    refine (impl_ValidFormula _ _ _ ps _ B (by simp; omega) HN.out (H.out.alloc hB _) (by omega)).mono ?_
    rintro e w1 ⟨rfl, hb⟩
    rw [HV.out]
    have hbox : w1.cell? ⟨w.heap.size, 0, none⟩ = some (.slice A n c) := (hb.cell (p := ⟨w.heap.size, 0, none⟩) (by simp)).trans (by go_simp)
    have HW := Lib.hid ((H.out.alloc hB _).below hb (by simp; omega))
    have hw1 : w.heap.size + 1 ≤ w1.heap.size := by have := hb.size; simpa using this
    have hB1 : Below w.heap.size w w1 := ((Below.refl _ _).alloc (Nat.le_refl _) _).trans (hb.mono (by simp))
    have hws : w.heap.size < w1.heap.size := by omega
    clear hb H
    go_wp2
    go_loopw [14] (fun i wr => ∃ k : Nat, k ≤ n ∧ i = .int .i64 k ∧ Hid (Mrk10 wr w1.heap.size (ps.take k)) ∧ Hid (Below w1.heap.size w1 wr)) (fun i _ => n - (intOf i).toNat)
    case atStart =>
      refine ⟨0, Nat.zero_le _, rfl, ⟨by simp, fun t ht => ?_⟩, below_new w1 _⟩
      have ht' : t = 0 ∨ t = 1 ∨ t = 2 ∨ t = 3 ∨ t = 4 ∨ t = 5 ∨ t = 6 ∨ t = 7 ∨ t = 8 ∨ t = 9 := by omega
      rcases ht' with rfl | rfl | rfl | rfl | rfl | rfl | rfl | rfl | rfl | rfl <;> exact ⟨by go_simp; rfl, by go_simp⟩
    case round =>
      obtain ⟨k, hk, rfl, HM, HB⟩ := hrel
      have hwr : w1.heap.size < wr.heap.size := HM.out.1
      by_cases hlt : k < n
      · obtain ⟨b, off, rfl, hbB, hc⟩ := HW.out (by have := HN.out; omega)
        obtain ⟨c0, c1, c2, c3, c4⟩ := hc k (by have := HN.out; omega)
        clear hc
        have hbw : b < w1.heap.size := by omega
        have b0 := (HB.out.cell (p := ⟨b, off + k * 5, none⟩) hbw).trans c0
        have b1 := (HB.out.cell (p := ⟨b, off + k * 5 + 1, none⟩) hbw).trans c1
        have b2 := (HB.out.cell (p := ⟨b, off + k * 5 + 2, none⟩) hbw).trans c2
        have b3 := (HB.out.cell (p := ⟨b, off + k * 5 + 3, none⟩) hbw).trans c3
        have b4 := (HB.out.cell (p := ⟨b, off + k * 5 + 4, none⟩) hbw).trans c4
        clear c0 c1 c2 c3 c4
        have hgk := HG.out k (by have := HN.out; omega)
        have HTS := Lib.hid (take_succ_getD ps k (by have := HN.out; omega))
        generalize ps.getD k default = p at *
        cases h1 : (p.k == 1)
        · have H1 := Lib.hid h1
          go_wp2
          go_roundw
          case rel => exact ⟨k + 1, by omega, by go_num, by rw [HTS.out]; exact (HM.out.below (below_new wr _)).keep H1.out, HB.out.alloc (by omega) _⟩
          case measure => simp [intOf]; omega
        · obtain ⟨q, hq⟩ : ∃ q : Nat, p.n = (q : Int) := by
            have := (good_num p k hgk).2 (by simpa using h1)
            exact ⟨p.n.toNat, by omega⟩
          have hq10 : q < 10 := by
            have := (good_num p k hgk).2 (by simpa using h1)
            omega
          have HMa := Lib.hid (HM.out.below (below_new wr (.cells #[.int .i64 p.k, .int .i64 p.a, .int .i64 p.b, .int .i64 p.c, .int .i64 p.n] 103)))
          rw [hq] at b4 HMa
          obtain ⟨hm1, hm2⟩ := HMa.out.2 q hq10
          have H1 := Lib.hid h1
          have HQ := Lib.hid hq
          clear hgk hq
          go_wp2
          go_roundw
          case rel => exact ⟨k + 1, by omega, by go_num, by rw [HTS.out]; exact (HM.out.set q hq10 H1.out HQ.out).below (below_new _ _), (HB.out.setCell (p := ⟨w1.heap.size, q, none⟩) (Nat.le_refl _) _).alloc (by simp [World.setCell]; omega) _⟩
          case measure => simp [intOf]; omega
      · obtain rfl : k = n := by omega
        rw [List.take_of_length_le (by have := HN.out; omega)] at HM
        clear hlt hk
        go_wp2
        go_loopw [6, 25] (fun v i wi => ∃ m : Nat, m ≤ 10 ∧ i = .int .i64 m ∧ Hid (OwnI wi (w1.heap.size + 1) v (((List.range m).filter (hasNode ps)).map fun m : Nat => (m : Int))) ∧ Hid (Below (w1.heap.size + 1) wr wi)) (fun _ i _ => 10 - (intOf i).toNat)
        case atStart => exact ⟨0, by omega, rfl, World.ownsRow_nil _ _ _ _, Below.refl _ _⟩
        case round =>
          obtain ⟨m, hm, rfl, HO, HBi⟩ := hrel
          by_cases hm10 : m < 10
          · have hc := (HBi.out.cell (p := ⟨w1.heap.size, m, none⟩) (by simp)).trans (HM.out.2 m hm10).1
            have HST := Lib.hid (mayR_step ps m)
            have hml := mayR_len ps m
            generalize hF : (((List.range m).filter (hasNode ps)).map fun m : Nat => (m : Int)) = F at *
            clear hF
            cases hh : hasNode ps m
            · rw [hh] at hc
              have HH := Lib.hid hh
              clear hh
              go_wp2
              go_roundw
              case rel => exact ⟨m + 1, by omega, by go_num, by rw [HST.out, HH.out]; simpa [Hid] using HO.out, HBi.out⟩
              case measure => simp [intOf]; omega
            · rw [hh] at hc
              have HH := Lib.hid hh
              clear hh
              obtain ⟨wi, hwi⟩ : ∃ wi : World, wi = wr := ⟨_, rfl⟩
              have hsz : w1.heap.size + 1 ≤ wi.heap.size := by have := HBi.out.size; rw [hwi]; omega
              rw [hwi] at hsz
              clear hwi
              go_wp2_with (at_builtin; refine wpList_append_own _ rfl _ _ 25 rfl (w1.heap.size + 1) 3 i0 (.int .i64 0) 1 8 Try.underlying25 hi hz0 hz1 hz2 rfl (by decide) _ _ _ rfl (HO.out.alloc _) ⟨_, 0, none⟩ 1 1 [.int .i64 m] rfl rfl (cell_one_new _ _ _) ?c2 ?c3 ?c4 ?c5 ?_)
              case c2 => intro u hu; simp at hu; subst hu; rfl
              case c3 => unfold maxLen; omega
              case c4 => omega
              case c5 => simp; omega
              intro v' w3 hown' hgrow _
              have hpos := (HO.out.alloc (.cells #[.int .i64 m] 3)).lt
              have HO' : Hid (OwnI w3 (w1.heap.size + 1) v' (((List.range (m + 1)).filter (hasNode ps)).map fun m : Nat => (m : Int))) := by
                rw [HST.out, HH.out]
                simpa [OwnI, Hid] using hown'
              have HB' := Lib.hid ((HBi.out.alloc hsz (.cells #[.int .i64 m] 3)).grown hgrow (by simp; omega) (fun q hq => (hpos q hq).1))
              clear hown' hgrow hpos
              go_wp2
              go_roundw
              case rel => exact ⟨m + 1, by omega, by go_num, HO'.out, HB'.out⟩
              case measure => simp [intOf]; omega
          · obtain rfl : m = 10 := by omega
            rw [mayR_below] at HO
            go_wp2
            go_ret
            exact ⟨_, rfl, own_mono HO.out (by omega), hB1.trans ((HB.out.trans (HBi.out.mono (by omega))).mono (by omega))⟩
/-- The footprint of the closure of ReadsOf: the variable's block, and the row that it holds. -/
def footR (g : Nat) (w : World) (k : Nat) : Prop := k = g ∨ ∃ v, w.cell? ⟨g, 0, none⟩ = some v ∧ v.ownBlock = some k
/-- What the closure of ReadsOf keeps: the variable holds the first ones of what was read; all below it is as it was. -/
structure IR (g : Nat) (W : World) (acc : List Int) (w : World) : Prop where
  bel : Below g W w
  lt : g < w.heap.size
  free : w.frozen? ⟨g, 0, none⟩ = false
  cell : ∃ v, w.cell? ⟨g, 0, none⟩ = some v ∧ OwnI w (g + 1) v (firsts acc)
theorem IR.step {g : Nat} {W w w' : World} {acc : List Int} (h : IR g W acc w) (hb : Below w.heap.size w w') : IR g W acc w' := by
  obtain ⟨v, hv, ho⟩ := h.cell
  exact ⟨h.bel.trans (hb.mono (Nat.le_of_lt h.lt)), Nat.lt_of_lt_of_le h.lt hb.size, (hb.frozen (p := ⟨g, 0, none⟩) h.lt).trans h.free, v, (hb.cell (p := ⟨g, 0, none⟩) h.lt).trans hv, own_below ho hb⟩
theorem IR.foot_lt {g : Nat} {W w : World} {acc : List Int} (h : IR g W acc w) (k : Nat) (hf : footR g w k) : k < w.heap.size := by
  rcases hf with rfl | ⟨v, hv, hk⟩
  · exact h.lt
  · obtain ⟨v', hv', ho⟩ := h.cell
    rw [hv] at hv'
    cases hv'
    exact (ho.lt k hk).2
theorem IR.foot_step {g : Nat} {W w w' : World} {acc : List Int} (h : IR g W acc w) (hb : Below w.heap.size w w') (k : Nat) (hf : footR g w' k) : footR g w k := by
  rcases hf with rfl | ⟨v, hv, hk⟩
  · exact .inl rfl
  · exact .inr ⟨v, by rw [← hb.cell (p := ⟨g, 0, none⟩) h.lt]; exact hv, hk⟩
theorem firsts_snoc (acc : List Int) (x : Int) : firsts (acc ++ [x]) = if x ∈ firsts acc then firsts acc else firsts acc ++ [x] := by
  unfold firsts
  rw [List.foldl_append]
  rfl
set_option maxRecDepth 100000 in
set_option maxHeartbeats 1600000 in
theorem look_read (A' : Option Addr) (m c' g gv q : Nat) (vs acc : List Int) (W w : World) (B : Nat) (hm : m = vs.length) (hs' : m ≤ 2000000) (hq : q < vs.length) (hgv : gv < g) (hBg : B ≤ g) (hc : W.cell? ⟨gv, 0, none⟩ = some (.slice A' m c')) (h : IS W B A' vs) (hI : IR g W acc w) (hac : (firsts acc).length ≤ 1000000) :
    Calls Try.prog 68 #[.int .i64 q, .pointer (some ⟨g, 0, none⟩), .pointer (some ⟨gv, 0, none⟩)] w fun e w' => e = .returned (.int .i64 (vs.getD q 0)) ∧ IR g W (acc ++ [(q : Int)]) w' ∧ Fr (footR g) w w' := by
  obtain ⟨i0, hi, hz0, hz1, hz2⟩ := info_parts info_int
  obtain ⟨b, off, rfl, hb, hcc⟩ := h (by omega)
  have hx := (hI.bel.cell (p := ⟨b, off + q, none⟩) (by show b < g; omega)).trans (hcc q hq)
  have hcv := (hI.bel.cell (p := ⟨gv, 0, none⟩) hgv).trans hc
  have hqm : q < m := by omega
  generalize vs.getD q 0 = x at *
  obtain ⟨v, hv, ho⟩ := hI.cell
  obtain ⟨A3, c3, rfl, hIS⟩ := ho.form
  have hgw := hI.lt
  have hfz := hI.free
  have HII := Lib.hid hI
  have HO := Lib.hid ho
  have HIS := Lib.hid hIS
  have hFS := firsts_snoc acc q
  clear hcc h hm hq hc hI ho hIS
  generalize hF : firsts acc = F at *
  have HF := Lib.hid hF
  have HFS := Lib.hid hFS
  clear hF hFS
  generalize hl : F.length = l at *
  have HL := Lib.hid hl
  clear hl
  cases hin : decide ((q : Int) ∈ F)
  · have HIN := Lib.hid hin
    clear hin
    go_enter Try.func68, Try.ntmps68
    go_wp2_with fail
    refine (slices_Contains A3 l c3 F q _ _ (Nat.le_refl _) HL.out.symm HIS.out (by omega)).mono ?_
    rintro e w' ⟨rfl, rfl⟩
    rw [HIN.out]
    go_wp2_with (at_builtin; refine wpList_append_own_at _ rfl _ _ 25 rfl (g + 1) 3 i0 (.int .i64 0) 1 8 Try.underlying25 hi hz0 hz1 hz2 rfl (by decide) _ _ _ rfl (by have := HO.out.alloc (.cells #[.int .i64 q] 3); rw [HL.out] at this; exact this) ⟨w.heap.size, 0, none⟩ 1 1 [.int .i64 q] rfl rfl (cell_one_new _ _ _) ?c2 ?c3 ?c4 ?c5 ?_)
    case c2 => intro u hu; simp at hu; subst hu; rfl
    case c3 => unfold maxLen; omega
    case c4 => omega
    case c5 => simp; omega
    intro v' w3 hown' hgrow _ hwhere
    have hol := HO.out.lt
    obtain ⟨A4, c4, rfl⟩ := own_form hown'
    have hng : ∀ j, j ≤ g → some j ≠ (Value.slice A3 l c3).ownBlock := fun j hj e => by have := (hol j e.symm).1; omega
    have hga : ∀ j, j ≤ g → (w.alloc (.cells #[.int .i64 q] 3)).heap[j]? = w.heap[j]? := fun j hj => Below.heap_alloc w _ j (by omega)
    have hw3 : ∀ j, j ≤ g → w3.heap[j]? = w.heap[j]? := fun j hj => (hgrow.block j (by simp; omega) (hng j hj)).trans (hga j hj)
    have hv3 : w3.cell? ⟨g, 0, none⟩ = some (.slice A3 l c3) := (World.cell?_of_block (a := ⟨g, 0, none⟩) (hw3 g (Nat.le_refl _))).trans hv
    have hf3 : w3.frozen? ⟨g, 0, none⟩ = false := (World.frozen?_of_block (a := ⟨g, 0, none⟩) (hw3 g (Nat.le_refl _))).trans hfz
    have hcv3 : w3.cell? ⟨gv, 0, none⟩ = some (.slice (some ⟨b, off, none⟩) m c') := (World.cell?_of_block (a := ⟨gv, 0, none⟩) (hw3 gv (Nat.le_of_lt hgv))).trans hcv
    have hx3 : w3.cell? ⟨b, off + q, none⟩ = some (.int .i64 x) := (World.cell?_of_block (a := ⟨b, off + q, none⟩) (hw3 b (by omega))).trans hx
    have hbg : b ≠ g := by omega
    have hgvg : gv ≠ g := by omega
    have hcv4 := (World.cell?_setCell_other (w := w3) (a := ⟨g, 0, none⟩) (b := ⟨gv, 0, none⟩) (.slice A4 (l + 1) c4) (by intro e; simp at e; try omega)).trans hcv3
    have hx4 := (World.cell?_setCell_other (w := w3) (a := ⟨g, 0, none⟩) (b := ⟨b, off + q, none⟩) (.slice A4 (l + 1) c4) (by intro e; simp at e; try omega)).trans hx3
    have HG := Lib.hid hgrow
    have HOW := Lib.hid hown'
    have HWH := Lib.hid hwhere
    have HW3 := Lib.hid hw3
    have HOL := Lib.hid hol
    have HNG := Lib.hid hng
    clear hgrow hown' hwhere hw3 hol hng hga hcv hx hfz
    go_wp2
    go_ret
    have hnin : ¬ (q : Int) ∈ F := of_decide_eq_false HIN.out
    have hsz : w.heap.size + 1 ≤ w3.heap.size := by have := HG.out.size; simpa using this
    refine ⟨rfl, ⟨?_, by simp [World.setCell]; omega, by simpa using hf3, .slice A4 (l + 1) c4, World.cell?_setCell_same _ _ _ hv3, ?_⟩, ⟨by simp [World.setCell]; omega, ?_, ?_⟩⟩
    · exact ((HII.out.bel.alloc (Nat.le_of_lt hgw) _).grown HG.out (by simp; omega) (fun k hk => by have := (HOL.out k hk).1; omega)).setCell (p := ⟨g, 0, none⟩) (Nat.le_refl _) _
    · rw [HFS.out, if_neg hnin]
      refine ownsRow_setCell_below ?_ (by simp) _
      have h1 := HOW.out
      rw [List.length_append, List.map_append, HL.out]
      exact h1
    · intro k hk hn
      have hkg : k ≠ g := fun e => hn (.inl e)
      have hko : some k ≠ (Value.slice A3 l c3).ownBlock := fun e => hn (.inr ⟨_, ‹w.cell? ⟨g, 0, none⟩ = some (.slice A3 l c3)›, e.symm⟩)
      rw [Below.heap_setCell _ _ _ _ hkg, HG.out.block k (by simp; omega) hko, Below.heap_alloc _ _ _ hk]
    · intro k hk
      rcases hk with rfl | ⟨v2, hv2, hk2⟩
      · exact .inl (.inl rfl)
      · rw [World.cell?_setCell_same _ _ _ hv3] at hv2
        cases hv2
        rcases HWH.out with h1 | h1
        · exact .inl (.inr ⟨_, ‹w.cell? ⟨g, 0, none⟩ = some (.slice A3 l c3)›, h1.symm.trans hk2⟩)
        · rw [h1] at hk2
          simp at hk2
          right; omega
  · have HIN := Lib.hid hin
    clear hin
    go_enter Try.func68, Try.ntmps68
    go_wp2_with fail
    refine (slices_Contains A3 l c3 F q _ _ (Nat.le_refl _) HL.out.symm HIS.out (by omega)).mono ?_
    rintro e w' ⟨rfl, rfl⟩
    rw [HIN.out]
    go_wp2
    go_ret
    refine ⟨rfl, ?_, Fr.of_below (Below.refl _ _) fun k hf => hf⟩
    have hmem : (q : Int) ∈ F := of_decide_eq_true HIN.out
    refine ⟨HII.out.bel, HII.out.lt, HII.out.free, ?_⟩
    rw [HFS.out, if_pos hmem, ← HF.out]
    exact HII.out.cell
end Go.Proofs.Ytehlamofancdjaa

namespace Go.Proofs.Ytehlamofancdjaa
set_option linter.unusedSimpArgs false
set_option linter.unusedVariables false
open Go.RowKit
/-- A node of the list ahead that is no effect. -/
def rdA (gs : List Nd) (x : Int) : Bool := decide (x < (gs.length : Int)) && !((gs.getD x.toNat default).k == 2)
theorem rdA_take (gs : List Nd) (i : Nat) (hi : i ≤ gs.length) (x : Int) (hx : 0 ≤ x) : rdA (gs.take i) x = rdOK gs i x := by
  unfold rdA rdOK
  rw [List.length_take, Nat.min_eq_left hi]
  by_cases h : x < (i : Int)
  · have : (gs.take i).getD x.toNat default = gs.getD x.toNat default := by
      simp only [List.getD, List.getElem?_take, if_pos (show x.toNat < i by omega)]
    rw [this]
  · rw [decide_eq_false h]; rfl
set_option maxRecDepth 100000 in
set_option maxHeartbeats 1600000 in
theorem impl_areReadable (A A' : Option Addr) (n c l c' : Nat) (gs : List Nd) (L : List Int) (w : World) (B : Nat) (hB : B ≤ w.heap.size) (hn : n = gs.length) (hl : l = L.length) (h : GS w B A gs) (h' : IS w B A' L) (hs : n ≤ 2000000) (hs' : l ≤ 2000000) (hbd : ∀ j, j < l → 0 ≤ L.getD j 0) :
    Calls Try.prog 80 #[.slice A n c, .slice A' l c'] w fun e w' => e = .returned (.bool (L.all (rdA gs))) ∧ w = w' := by
  have H := Lib.hid h
  have HI := Lib.hid h'
  have HN := Lib.hid hn
  have HL := Lib.hid hl
  have HBD := Lib.hid hbd
  clear h h' hn hl hbd
  go_enter Try.func80, Try.ntmps80
  go_wp2
  go_loop [9] (fun u => ∃ k : Nat, k ≤ l ∧ u = .int .i64 k ∧ Hid (∀ j, j < k → rdA gs (L.getD j 0) = true)) (fun u => l - (intOf u).toNat)
  case atStart => exact ⟨0, by omega, rfl, by intro j hj; omega⟩
  case round =>
    obtain ⟨k, hk, rfl, HK⟩ := hrel
    by_cases hlt : k < l
    · obtain ⟨b', off', rfl, hb', hc⟩ := HI.out (by have := HL.out; omega)
      have hx := hc k (by have := HL.out; omega)
      have hx0 := HBD.out k hlt
      clear hc
      generalize hxx : L.getD k 0 = x at *
      have HX := Lib.hid hxx
      clear hxx
      obtain ⟨t, rfl⟩ : ∃ t : Nat, x = (t : Int) := ⟨x.toNat, by omega⟩
      by_cases htn : t < n
      · obtain ⟨b, off, rfl, hbB, c3, _⟩ := H.out.at_ t (by have := HN.out; omega)
        have hro : rdA gs (t : Int) = !((gs.getD t default).k == 2) := by unfold rdA; rw [decide_eq_true (by have := HN.out; omega)]; simp
        generalize gs.getD t default = q at *
        cases hq : (q.k == 2)
        all_goals
          have HR := Lib.hid hro
          have HQ := Lib.hid hq
          clear hro
          go_wp2
        · go_round
          case rel => exact ⟨k + 1, by omega, by go_num, fun j hj => by
            rcases Nat.lt_or_ge j k with h1 | h1
            · exact HK.out j h1
            · obtain rfl : j = k := by omega
              rw [HX.out, HR.out, HQ.out]; rfl⟩
          case measure => simp [intOf]; omega
        · go_ret
          refine ⟨ret_b ?_, rfl⟩
          exact (all_bad L (rdA gs) k (by have := HL.out; omega) (by rw [HX.out, HR.out, HQ.out]; rfl)).symm
      · have hro : rdA gs (t : Int) = false := by unfold rdA; rw [decide_eq_false (by have := HN.out; omega)]; rfl
        have HR := Lib.hid hro
        clear hro
        go_wp2
        go_ret
        refine ⟨ret_b ?_, rfl⟩
        exact (all_bad L (rdA gs) k (by have := HL.out; omega) (by rw [HX.out, HR.out])).symm
    · go_wp2
      go_ret
      refine ⟨ret_b ?_, rfl⟩
      exact (all_good L (rdA gs) fun j hj => HK.out j (by have := HL.out; omega)).symm
/-- Whether a node fits behind others. -/
def fitsB (gs : List Nd) (d : Nd) : Bool :=
  if d.k == 0 then decide (d.ps.length = 0)
  else if d.k == 1 then validF d.ps && (mayR d.ps).all (rdA gs)
  else if d.k == 2 then validF d.ps && (mayR d.ps).all (rdA gs)
  else false
theorem fits_node (gs : List Nd) (i : Nat) (hi : i ≤ gs.length) : fitsB (gs.take i) (gs.getD i default) = nodeOK gs i := by
  unfold fitsB nodeOK goodRd
  have e : (mayR (gs.getD i default).ps).all (rdA (gs.take i)) = (mayR (gs.getD i default).ps).all (rdOK gs i) := by
    rw [Bool.eq_iff_iff, List.all_eq_true, List.all_eq_true]
    constructor
    · intro h x hx; rw [← rdA_take gs i hi x (mem_mayR_bd _ _ hx).1]; exact h x hx
    · intro h x hx; rw [rdA_take gs i hi x (mem_mayR_bd _ _ hx).1]; exact h x hx
  rw [e]
set_option maxRecDepth 100000 in
set_option maxHeartbeats 1600000 in
theorem impl_fitsBehind (A A1 : Option Addr) (n c n1 c1 : Nat) (gs : List Nd) (k : Int) (ps : List Pt) (w : World) (B : Nat) (hB : B ≤ w.heap.size) (hn : n = gs.length) (hn1 : n1 = ps.length) (h : GS w B A gs) (h1 : PS w B A1 ps) (hs : n ≤ 2000000) (hs1 : n1 ≤ 1999999) :
    Calls Try.prog 61 #[.slice A n c, .agg #[.int .i64 k, .slice A1 n1 c1]] w fun e w' => e = .returned (.bool (fitsB gs ⟨k, ps⟩)) ∧ Below w.heap.size w w' := by
  have H := Lib.hid h
  have H1 := Lib.hid h1
  have HN := Lib.hid hn
  have HN1 := Lib.hid hn1
  have hfe : fitsB gs ⟨k, ps⟩ = if k == 0 then decide (ps.length = 0) else if k == 1 then validF ps && (mayR ps).all (rdA gs) else if k == 2 then validF ps && (mayR ps).all (rdA gs) else false := rfl
  cases h0 : (k == 0)
  · by_cases h12 : (k == 1) = true ∨ (k == 2) = true
    · have hfe2 : fitsB gs ⟨k, ps⟩ = (validF ps && (mayR ps).all (rdA gs)) := by
        rw [hfe, h0]
        rcases h12 with e | e
        · rw [e]; rfl
        · rw [e]; cases (k == 1) <;> rfl
      rw [hfe2]
      have HVF := Lib.hid fun (w : World) (hB : B ≤ w.heap.size) (h : PS w B A1 ps) => impl_ValidFormula A1 n1 c1 ps w B hB hn1 h (by omega)
      have HMR := Lib.hid fun (w : World) (hB : B ≤ w.heap.size) (h : PS w B A1 ps) => impl_MayRead A1 n1 c1 ps w B hB hn1 h (by omega)
      clear h h1 hn hn1 hfe hfe2
      cases hv : validF ps
      · rw [hv] at HVF
        clear hv HMR
        rw [show (false && (mayR ps).all (rdA gs)) = false from rfl]
        cases ha : (k == 1)
        · have hb : (k == 2) = true := by rcases h12 with e | e; rw [ha] at e; cases e; exact e
          clear h12
          go_enter Try.func61, Try.ntmps61
          go_wp2_with fail
          refine (HVF.out _ (by simp; omega) (H1.out.alloc hB _)).mono ?_
          rintro e w1 ⟨rfl, hb1⟩
          go_wp2
          go_ret
          exact ⟨rfl, ((Below.refl _ _).alloc (Nat.le_refl _) _).trans (hb1.mono (by simp))⟩
        · clear h12
          go_enter Try.func61, Try.ntmps61
          go_wp2_with fail
          refine (HVF.out _ (by simp; omega) (H1.out.alloc hB _)).mono ?_
          rintro e w1 ⟨rfl, hb1⟩
          go_wp2
          go_ret
          exact ⟨rfl, ((Below.refl _ _).alloc (Nat.le_refl _) _).trans (hb1.mono (by simp))⟩
      · have hmf : mayF ps = mayR ps := by simp [mayF, hv]
        rw [hv] at HVF
        rw [hmf] at HMR
        have hlen := mayR_len ps 10
        rw [mayR_below] at hlen
        have hbd := mayR_getD_bd ps
        clear hv hmf
        generalize mayR ps = L at *
        generalize hl : L.length = l at *
        have HL := Lib.hid hl
        have HAR := Lib.hid fun (A' : Option Addr) (c' : Nat) (w : World) (B : Nat) (hB : B ≤ w.heap.size) (h : GS w B A gs) (h' : IS w B A' L) => impl_areReadable A A' n c l c' gs L w B hB HN.out hl.symm h h' hs (by omega) (fun j hj => (hbd j hj).1)
        clear hl hbd
        rw [show (true && L.all (rdA gs)) = L.all (rdA gs) from Bool.true_and _]
        generalize L.all (rdA gs) = r at *
        cases ha : (k == 1)
        · have hb : (k == 2) = true := by rcases h12 with e | e; rw [ha] at e; cases e; exact e
          clear h12
          go_enter Try.func61, Try.ntmps61
          go_wp2_with fail
          refine (HVF.out _ (by simp; omega) (H1.out.alloc hB _)).mono ?_
          rintro e w1 ⟨rfl, hb1⟩
          have hz1 : w.heap.size < w1.heap.size := by have := hb1.size; simp at this; omega
          have hbx : w1.cell? ⟨w.heap.size, 1, none⟩ = some (.slice A1 n1 c1) := (hb1.cell (p := ⟨w.heap.size, 1, none⟩) (by simp)).trans (by go_simp)
          have HP1 := Lib.hid ((H1.out.alloc hB (.cells #[.int .i64 k, .slice A1 n1 c1] 50)).below hb1 (by simp; omega))
          have HG1 := Lib.hid ((H.out.alloc hB (.cells #[.int .i64 k, .slice A1 n1 c1] 50)).below hb1 (by simp; omega))
          have hB1 : Below w.heap.size w w1 := ((Below.refl _ _).alloc (Nat.le_refl _) _).trans (hb1.mono (by simp))
          clear hb1
          go_wp2_with fail
          refine (HMR.out _ (by omega) HP1.out).mono ?_
          rintro e w2 ⟨v2, rfl, hown, hb2⟩
          obtain ⟨A2, c2, rfl, hI⟩ := hown.form
          have HI := Lib.hid hI
          have HG2 := Lib.hid ((HG1.out.below hb2 (by omega)).more (B' := w2.heap.size) (by have := hb2.size; omega))
          rw [HL.out]
          clear hI hown
          go_wp2_with fail
          refine (HAR.out _ _ _ _ (Nat.le_refl _) HG2.out HI.out).mono ?_
          rintro e w3 ⟨rfl, rfl⟩
          go_wp2
          go_ret
          exact ⟨rfl, hB1.trans (hb2.mono (by omega))⟩
        · clear h12
          go_enter Try.func61, Try.ntmps61
          go_wp2_with fail
          refine (HVF.out _ (by simp; omega) (H1.out.alloc hB _)).mono ?_
          rintro e w1 ⟨rfl, hb1⟩
          have hz1 : w.heap.size < w1.heap.size := by have := hb1.size; simp at this; omega
          have hbx : w1.cell? ⟨w.heap.size, 1, none⟩ = some (.slice A1 n1 c1) := (hb1.cell (p := ⟨w.heap.size, 1, none⟩) (by simp)).trans (by go_simp)
          have HP1 := Lib.hid ((H1.out.alloc hB (.cells #[.int .i64 k, .slice A1 n1 c1] 50)).below hb1 (by simp; omega))
          have HG1 := Lib.hid ((H.out.alloc hB (.cells #[.int .i64 k, .slice A1 n1 c1] 50)).below hb1 (by simp; omega))
          have hB1 : Below w.heap.size w w1 := ((Below.refl _ _).alloc (Nat.le_refl _) _).trans (hb1.mono (by simp))
          clear hb1
          go_wp2_with fail
          refine (HMR.out _ (by omega) HP1.out).mono ?_
          rintro e w2 ⟨v2, rfl, hown, hb2⟩
          obtain ⟨A2, c2, rfl, hI⟩ := hown.form
          have HI := Lib.hid hI
          have HG2 := Lib.hid ((HG1.out.below hb2 (by omega)).more (B' := w2.heap.size) (by have := hb2.size; omega))
          rw [HL.out]
          clear hI hown
          go_wp2_with fail
          refine (HAR.out _ _ _ _ (Nat.le_refl _) HG2.out HI.out).mono ?_
          rintro e w3 ⟨rfl, rfl⟩
          go_wp2
          go_ret
          exact ⟨rfl, hB1.trans (hb2.mono (by omega))⟩
    · have ha : (k == 1) = false := by cases e : (k == 1); rfl; exact absurd (.inl e) h12
      have hb : (k == 2) = false := by cases e : (k == 2); rfl; exact absurd (.inr e) h12
      rw [hfe, h0, ha, hb]
      clear h h1 hn hn1 hfe h12
      go_enter Try.func61, Try.ntmps61
      go_wp2
      go_ret
      exact ⟨rfl, (Below.refl _ _).alloc (Nat.le_refl _) _⟩
  · rw [hfe, h0]
    clear h h1 hn hn1 hfe
    go_enter Try.func61, Try.ntmps61
    go_wp2
    go_ret
    refine ⟨ret_b ?_, (Below.refl _ _).alloc (Nat.le_refl _) _⟩
    rw [HN1.out]
    cases ps <;> simp
    omega
set_option maxRecDepth 100000 in
set_option maxHeartbeats 1600000 in
theorem impl_ValidGraph (A : Option Addr) (n c : Nat) (gs : List Nd) (w : World) (B : Nat) (hB : B ≤ w.heap.size) (hn : n = gs.length) (h : GS w B A gs) (hs : GB gs) (hnc : n ≤ c) :
    Calls Try.prog 43 #[.agg #[.slice A n c]] w fun e w' => e = .returned (.bool (validG gs)) ∧ Below w.heap.size w w' := by
  have hn1 : n ≤ 1048576 := by rw [hn]; exact hs.1
  by_cases h10 : 10 < n
  · rw [validG_long gs (by omega)]
    clear h hn hs
    go_enter Try.func43, Try.ntmps43
    go_wp2
    go_ret
    exact ⟨rfl, (Below.refl _ _).alloc (Nat.le_refl _) _⟩
  have H := Lib.hid h
  have HN := Lib.hid hn
  have HS := Lib.hid hs
  clear h hn hs
  go_enter Try.func43, Try.ntmps43
  go_wp2
  go_loopw [12] (fun u wr => ∃ k : Nat, k ≤ n ∧ u = .int .i64 k ∧ Hid (∀ j, j < k → nodeOK gs j = true) ∧ Below (w.heap.size + 1) (w.alloc (.cells #[.slice A n c] 30)) wr) (fun u _ => n - (intOf u).toNat)
  case atStart => exact ⟨0, by omega, rfl, by intro j hj; omega, Below.refl _ _⟩
  case round =>
    obtain ⟨k, hk, rfl, HK, hbr⟩ := hrel
    have hbox : wr.cell? ⟨w.heap.size, 0, none⟩ = some (.slice A n c) := (hbr.cell (p := ⟨w.heap.size, 0, none⟩) (by simp)).trans (by go_simp)
    have hwr : w.heap.size + 1 ≤ wr.heap.size := by have := hbr.size; simpa using this
    have hws : w.heap.size < wr.heap.size := by omega
    by_cases hlt : k < n
    · obtain ⟨b, off, rfl, hbB, c0, A1, n1, c1, c2, hn1', hps⟩ := H.out.at_ k (by have := HN.out; omega)
      have hx := HS.out.2 k
      have b0 : wr.cell? ⟨b, off + k * 2, none⟩ = _ := ((hbr.cell (p := ⟨b, off + k * 2, none⟩) (by simp; omega)).trans (World.cell?_alloc_lt _ _ _ (by simp; omega))).trans c0
      have b1 : wr.cell? ⟨b, off + k * 2 + 1, none⟩ = _ := ((hbr.cell (p := ⟨b, off + k * 2 + 1, none⟩) (by simp; omega)).trans (World.cell?_alloc_lt _ _ _ (by simp; omega))).trans c2
      have HPS := Lib.hid ((hps.alloc hB (.cells #[.slice (some ⟨b, off, none⟩) n c] 30)).below hbr (by omega))
      have HGS := Lib.hid (((H.out.take k (by have := HN.out; omega)).alloc hB (.cells #[.slice (some ⟨b, off, none⟩) n c] 30)).below hbr (by omega))
      have hfn := fits_node gs k (by have := HN.out; omega)
      have hlen : k = (gs.take k).length := by rw [List.length_take]; have := HN.out; omega
      clear c0 c2 hps
      generalize gs.getD k default = d at *
      have hy1 : n1 ≤ 1999999 := by omega
      have HFB := Lib.hid fun (w : World) (hB : B ≤ w.heap.size) (h : GS w B (some ⟨b, off, none⟩) (gs.take k)) (h1 : PS w B A1 d.ps) => impl_fitsBehind (some ⟨b, off, none⟩) A1 k c n1 c1 (gs.take k) d.k d.ps w B hB hlen hn1' h h1 (by omega) hy1
      rw [show fitsB (gs.take k) ⟨d.k, d.ps⟩ = nodeOK gs k from hfn] at HFB
      have HNK := Lib.hid fun (h : nodeOK gs k = false) => validG_bad gs k (by have := HN.out; omega) h
      have HNT : Hid (nodeOK gs k = true → ∀ j, j < k + 1 → nodeOK gs j = true) := fun h j hj => by
        rcases Nat.lt_or_ge j k with h1 | h1
        · exact HK.out j h1
        · obtain rfl : j = k := by omega
          exact h
      clear hfn hlen hn1' hx
      generalize nodeOK gs k = r at *
      cases r
      all_goals
        go_wp2
        obtain ⟨W2, hW2⟩ : ∃ W2, W2 = wr.alloc (.cells #[.int .i64 d.k, .slice A1 n1 c1] 50) := ⟨_, rfl⟩
        have q0 : W2.cell? ⟨w.heap.size, 0, none⟩ = some (.slice (some ⟨b, off, none⟩) n c) := by rw [hW2]; exact (World.cell?_alloc_lt _ _ _ hws).trans hbox
        have q1 : W2.cell? ⟨wr.heap.size, 0, none⟩ = some (.int .i64 d.k) := by rw [hW2]; go_simp
        have q2 : W2.cell? ⟨wr.heap.size, 1, none⟩ = some (.slice A1 n1 c1) := by rw [hW2]; go_simp
        have HP2 : Hid (PS W2 B A1 d.ps) := by rw [hW2]; exact HPS.out.alloc (by omega) _
        have HG2 : Hid (GS W2 B (some ⟨b, off, none⟩) (gs.take k)) := by rw [hW2]; exact HGS.out.alloc (by omega) _
        have hb2 : Below (w.heap.size + 1) (w.alloc (.cells #[.slice (some ⟨b, off, none⟩) n c] 30)) W2 := by rw [hW2]; exact hbr.alloc (by omega) _
        have hz2 : w.heap.size + 1 < W2.heap.size := by rw [hW2]; simp; omega
        have hkc : k ≤ c := by omega
        rw [← hW2]
        clear hW2 HPS HGS b0 b1
        go_still_tail 5, (by kernel_rfl)
        go_wp2_with fail
        refine (HFB.out W2.drew (show B ≤ W2.heap.size by omega) HG2.out HP2.out).mono ?_
        rintro e w3 ⟨rfl, hb3⟩
        have hB3 := hb2.drew.trans (hb3.mono (show w.heap.size + 1 ≤ W2.heap.size by omega))
        go_wp2
      · go_ret
        exact ⟨ret_b (HNK.out trivial).symm, ((Below.refl _ _).alloc (Nat.le_refl _) _).trans (hB3.mono (by omega))⟩
      · go_roundw
        case rel => exact ⟨k + 1, by omega, by go_num, HNT.out trivial, hB3⟩
        case measure => simp [intOf]; omega
    · go_wp2
      go_ret
      refine ⟨ret_b ?_, ((Below.refl _ _).alloc (Nat.le_refl _) _).trans (hbr.mono (by omega))⟩
      rw [validG_fin gs fun j hj => HK.out j (by have := HN.out; omega)]
      have := HN.out
      simp
      omega
end Go.Proofs.Ytehlamofancdjaa

namespace Go.Proofs.Ytehlamofancdjaa
set_option linter.unusedSimpArgs false
set_option linter.unusedVariables false
open Go.RowKit
set_option maxRecDepth 100000 in
set_option maxHeartbeats 1600000 in
theorem impl_ValidCells (A A' : Option Addr) (n c m c' : Nat) (gs : List Nd) (xs : List Int) (w : World) (B : Nat) (hB : B ≤ w.heap.size) (hn : n = gs.length) (hnc : n ≤ c) (hm : m = xs.length) (h : GS w B A gs) (h' : IS w B A' xs) (hs : GB gs) (hs' : m ≤ 2000000) :
    Calls Try.prog 17 #[.agg #[.slice A n c], .slice A' m c'] w fun e w' => e = .returned (.bool (okC gs xs)) ∧ Below w.heap.size w w' := by
  have hn1 : n ≤ 1048576 := by rw [hn]; exact hs.1
  have HVG := Lib.hid fun (w' : World) (hB : B ≤ w'.heap.size) (h : GS w' B A gs) => impl_ValidGraph A n c gs w' B hB hn h hs hnc
  have hok : okC gs xs = (validG gs && validC gs xs) := rfl
  cases hv : validG gs
  · have : okC gs xs = false := by rw [hok, hv]; rfl
    rw [this]
    rw [hv] at HVG
    have H := Lib.hid h
    clear this h h' hn hm hok hv
    go_enter Try.func17, Try.ntmps17
    go_wp2_with fail
    refine (HVG.out _ (by simp; omega) (H.out.alloc hB _)).mono ?_
    rintro e w1 ⟨rfl, hb⟩
    go_wp2
    go_ret
    exact ⟨rfl, ((Below.refl _ _).alloc (Nat.le_refl _) _).trans (hb.mono (by simp))⟩
  have : okC gs xs = validC gs xs := by rw [hok, hv]; rfl
  rw [this]
  rw [hv] at HVG
  have h10 := (validG_parts gs hv).1
  have hn10 : n ≤ 10 := by omega
  clear this hok hv h10
  by_cases hl : m = n
  · have hne : ((m : Int) != (n : Int)) = false := by simp [hl]
    have hlx : xs.length ≤ 10 := by omega
    have hdx : decide (xs.length ≤ 10) = true := by simpa using hlx
    have HAR := Lib.hid fun (w' : World) (hB : B ≤ w'.heap.size) (h : IS w' B A' xs) => impl_allInRange A' m c' xs 999 w' B hB hm h hs'
    rw [hdx] at HAR
    have H := Lib.hid h
    have HI := Lib.hid h'
    have HN := Lib.hid hn
    have HM := Lib.hid hm
    have HE := Lib.hid hl
    clear h h' hn hm hl hlx hdx
    cases ha : allR xs 0 999
    · rw [validC_range gs xs ha]
      rw [ha] at HAR
      clear ha
      go_enter Try.func17, Try.ntmps17
      go_wp2_with fail
      refine (HVG.out _ (by simp; omega) (H.out.alloc hB _)).mono ?_
      rintro e w1 ⟨rfl, hb⟩
      have q : w1.cell? ⟨w.heap.size, 0, none⟩ = some (.slice A n c) := (hb.cell (p := ⟨w.heap.size, 0, none⟩) (by simp)).trans (by go_simp)
      have HI1 := Lib.hid ((HI.out.alloc hB (.cells #[.slice A n c] 30)).below hb (by simp; omega))
      have hz : B ≤ w1.heap.size := by have := hb.size; simp at this; omega
      go_wp2_with fail
      refine (HAR.out _ hz HI1.out).mono ?_
      rintro e w2 ⟨rfl, rfl⟩
      go_wp2
      go_ret
      exact ⟨rfl, ((Below.refl _ _).alloc (Nat.le_refl _) _).trans (hb.mono (by simp))⟩
    · have HALL := Lib.hid ha
      rw [ha] at HAR
      clear ha
      go_enter Try.func17, Try.ntmps17
      go_wp2_with fail
      refine (HVG.out _ (by simp; omega) (H.out.alloc hB _)).mono ?_
      rintro e w1 ⟨rfl, hb⟩
      have q : w1.cell? ⟨w.heap.size, 0, none⟩ = some (.slice A n c) := (hb.cell (p := ⟨w.heap.size, 0, none⟩) (by simp)).trans (by go_simp)
      have HI1 := Lib.hid ((HI.out.alloc hB (.cells #[.slice A n c] 30)).below hb (by simp; omega))
      have HG1 := Lib.hid ((H.out.alloc hB (.cells #[.slice A n c] 30)).below hb (by simp; omega))
      have hz : B ≤ w1.heap.size := by have := hb.size; simp at this; omega
      have hB1 : Below w.heap.size w w1 := ((Below.refl _ _).alloc (Nat.le_refl _) _).trans (hb.mono (by simp))
      clear hb H HI
      go_wp2_with fail
      refine (HAR.out _ hz HI1.out).mono ?_
      rintro e w2 ⟨rfl, rfl⟩
      go_wp2
      go_loopw [26] (fun u wr => ∃ k : Nat, k ≤ n ∧ u = .int .i64 k ∧ Hid (∀ j, j < k → cellOK gs xs j = true) ∧ Below w1.heap.size w1 wr) (fun u _ => n - (intOf u).toNat)
      case atStart => exact ⟨0, by omega, rfl, by intro j hj; omega, Below.refl _ _⟩
      case round =>
        obtain ⟨k, hk, rfl, HK, hbr⟩ := hrel
        by_cases hlt : k < n
        · have hkm : k < m := by have := HE.out; omega
          obtain ⟨b, off, rfl, hbB, c0, A1, n1, c1, c2, _⟩ := HG1.out.at_ k (by have := HN.out; omega)
          obtain ⟨b', off', rfl, hb', hc⟩ := HI1.out (by have := HM.out; omega)
          have hx := hc k (by have := HM.out; omega)
          clear hc
          have e0 := (hbr.cell (p := ⟨b, off + k * 2, none⟩) (by simp; omega)).trans c0
          have e1 := (hbr.cell (p := ⟨b, off + k * 2 + 1, none⟩) (by simp; omega)).trans c2
          have e2 := (hbr.cell (p := ⟨b', off' + k, none⟩) (by simp; omega)).trans hx
          have hbw : b < wr.heap.size := by have := hbr.size; omega
          have hbw' : b' < wr.heap.size := by have := hbr.size; omega
          have hco : cellOK gs xs k = (rng (xs.getD k 0) 0 999 && ((gs.getD k default).k == 0 || xs.getD k 0 == 0)) := rfl
          have hrg : rng (xs.getD k 0) 0 999 = true := by
            have := HALL.out
            unfold allR at this
            rw [List.all_eq_true] at this
            exact this _ (by have := HM.out; have h2 : k < xs.length := by omega
                             simp [List.getD, h2])
          have HNK := Lib.hid fun (h : cellOK gs xs k = false) => validC_bad gs xs k (by have := HN.out; omega) h
          have HNT : Hid (cellOK gs xs k = true → ∀ j, j < k + 1 → cellOK gs xs j = true) := fun h j hj => by
            rcases Nat.lt_or_ge j k with h1 | h1
            · exact HK.out j h1
            · obtain rfl : j = k := by omega
              exact h
          generalize cellOK gs xs k = r at *
          generalize gs.getD k default = d at *
          generalize xs.getD k 0 = x at *
          subst hco
          have HR := Lib.hid hrg
          clear c0 c2 hx hrg
          cases hd : (d.k == 0)
          · have hd' : (d.k != 0) = true := by simp [bne, hd]
            have HD := Lib.hid hd
            cases hz' : (x == 0)
            · have hz2 : (x != 0) = true := by simp [bne, hz']
              have HZ := Lib.hid hz'
              go_wp2
              go_ret
              exact ⟨ret_b (HNK.out (by rw [HR.out, HD.out, HZ.out]; rfl)).symm, hB1.trans ((hbr.alloc (by have := hbr.size; omega) _).mono hB1.size)⟩
            · have hz2 : (x != 0) = false := by simp [bne, hz']
              have HZ := Lib.hid hz'
              go_wp2
              go_roundw
              case rel => exact ⟨k + 1, by omega, by go_num, HNT.out (by rw [HR.out, HD.out, HZ.out]; rfl), hbr.alloc (by have := hbr.size; omega) _⟩
              case measure => simp [intOf]; omega
          · have hd' : (d.k != 0) = false := by simp [bne, hd]
            have HD := Lib.hid hd
            go_wp2
            go_roundw
            case rel => exact ⟨k + 1, by omega, by go_num, HNT.out (by rw [HR.out, HD.out]; rfl), hbr.alloc (by have := hbr.size; omega) _⟩
            case measure => simp [intOf]; omega
        · go_wp2
          go_ret
          refine ⟨ret_b ?_, hB1.trans (hbr.mono hB1.size)⟩
          exact (validC_fin gs xs (by have := HN.out; have := HM.out; have := HE.out; omega) fun j hj => HK.out j (by have := HN.out; omega)).symm
  · have hne : ((m : Int) != (n : Int)) = true := by simp; omega
    rw [validC_len gs xs (by omega)]
    have H := Lib.hid h
    clear hl hn hm h h'
    go_enter Try.func17, Try.ntmps17
    go_wp2_with fail
    refine (HVG.out _ (by simp; omega) (H.out.alloc hB _)).mono ?_
    rintro e w1 ⟨rfl, hb⟩
    have q : w1.cell? ⟨w.heap.size, 0, none⟩ = some (.slice A n c) := (hb.cell (p := ⟨w.heap.size, 0, none⟩) (by simp)).trans (by go_simp)
    go_wp2
    go_ret
    exact ⟨rfl, ((Below.refl _ _).alloc (Nat.le_refl _) _).trans (hb.mono (by simp))⟩
end Go.Proofs.Ytehlamofancdjaa

namespace Go.Proofs.Ytehlamofancdjaa
set_option linter.unusedSimpArgs false
set_option linter.unusedVariables false
open Go.RowKit
theorem own_heap {w : World} {base e n cap g : Nat} {xs : List Value} (h : w.ownsRow base e 1 (.slice (some ⟨g, 0, none⟩) n cap) n xs) : ∃ cur : List Value, w.heap[g]? = some (.cells cur.toArray e (0, 0)) ∧ cur.length = cap ∧ base ≤ g := by
  rcases h.2 with ⟨hv, _⟩ | ⟨g', cap', cur, hv, hb, hh, h1, h2, h3, h4⟩
  · simp at hv
  · simp only [Value.slice.injEq, Option.some.injEq, Addr.mk.injEq, and_true, true_and] at hv
    obtain ⟨rfl, rfl⟩ := hv
    exact ⟨cur.toList, by simpa using hh, by simpa using h3, hb⟩
set_option maxRecDepth 100000 in
set_option maxHeartbeats 1600000 in
theorem impl_copyOf (A : Option Addr) (n c : Nat) (xs : List Int) (w : World) (B : Nat) (hB : B ≤ w.heap.size) (hn : n = xs.length) (h : IS w B A xs) (hs : n ≤ 2000000) :
    Calls Try.prog 63 #[.slice A n c] w fun e w' => e = .returned (.slice (some ⟨w.heap.size, 0, none⟩) n n) ∧ w'.ownsRow w.heap.size 3 1 (.slice (some ⟨w.heap.size, 0, none⟩) n n) n (xs.map (Value.int .i64)) ∧ Below w.heap.size w w' := by
  obtain ⟨i0, hi, hz0, hz1, hz2⟩ := info_parts info_int
  obtain ⟨w0, hmk, hown0, hgr0⟩ := run_make_full (P := Try.prog) w w.heap.size 25 3 i0 _ 1 Try.underlying25 hi hz0 hz1 .i64 .i64 n (by rw [hz2]; omega) (by unfold maxLen; omega) (Nat.le_refl _)
  obtain ⟨cur, hcur, hcl, _⟩ := own_heap hown0
  have hb0 : Below w.heap.size w w0 := ⟨hgr0.os, hgr0.tape, hgr0.output, hgr0.size, fun k hk => hgr0.block k hk (by simp)⟩
  obtain ⟨cs, hcs⟩ : ∃ cs : List Value, cs = xs.map (Value.int .i64) := ⟨_, rfl⟩
  have hsz : (Try.prog.info? 3).map (·.size) = some 1 := by kernel_rfl
  have hcl2 : cs.length = n := by rw [hcs, List.length_map]; exact hn.symm
  have hsrc : 0 < cs.length → some (⟨w.heap.size, 0, none⟩ : Addr) = some ⟨w.heap.size, 0, none⟩ ∧ ∃ ad, A = some ad ∧ ∀ j v, cs[j]? = some v → w0.cell? (ad.add j) = some v := by
    intro hp
    obtain ⟨b, off, e, hb, hc⟩ := h (by omega)
    refine ⟨rfl, _, e, fun j v hv => ?_⟩
    have hj : j < xs.length := by
      rcases Nat.lt_or_ge j cs.length with h1 | h1
      · omega
      · rw [List.getElem?_eq_none h1] at hv; cases hv
    have hadd : (⟨b, off, none⟩ : Addr).add j = ⟨b, off + j, none⟩ := by unfold Addr.add; split <;> simp_all
    rw [hadd, hb0.cell (p := ⟨b, off + j, none⟩) (by simp; omega), hc j hj, ← hv, hcs]
    simp [List.getD, hj]
  have h1 : ∀ v ∈ cs, v.oneCell' = true := by
    intro v hv
    rw [hcs] at hv
    obtain ⟨x, _, rfl⟩ := List.mem_map.1 hv
    rfl
  have HCUR := Lib.hid hcur
  have HCL := Lib.hid hcl
  have HCL2 := Lib.hid hcl2
  have HCS := Lib.hid hcs
  have HSRC := Lib.hid hsrc
  have HONE := Lib.hid h1
  have HB0 := Lib.hid hb0
  have HSZ := Lib.hid hsz
  clear hcur hcl hcl2 hcs hsrc h1 hb0 hsz hown0 hgr0 h hn
  go_enter Try.func63, Try.ntmps63
  go_wp2_with (with_reducible refine wpList_copy_splice rfl (.tmp 7) (.tmp 8) 25 25 rfl 3 Try.underlying25 HSZ.out _ _ _ _ _ _ rfl rfl w.heap.size 0 cur 3 HCUR.out cs ?c1 HSRC.out ?c2 HONE.out w.heap.size w HB0.out (Nat.le_refl _) ?_)
  case c1 => have := HCL2.out; omega
  case c2 => have := HCL2.out; have := HCL.out; omega
  intro w2 HG2 hB2
  go_wp2
  go_ret
  have hsp : splice cur 0 cs = cs := by
    unfold splice
    rw [List.take_zero, List.nil_append, List.drop_of_length_le (by have := HCL2.out; have := HCL.out; omega), List.append_nil]
  have hg2 := HG2.out
  rw [hsp] at hg2
  refine ⟨by simp, ⟨by rw [← HCS.out, HCL2.out]; simp, .inr ⟨w.heap.size, n, cs.toArray, rfl, Nat.le_refl _, hg2, Nat.le_refl _, by unfold maxLen; omega, by simpa using HCL2.out, ?_⟩⟩, hB2⟩
  rw [← HCS.out]
  exact List.take_of_length_le (by have := HCL2.out; simp; omega)
end Go.Proofs.Ytehlamofancdjaa

namespace Go.Proofs.Ytehlamofancdjaa
set_option linter.unusedSimpArgs false
set_option linter.unusedVariables false
open Go.RowKit
/-- The values of the first nodes, and the cells of the others. -/
def mixTo (gs : List Nd) (xs : List Int) (k : Nat) : List Int := meanTo gs xs k ++ xs.drop k
theorem mixTo_zero (gs : List Nd) (xs : List Int) : mixTo gs xs 0 = xs := by simp [mixTo, meanTo]
theorem mixTo_len (gs : List Nd) (xs : List Int) (k : Nat) (h : k ≤ xs.length) : (mixTo gs xs k).length = xs.length := by
  unfold mixTo; rw [List.length_append, meanTo_len, List.length_drop]; omega
theorem mixTo_all (gs : List Nd) (xs : List Int) (k : Nat) (h : k = xs.length) : mixTo gs xs k = meanTo gs xs k := by
  unfold mixTo; rw [h, List.drop_length]; simp
theorem mixTo_take (gs : List Nd) (xs : List Int) (k : Nat) : (mixTo gs xs k).take k = meanTo gs xs k := by
  unfold mixTo
  have := meanTo_len gs xs k
  rw [List.take_append_of_le_length (by omega), List.take_of_length_le (by omega)]
theorem mixTo_step (gs : List Nd) (xs : List Int) (k : Nat) (h : k < xs.length) : mixTo gs xs (k + 1) = if (gs.getD k default).k == 0 then mixTo gs xs k else (mixTo gs xs k).set k ((whole (gs.getD k default).ps).ev (meanTo gs xs k)) := by
  have hl := meanTo_len gs xs k
  have hd : xs.drop k = xs.getD k 0 :: xs.drop (k + 1) := by rw [List.drop_eq_getElem_cons h]; simp [List.getD, h]
  unfold mixTo
  rw [mean_step, hd]
  cases hk : ((gs.getD k default).k == 0)
  · simp only [Bool.false_eq_true, if_false]
    rw [List.set_append_right _ _ (by omega), hl, Nat.sub_self, List.set_cons_zero, List.append_assoc]
    rfl
  · simp only [if_true]
    rw [List.append_assoc]; rfl
set_option maxRecDepth 100000 in
set_option maxHeartbeats 3200000 in
theorem impl_MeaningOf (A A' : Option Addr) (n c m c' : Nat) (gs : List Nd) (xs : List Int) (w : World) (B : Nat) (hB : B ≤ w.heap.size) (hn : n = gs.length) (hnc : n ≤ c) (hm : m = xs.length) (h : GS w B A gs) (h' : IS w B A' xs) (hs : GB gs) (hs' : m ≤ 2000000) :
    Calls Try.prog 45 #[.agg #[.slice A n c], .slice A' m c'] w fun e w' => RetI w (meanF gs xs) e w' := by
  have HVC := Lib.hid fun (w' : World) (hB : B ≤ w'.heap.size) (h : GS w' B A gs) (h' : IS w' B A' xs) => impl_ValidCells A A' n c m c' gs xs w' B hB hn hnc hm h h' hs hs'
  have H := Lib.hid h
  have HI := Lib.hid h'
  have HN := Lib.hid hn
  have HM := Lib.hid hm
  clear h h' hn hm
  cases hok : okC gs xs
  · have hf : meanF gs xs = [] := by unfold meanF; rw [hok]; rfl
    rw [hf]
    rw [hok] at HVC
    clear hf hok hs
    go_enter Try.func45, Try.ntmps45
    go_wp2_with fail
    refine (HVC.out _ (by simp; omega) (H.out.alloc hB _) (HI.out.alloc hB _)).mono ?_
    rintro e w1 ⟨rfl, hb⟩
    go_wp2
    go_ret
    exact ⟨_, rfl, World.ownsRow_nil _ _ _ _, ((Below.refl _ _).alloc (Nat.le_refl _) _).trans (hb.mono (by simp))⟩
  have hf : meanF gs xs = mean gs xs := by unfold meanF; rw [hok]; rfl
  rw [hf]
  rw [hok] at HVC
  obtain ⟨hvg, hvc⟩ := okC_parts gs xs hok
  have hmn : m = n := by have := (validC_parts gs xs hvc).1; have := HN.out; have := HM.out; omega
  have hn10 : n ≤ 10 := by have := (validG_parts gs hvg).1; have := HN.out; omega
  have HOK := Lib.hid hok
  have HMN := Lib.hid hmn
  have hm10 : m ≤ 10 := by omega
  clear hf hok hvg hvc hmn hs
  go_enter Try.func45, Try.ntmps45
  go_wp2_with fail
  refine (HVC.out _ (by simp; omega) (H.out.alloc hB _) (HI.out.alloc hB _)).mono ?_
  rintro e w1 ⟨rfl, hb⟩
  have q : w1.cell? ⟨w.heap.size, 0, none⟩ = some (.slice A n c) := (hb.cell (p := ⟨w.heap.size, 0, none⟩) (by simp)).trans (by go_simp)
  have HI1 := Lib.hid ((HI.out.alloc hB (.cells #[.slice A n c] 30)).below hb (by simp; omega))
  have HG1 := Lib.hid ((H.out.alloc hB (.cells #[.slice A n c] 30)).below hb (by simp; omega))
  have hz : w.heap.size < w1.heap.size := by have := hb.size; simp at this; omega
  have hB1 : Below w.heap.size w w1 := ((Below.refl _ _).alloc (Nat.le_refl _) _).trans (hb.mono (by simp))
  clear hb H HI
  go_wp2_with fail
  refine (impl_copyOf A' m c' xs w1 B (by omega) HM.out HI1.out (by omega)).mono ?_
  rintro e w2 ⟨rfl, hown2, hb2⟩
  have q2 := (hb2.cell (p := ⟨w.heap.size, 0, none⟩) hz).trans q
  have HG2 := Lib.hid (HG1.out.below hb2 (by omega))
  have HO2 := Lib.hid hown2
  have hgl := (hown2.lt _ rfl).2
  have hB2 := hB1.trans (hb2.mono (by omega))
  clear hown2 hb2 q HG1 HI1 hB1
  go_wp2
  go_loopw [17] (fun u wr => ∃ k : Nat, k ≤ n ∧ u = .int .i64 k ∧ Hid (wr.ownsRow w1.heap.size 3 1 (.slice (some ⟨w1.heap.size, 0, none⟩) m m) m ((mixTo gs xs k).map (Value.int .i64))) ∧ Hid (Below w1.heap.size w2 wr) ∧ w2.heap.size ≤ wr.heap.size) (fun u _ => n - (intOf u).toNat)
  case atStart => exact ⟨0, Nat.zero_le _, rfl, by rw [mixTo_zero]; exact HO2.out, Below.refl _ _, Nat.le_refl _⟩
  case round =>
    obtain ⟨k, hk, rfl, HO, HBR, hwr⟩ := hrel
    by_cases hlt : k < n
    · have hkm : k < m := by have := HMN.out; omega
      have hkg : k < gs.length := by have := HN.out; omega
      have hkx : k < xs.length := by have := HM.out; omega
      obtain ⟨b, off, rfl, hbB, c0, A1, n1, c1, c2, hn1', hps⟩ := HG2.out.at_ k hkg
      have e0 := (HBR.out.cell (p := ⟨b, off + k * 2, none⟩) (by simp; omega)).trans c0
      have e1 := (HBR.out.cell (p := ⟨b, off + k * 2 + 1, none⟩) (by simp; omega)).trans c2
      have HPS := Lib.hid (hps.below HBR.out (by omega))
      have HST := Lib.hid (mixTo_step gs xs k hkx)
      have HIR := Lib.hid ((IS.of_own HO.out).take k)
      rw [mixTo_take] at HIR
      have hml := meanTo_len gs xs k
      have hcE : ((gs.getD k default).k == 0) = false → canEv (gs.getD k default).ps (meanTo gs xs k) = true := mean_canEv gs xs HOK.out k hkg
      clear c0 c2 hps
      generalize gs.getD k default = d at *
      generalize meanTo gs xs k = M at *
      cases hd : (d.k == 0)
      · have hd' : (d.k != 0) = true := by simp [bne, hd]
        have hce := hcE hd
        obtain ⟨hv1, hvo, hl10, hea⟩ := canEv_parts d.ps M hce
        obtain ⟨hg, h1, h12⟩ := validF_good d.ps hv1
        have hvf : valF d.ps M = (whole d.ps).ev M := by unfold valF; rw [hce]; rfl
        have HVAL := Lib.hid fun (w' : World) (B : Nat) (hB : B ≤ w'.heap.size) (h : PS w' B A1 d.ps) (h' : IS w' B (some ⟨w1.heap.size, 0, none⟩) M) => impl_ValueOf A1 (some ⟨w1.heap.size, 0, none⟩) n1 c1 k m d.ps M B hn1' hml.symm (by omega) (by omega) w' hB h h'
        rw [hvf, hce] at HVAL
        rw [hd] at HST
        generalize (whole d.ps).ev M = E at *
        have HD := Lib.hid hd
        clear hcE hce hv1 hvo hl10 hea hg h1 h12 hvf hd hn1' hml
        go_wp2
        obtain ⟨W2, hW2⟩ : ∃ W2, W2 = wr.alloc (.cells #[.int .i64 d.k, .slice A1 n1 c1] 50) := ⟨_, rfl⟩
        have q1 : W2.cell? ⟨wr.heap.size, 0, none⟩ = some (.int .i64 d.k) := by rw [hW2]; go_simp
        have q3 : W2.cell? ⟨wr.heap.size, 1, none⟩ = some (.slice A1 n1 c1) := by rw [hW2]; go_simp
        have HP2 : Hid (PS W2 W2.heap.size A1 d.ps) := by rw [hW2]; exact (HPS.out.alloc (by omega) _).more (by simp; omega)
        have HIR2 : Hid (IS W2 W2.heap.size (some ⟨w1.heap.size, 0, none⟩) M) := by rw [hW2]; exact (HIR.out.alloc (Nat.le_refl _) _).more (by simp)
        have HB2' : Hid (Below w1.heap.size w2 W2) := by rw [hW2]; exact HBR.out.alloc (by omega) _
        have HO2' : Hid (W2.ownsRow w1.heap.size 3 1 (.slice (some ⟨w1.heap.size, 0, none⟩) m m) m ((mixTo gs xs k).map (Value.int .i64))) := by rw [hW2]; exact HO.out.alloc _
        have hz2 : w2.heap.size ≤ W2.heap.size := by rw [hW2]; simp; omega
        rw [← hW2]
        clear hW2 HPS HIR e0 e1
        have hkm2 : k ≤ m := by omega
        have hmx : (mixTo gs xs k).length = m := by rw [mixTo_len gs xs k (by omega)]; have := HM.out; omega
        obtain ⟨y, hy⟩ : ∃ y : Int, (mixTo gs xs k)[k]? = some y := ⟨_, List.getElem?_eq_getElem (by omega)⟩
        have HY := Lib.hid hy
        clear hy hmx
        go_region_with (first | (go_at_call 64; refine (HVAL.out W2.drew W2.heap.size (Nat.le_refl _) HP2.out HIR2.out).mono ?_; rintro e w3 ⟨rfl, hb3⟩; have hgg : w1.heap.size < w3.heap.size := Nat.lt_of_lt_of_le (show w1.heap.size < W2.heap.size by omega) hb3.size; have HO3 := Lib.hid (own_below (w := W2.drew) HO2'.out hb3); have u3 : w3.cell? ⟨w1.heap.size, k, none⟩ = some (.int .i64 y) := (HO3.out.cellAt k (by omega)).trans (by simp [HY.out]); have f3 : w3.frozen? ⟨w1.heap.size, k, none⟩ = false := HO3.out.frozenAt k))
        have HO4 := HO3.out.stored k (.int .i64 E)
        rw [← List.map_set] at HO4
        rw [show (mixTo gs xs k).set k E = mixTo gs xs (k + 1) from HST.out.symm] at HO4
        have HO5 := Lib.hid HO4.1
        have HB5 := Lib.hid (((HB2'.out.drew.trans (hb3.mono (show w1.heap.size ≤ W2.heap.size by omega))).setCell (p := ⟨w1.heap.size, k, none⟩) (Nat.le_refl _) (.int .i64 E)))
        have hz3 : w2.heap.size ≤ w3.heap.size := Nat.le_trans hz2 hb3.size
        clear HO4
        go_wp2
        go_roundw
        case rel => exact ⟨k + 1, by omega, by go_num, HO5.out, HB5.out, by simp [World.setCell]; omega⟩
        case measure => simp [intOf]; omega
      · have hd' : (d.k != 0) = false := by simp [bne, hd]
        rw [hd] at HST
        clear hcE hd hn1' hml
        go_wp2
        go_roundw
        case rel => exact ⟨k + 1, by omega, by go_num, by rw [HST.out]; exact HO.out.alloc _, HBR.out.alloc (by omega) _, by simp; omega⟩
        case measure => simp [intOf]; omega
    · obtain rfl : k = n := by omega
      go_wp2
      go_ret
      have hkx : k = xs.length := by have := HMN.out; have := HM.out; omega
      have hkm : k = m := by have := HMN.out; omega
      have hml : (mean gs xs).length = m := by unfold mean; rw [meanTo_len]; have := HN.out; omega
      refine ⟨_, rfl, ?_, hB2.trans (HBR.out.mono (by omega))⟩
      have := HO.out
      rw [mixTo_all gs xs k hkx, HN.out] at this
      unfold OwnI
      rw [hml]
      exact own_mono this (by omega)
end Go.Proofs.Ytehlamofancdjaa

namespace Go.Proofs.Ytehlamofancdjaa
set_option linter.unusedSimpArgs false
set_option linter.unusedVariables false
open Go.RowKit
theorem SS.loc (B : Nat) (A : Option Addr) (xss : List (List Int)) : Loc 0 B fun w => SS w B A xss :=
  fun w w' h hk => h.keep fun p hp => World.cell?_of_block (hk p.block (Nat.zero_le _) hp)
/-- No more lists, and no longer ones, than a million. -/
def SB (xss : List (List Int)) : Prop := xss.length ≤ 1048576 ∧ ∀ j, (xss.getD j []).length ≤ 1048576
/-- The rows vs lie in blocks of their own and have contents cont. -/
structure SSk (lo hi : Nat) (vs : List Value) (lens : Nat → Nat) (cont : Nat → List Value) (w : World) : Prop where
  row : ∀ j, j < vs.length → ∃ A m c, vs[j]? = some (.slice A m c) ∧ m = lens j ∧ OwR lo hi 3 1 (.slice A m c) m (cont j) w
  apart : ∀ (i j : Nat) (v u : Value) (k : Nat), i ≠ j → vs[i]? = some v → vs[j]? = some u → v.ownBlock = some k → u.ownBlock ≠ some k
theorem SSk.keep {lo hi : Nat} {vs : List Value} {lens : Nat → Nat} {cont : Nat → List Value} {w w' : World} (h : SSk lo hi vs lens cont w) (hk : ∀ k, lo ≤ k → k < hi → w'.heap[k]? = w.heap[k]?) : SSk lo hi vs lens cont w' :=
  ⟨fun j hj => by obtain ⟨A, m, c, h1, h2, h3⟩ := h.row j hj; exact ⟨A, m, c, h1, h2, h3.keep hk⟩, h.apart⟩
theorem SSk.mono {lo hi lo' hi' : Nat} {vs : List Value} {lens : Nat → Nat} {cont : Nat → List Value} {w : World} (h : SSk lo hi vs lens cont w) (h1 : lo' ≤ lo) (h2 : hi ≤ hi') : SSk lo' hi' vs lens cont w :=
  ⟨fun j hj => by obtain ⟨A, m, c, e1, e2, e3⟩ := h.row j hj; exact ⟨A, m, c, e1, e2, e3.mono h1 h2⟩, h.apart⟩
/-- A row of another kind was written to. -/
theorem SSk.grown {lo hi : Nat} {vs : List Value} {lens : Nat → Nat} {cont : Nat → List Value} {w w' : World} {row : Option Nat} (h : SSk lo hi vs lens cont w) (hg : w.grownBy w' row) (hr : ∀ (j : Nat) (v : Value), vs[j]? = some v → v.ownBlock = none ∨ v.ownBlock ≠ row) : SSk lo hi vs lens cont w' :=
  ⟨fun j hj => by obtain ⟨A, m, c, h1, h2, h3⟩ := h.row j hj; exact ⟨A, m, c, h1, h2, h3.1.kept hg (hr j _ h1), h3.2⟩, h.apart⟩
theorem SSk.ne {lo hi lo' : Nat} {vs : List Value} {lens : Nat → Nat} {cont : Nat → List Value} {w : World} {e : TypeId} {size n : Nat} {u : Value} {xs : List Value} (h : SSk lo hi vs lens cont w) (hu : w.ownsRow lo' e size u n xs) (he : (3 : TypeId) ≠ e) : ∀ (j : Nat) (v : Value), vs[j]? = some v → v.ownBlock = none ∨ v.ownBlock ≠ u.ownBlock := by
  intro j v hv
  have hj : j < vs.length := by
    rcases Nat.lt_or_ge j vs.length with h1 | h1
    · exact h1
    · rw [List.getElem?_eq_none h1] at hv; cases hv
  obtain ⟨A, m, c, h1, h2, h3⟩ := h.row j hj
  rw [h1] at hv
  cases hv
  exact blocks_ne h3.1 hu he
theorem SSk.lt {lo hi : Nat} {vs : List Value} {lens : Nat → Nat} {cont : Nat → List Value} {w : World} (h : SSk lo hi vs lens cont w) : ∀ (j : Nat) (v : Value) (k : Nat), vs[j]? = some v → v.ownBlock = some k → lo ≤ k ∧ k < hi := by
  intro j v k hv hk
  have hj : j < vs.length := by
    rcases Nat.lt_or_ge j vs.length with h1 | h1
    · exact h1
    · rw [List.getElem?_eq_none h1] at hv; cases hv
  obtain ⟨A, m, c, h1, h2, h3⟩ := h.row j hj
  rw [h1] at hv
  cases hv
  exact ⟨(h3.1.lt k hk).1, h3.2 k hk⟩
/-- One row more, or another one in its place: it lies in new blocks. -/
theorem SSk.put {lo hi hi' : Nat} {vs vs' : List Value} {lens lens' : Nat → Nat} {cont cont' : Nat → List Value} {w : World} {A : Option Addr} {m c : Nat} (h : SSk lo hi vs lens cont w) (k : Nat) (hk : vs'[k]? = some (.slice A m c)) (hl : ∀ j, j ≠ k → vs'[j]? = vs[j]?)
    (hlen : ∀ j, j < vs'.length → j ≠ k → j < vs.length) (hm : m = lens' k) (hc : ∀ j, j ≠ k → lens' j = lens j ∧ cont' j = cont j) (hr : OwR hi hi' 3 1 (.slice A m c) m (cont' k) w) (h1 : lo ≤ hi) (h2 : hi ≤ hi') : SSk lo hi' vs' lens' cont' w := by
  refine ⟨fun j hj => ?_, fun i j v u q hij hi' hj' hv hu => ?_⟩
  · by_cases e : j = k
    · subst e
      exact ⟨A, m, c, hk, hm, hr.mono h1 (Nat.le_refl _)⟩
    · obtain ⟨A', m', c', e1, e2, e3⟩ := h.row j (hlen j hj e)
      obtain ⟨e4, e5⟩ := hc j e
      exact ⟨A', m', c', by rw [hl j e]; exact e1, by rw [e4]; exact e2, by rw [e5]; exact e3.mono (Nat.le_refl _) h2⟩
  · by_cases e : i = k
    · subst e
      rw [hk] at hi'
      cases hi'
      have a1 := (hr.1.lt q hv).1
      rw [hl j (fun e => hij e.symm)] at hj'
      have a2 := (h.lt j u q hj' hu).2
      omega
    · by_cases e' : j = k
      · subst e'
        rw [hk] at hj'
        cases hj'
        have a1 := (hr.1.lt q hu).1
        rw [hl i e] at hi'
        have a2 := (h.lt i v q hi' hv).2
        omega
      · rw [hl i e] at hi'
        rw [hl j e'] at hj'
        exact h.apart i j v u q hij hi' hj' hv hu
def lenOf (xss : List (List Int)) (j : Nat) : Nat := (xss.getD j []).length
def rowOf (xss : List (List Int)) (j : Nat) : List Value := (xss.getD j []).map (Value.int .i64)
/-- Lists of numbers of the call's own. -/
def OwSS (lo hi : Nat) (v : Value) (n : Nat) (xss : List (List Int)) (w : World) : Prop :=
  n = xss.length ∧ ∃ vs, OwR lo hi 25 1 v n vs w ∧ SSk lo hi vs (lenOf xss) (rowOf xss) w
theorem OwSS.loc (lo hi : Nat) (v : Value) (n : Nat) (xss : List (List Int)) : Loc lo hi (OwSS lo hi v n xss) := by
  rintro w w' ⟨h0, vs, h1, h2⟩ hk
  exact ⟨h0, vs, h1.keep hk, h2.keep hk⟩
theorem OwSS.mono {lo hi lo' hi' n : Nat} {v : Value} {xss : List (List Int)} {w : World} (h : OwSS lo hi v n xss w) (h1 : lo' ≤ lo) (h2 : hi ≤ hi') : OwSS lo' hi' v n xss w := by
  obtain ⟨h0, vs, e1, e2⟩ := h
  exact ⟨h0, vs, e1.mono h1 h2, e2.mono h1 h2⟩
theorem OwSS.form {lo hi n : Nat} {v : Value} {xss : List (List Int)} {w : World} (h : OwSS lo hi v n xss w) : ∃ A c, v = .slice A n c := by
  obtain ⟨_, xs, h1, _⟩ := h
  exact own_form h1.1
theorem OwSS.lists {lo hi n c : Nat} {A : Option Addr} {xss : List (List Int)} {w : World} (h : OwSS lo hi (.slice A n c) n xss w) : SS w hi A xss := by
  obtain ⟨h0, vs, h1, h2⟩ := h
  intro hn
  rcases h1.1.2 with ⟨_, hz⟩ | ⟨g, cap, cur, hv, _⟩
  · omega
  · have hg := h1.2 g (by rw [hv]; rfl)
    simp only [Value.slice.injEq] at hv
    obtain ⟨rfl, _, rfl⟩ := hv
    have hvl : vs.length = n := by have := h1.1.1; omega
    refine ⟨g, 0, rfl, hg, fun j hj => ?_⟩
    obtain ⟨A', m, c', e1, e2, e3⟩ := h2.row j (by omega)
    refine ⟨A', m, c', ?_, e2, e3.ints⟩
    rw [Nat.zero_add, h1.1.cellAt _ (by omega)]; exact e1
theorem ints_ne_int : (3 : TypeId) ≠ 25 := by decide
/-- Returns lists of numbers in fresh blocks. -/
def RetSS (w : World) (xss : List (List Int)) (e : Ending) (w' : World) : Prop := ∃ v, e = .returned v ∧ OwSS w.heap.size w'.heap.size v xss.length xss w' ∧ Below w.heap.size w w'
theorem OwSS.nil (lo hi : Nat) (w : World) : OwSS lo hi (.slice none 0 0) 0 [] w := ⟨rfl, [], OwR.nil _ _ _ _ _, ⟨fun j hj => by simp at hj, fun i j v u k _ h => by simp at h⟩⟩
theorem RetSS.nil {w w' : World} (hb : Below w.heap.size w w') : RetSS w [] (.returned (.slice none 0 0)) w' := ⟨_, rfl, OwSS.nil _ _ _, hb⟩
end Go.Proofs.Ytehlamofancdjaa

namespace Go.Proofs.Ytehlamofancdjaa
set_option linter.unusedSimpArgs false
set_option linter.unusedVariables false
open Go.RowKit
/-- What ReadsOf answers. -/
def readF (ps : List Pt) (vs : List Int) : List Int := if canEv ps vs then firsts ((whole ps).rds vs) else []
theorem rds_whole (ps : List Pt) (vs : List Int) (h : ps.length ≤ 12) : ((whole ps).rds vs).length ≤ 531441 :=
  Nat.le_trans (rds_len ps vs ps.length (ps.length - 1)) (Nat.pow_le_pow_right (by omega) h)
set_option maxHeartbeats 800000 in
theorem impl_ReadsOf (A A' : Option Addr) (n c m c' : Nat) (ps : List Pt) (vs : List Int) (B : Nat) (hn : n = ps.length) (hm : m = vs.length) (hs : n ≤ 1999999) (hs' : m ≤ 2000000) (w : World) (hB : B ≤ w.heap.size) (h : PS w B A ps) (h' : IS w B A' vs) :
    Calls Try.prog 48 #[.agg #[.slice A n c], .slice A' m c'] w fun e w' => RetI w (readF ps vs) e w' := by
  have H := Lib.hid h
  have HN := Lib.hid hn
  have H' := Lib.hid h'
  have HM := Lib.hid hm
  clear hn h hm h'
  cases hc : canEv ps vs
  · have hr : readF ps vs = [] := by simp [readF, hc]
    rw [hr]
    have HC := Lib.hid hc
    clear hr hc
    go_enter Try.func48, Try.ntmps48
    go_wp2_with fail
    refine (impl_canEvaluate _ _ _ _ _ _ ps vs _ B (by simp; omega) HN.out HM.out ((H.out.alloc hB _).alloc (by simp; omega) _) ((H'.out.alloc hB _).alloc (by simp; omega) _) (by omega) hs').mono ?_
    rintro e w1 ⟨rfl, hb⟩
    rw [HC.out]
    go_wp2
    go_ret
    exact ⟨_, rfl, World.ownsRow_nil _ _ _ _, (((Below.refl _ _).alloc (Nat.le_refl _) _).alloc (by simp) _).trans (hb.mono (by simp; omega))⟩
  · have hr : readF ps vs = firsts ((whole ps).rds vs) := by simp [readF, hc]
    rw [hr]
    obtain ⟨hv, hvo, hm10, hea⟩ := canEv_parts ps vs hc
    obtain ⟨hg, h1, h12⟩ := validF_good ps hv
    have hok : (whole ps).ok vs.length := tmAt_ok ps vs.length hg hea ps.length (ps.length - 1) (by omega) (by omega)
    have HWH := Lib.hid (fun (w : World) => impl_wholeOf A n c ps B HN.out hg (by omega) (by have := HN.out; omega) w)
    rw [show tmAt ps n (n - 1) = whole ps by rw [HN.out]; rfl] at HWH
    have hrl := rds_whole ps vs h12
    have HC := Lib.hid hc
    have HVO := Lib.hid hvo
    have HOK := Lib.hid hok
    clear hr hc hv hvo hea hg h1 h12 hok
    generalize whole ps = t at *
    go_enter Try.func48, Try.ntmps48
    go_wp2_with fail
    refine (impl_canEvaluate _ _ _ _ _ _ ps vs _ B (by simp; omega) HN.out HM.out ((H.out.alloc hB _).alloc (by simp; omega) _) ((H'.out.alloc hB _).alloc (by simp; omega) _) (by omega) hs').mono ?_
    rintro e w1 ⟨rfl, hb⟩
    rw [HC.out]
    have hz : w.heap.size + 1 + 1 ≤ w1.heap.size := by have := hb.size; simpa using this
    have hz0 : w.heap.size < w1.heap.size := by omega
    have hbox : w1.cell? ⟨w.heap.size, 0, none⟩ = some (.slice A n c) := (hb.cell (p := ⟨w.heap.size, 0, none⟩) (by simp; omega)).trans (by go_simp)
    have hbox2 : w1.cell? ⟨w.heap.size + 1, 0, none⟩ = some (.slice A' m c') := (hb.cell (p := ⟨w.heap.size + 1, 0, none⟩) (by simp)).trans (by go_simp)
    have HP1 := Lib.hid (((H.out.alloc hB (.cells #[.slice A n c] 48)).alloc (by simp; omega) (.cells #[.slice A' m c'] 25)).below hb (by simp; omega))
    have HI1 := Lib.hid (((H'.out.alloc hB (.cells #[.slice A n c] 48)).alloc (by simp; omega) (.cells #[.slice A' m c'] 25)).below hb (by simp; omega))
    have hB1 : Below w.heap.size w w1 := (((Below.refl _ _).alloc (Nat.le_refl _) _).alloc (by simp) _).trans (hb.mono (by simp; omega))
    clear hb
    go_wp2_with fail
    refine (HWH.out _ (by simp; omega) (HP1.out.alloc (by omega) _)).mono ?_
    rintro e w2 ⟨T, x, rfl, hT, hb2⟩
    have HT := Lib.hid hT
    clear hT
    have hz2 : w1.heap.size + 1 ≤ w2.heap.size := by have := hb2.size; simpa using this
    have hbg : Below w1.heap.size w1 w2 := (below_new w1 _).trans (hb2.mono (by simp))
    have hIR : IR w1.heap.size w1 [] w2 := ⟨hbg, by omega, (hb2.frozen (p := ⟨w1.heap.size, 0, none⟩) (by simp)).trans (by go_simp), .slice none 0 0, (hb2.cell (p := ⟨w1.heap.size, 0, none⟩) (by simp)).trans (by go_simp), World.ownsRow_nil _ _ _ _⟩
    have HEV := Lib.hid (impl_evaluate2 68 (.pointer (some ⟨w1.heap.size, 0, none⟩)) (.pointer (some ⟨w.heap.size + 1, 0, none⟩)) vs HVO.out (footR w1.heap.size) (fun acc w' => IR w1.heap.size w1 acc w' ∧ ∀ x ∈ acc, ∃ q : Nat, q < vs.length ∧ x = (q : Int))
      (fun acc w' k h hf => h.1.foot_lt k hf) (fun acc wa wb h1 h2 => ⟨⟨h1.1.step h2, h1.2⟩, fun k hf => h1.1.foot_step h2 k hf⟩) (fun q w => by kernel_rfl)
      (fun q acc wa hq h1 => (look_read A' m c' w1.heap.size (w.heap.size + 1) q vs acc w1 wa B HM.out hs' hq (by omega) (by omega) hbox2 HI1.out h1.1 (by have := firsts_bd acc vs.length h1.2; omega)).mono
        fun e wb ⟨he, hI, hF⟩ => ⟨he, ⟨hI, fun x hx => by
          rcases List.mem_append.mp hx with h4 | h4
          · exact h1.2 x h4
          · simp at h4; exact ⟨q, hq, h4⟩⟩, hF⟩) t)
    have HIR := Lib.hid hIR
    clear hb2 hIR
    go_wp2_with fail
    rw [← HT.out]
    refine (HEV.out [] _ HOK.out ⟨HIR.out, fun x hx => by cases hx⟩).mono ?_
    rintro e w3 ⟨rfl, ⟨hI3, _⟩, _⟩
    obtain ⟨v, hv, ho⟩ := hI3.cell
    obtain ⟨A3, c3, rfl⟩ := own_form ho
    simp only [List.nil_append] at hv ho
    have HO := Lib.hid ho
    have HB3 := Lib.hid hI3.bel
    have hs3 := hI3.lt
    clear ho hI3
    go_wp2
    go_ret
    exact ⟨_, rfl, own_mono HO.out (by omega), hB1.trans (HB3.out.mono (by omega))⟩
end Go.Proofs.Ytehlamofancdjaa

namespace Go.Proofs.Ytehlamofancdjaa
set_option linter.unusedSimpArgs false
set_option linter.unusedVariables false
open Go.RowKit
def depTo (gs : List Nd) (vs : List Int) (k : Nat) : List (List Int) := (List.range k).map (depF gs vs)
def depsF (gs : List Nd) (xs : List Int) : List (List Int) := if okC gs xs then depTo gs (mean gs xs) gs.length else []
theorem depTo_len (gs : List Nd) (vs : List Int) (k : Nat) : (depTo gs vs k).length = k := by simp [depTo]
theorem depTo_succ (gs : List Nd) (vs : List Int) (k : Nat) : depTo gs vs (k + 1) = depTo gs vs k ++ [depF gs vs k] := by simp [depTo, List.range_succ]
theorem depTo_at (gs : List Nd) (vs : List Int) (k j : Nat) (h : j < k) : (depTo gs vs k).getD j [] = depF gs vs j := by simp [depTo, List.getD, h]
theorem depsF_len (gs : List Nd) (xs : List Int) : SB (depsF gs xs) ∧ ((depsF gs xs).map List.length).sum ≤ 1048576 := by
  unfold depsF
  cases h : okC gs xs
  · exact ⟨⟨by simp, fun j => by simp [List.getD]⟩, by simp⟩
  · simp only [if_true]
    have h10 := (validG_parts gs (okC_parts gs xs h).1).1
    have hb : ∀ j, j < gs.length → (depF gs (mean gs xs) j).length ≤ 10 := fun j hj => depF_bd gs xs h j hj
    refine ⟨⟨by rw [depTo_len]; omega, fun j => ?_⟩, ?_⟩
    · by_cases hj : j < gs.length
      · rw [depTo_at _ _ _ _ hj]; have := hb j hj; omega
      · rw [show (depTo gs (mean gs xs) gs.length).getD j [] = [] by
          have : (depTo gs (mean gs xs) gs.length).length ≤ j := by rw [depTo_len]; omega
          simp [List.getD, List.getElem?_eq_none this]]
        simp
    · have : ∀ k, k ≤ gs.length → ((depTo gs (mean gs xs) k).map List.length).sum ≤ k * 10 := by
        intro k
        induction k with
        | zero => intro _; simp [depTo]
        | succ k ih =>
          intro hk
          rw [depTo_succ, List.map_append, List.sum_append]
          have h1 := ih (by omega)
          have h2 := hb k (by omega)
          simp
          omega
      have := this gs.length (Nat.le_refl _)
      omega
theorem info_ints1 : (Try.prog.info? 25).map (fun i => (i.zero, i.size, i.bytes)) = some (some (.slice none 0 0), 1, 24) := by kernel_rfl
/-- What the first nodes read, and nothing for the others. -/
def dmix (gs : List Nd) (vs : List Int) (n k : Nat) : List (List Int) := depTo gs vs k ++ List.replicate (n - k) []
theorem dmix_all (gs : List Nd) (vs : List Int) (n : Nat) : dmix gs vs n n = depTo gs vs n := by unfold dmix; simp
theorem dmix_at (gs : List Nd) (vs : List Int) (n k : Nat) (h : k < n) : (dmix gs vs n (k + 1)).getD k [] = depF gs vs k := by
  have := depTo_len gs vs k
  unfold dmix
  rw [depTo_succ]
  simp [List.getD, List.getElem?_append, this]
theorem dmix_other (gs : List Nd) (vs : List Int) (n k j : Nat) (h : k < n) (hj : j ≠ k) : (dmix gs vs n (k + 1)).getD j [] = (dmix gs vs n k).getD j [] := by
  have h1 := depTo_len gs vs k
  unfold dmix
  rw [depTo_succ]
  rcases Nat.lt_or_ge j k with h2 | h2
  · simp [List.getD, List.getElem?_append, h1, h2, show j < k + 1 by omega]
  · have e1 : ¬ j < k := by omega
    have e2 : ¬ j < k + 1 := by omega
    simp only [List.getD, List.getElem?_append, List.length_append, h1, List.length_cons, List.length_nil, if_neg e1, if_neg e2, List.getElem?_replicate]
    split <;> split <;> rfl
theorem dmix_cell (gs : List Nd) (vs : List Int) (n k : Nat) (h : k < n) (hd : depF gs vs k = []) : dmix gs vs n (k + 1) = dmix gs vs n k := by
  unfold dmix
  rw [depTo_succ, hd, List.append_assoc, show n - k = (n - (k + 1)) + 1 by omega, List.replicate_succ]
  rfl
set_option maxRecDepth 100000 in
set_option maxHeartbeats 3200000 in
theorem top_impl_DepsOf (gs : List Nd) (xs : List Int) (hG : GB gs) (hL : xs.length ≤ 1048576) : ∀ (A : Option Addr) (n c : Nat) (A' : Option Addr) (m c' : Nat) (w : World), n = gs.length → n ≤ c → GS w w.heap.size A gs → m = xs.length → IS w w.heap.size A' xs →
    Calls Try.prog 20 #[.agg #[.slice A n c], .slice A' m c'] w fun e w' => RetSS w (depsF gs xs) e w' := by
  intro A n c A' m c' w hn hnc h hm h'
  obtain ⟨i1, hi, hz0, hz1, hz2⟩ := info_parts info_ints1
  have hm1 : m ≤ 2000000 := by omega
  have H := Lib.hid h
  have HX := Lib.hid h'
  have HN := Lib.hid hn
  have HC := Lib.hid fun (w' : World) (hB : w.heap.size ≤ w'.heap.size) (h : GS w' w.heap.size A gs) (h' : IS w' w.heap.size A' xs) => impl_ValidCells A A' n c m c' gs xs w' w.heap.size hB hn hnc hm h h' hG hm1
  have HM := Lib.hid fun (w' : World) (hB : w.heap.size ≤ w'.heap.size) (h : GS w' w.heap.size A gs) (h' : IS w' w.heap.size A' xs) => impl_MeaningOf A A' n c m c' gs xs w' w.heap.size hB hn hnc hm h h' hG hm1
  cases hok : okC gs xs
  · have hf : depsF gs xs = [] := by unfold depsF; rw [hok]; rfl
    rw [hf]
    rw [hok] at HC
    clear hf hok h h' hn hm hG
    go_enter Try.func20, Try.ntmps20
    go_wp2_with fail
    refine (HC.out _ (by simp) (H.out.alloc (Nat.le_refl _) _) (HX.out.alloc (Nat.le_refl _) _)).mono ?_
    rintro e w1 ⟨rfl, hb⟩
    have q1 : w1.cell? ⟨w.heap.size, 0, none⟩ = some (.slice A n c) := (hb.cell (p := ⟨w.heap.size, 0, none⟩) (by simp)).trans (by go_simp)
    have HG1 := Lib.hid ((H.out.alloc (Nat.le_refl _) (.cells #[.slice A n c] 30)).below hb (by simp))
    have HX1 := Lib.hid ((HX.out.alloc (Nat.le_refl _) (.cells #[.slice A n c] 30)).below hb (by simp))
    have hB1 : Below w.heap.size w w1 := ((Below.refl _ _).alloc (Nat.le_refl _) _).trans (hb.mono (by simp))
    have hl1 : w.heap.size < w1.heap.size := by have := hb.size; simp at this; omega
    clear hb
    go_wp2
    go_ret
    exact RetSS.nil (hB1)
  have hvg := (okC_parts gs xs hok).1
  have hf : depsF gs xs = depTo gs (mean gs xs) gs.length := by unfold depsF; rw [hok]; rfl
  have hmf : meanF gs xs = mean gs xs := by unfold meanF; rw [hok]; rfl
  have hn10 : n ≤ 10 := by have := (validG_parts gs hvg).1; omega
  have hml := mean_len gs xs
  rw [← hn] at hml
  have hvo : VOK (mean gs xs) := meanTo_VOK gs xs hok gs.length (Nat.le_refl _)
  have HCE := Lib.hid fun (k : Nat) (hk : k < gs.length) (h0 : ((gs.getD k default).k == 0) = false) => canEv_of (gs.getD k default).ps (mean gs xs) (nodeOK_formula gs k ((validG_parts gs hvg).2 k hk) h0).1 (by omega) hvo (by rw [hml]; exact each_ahead gs k n hvg hk h0 (by omega))
  rw [hf]
  rw [hok] at HC
  rw [hmf] at HM
  have HML := Lib.hid hml
  have HDL := Lib.hid (depTo_len gs (mean gs xs))
  rw [← hn]
  clear hf hvg hok hml hvo h h' hn hm hG hmf
  generalize mean gs xs = M at *
  have HMK := Lib.hid fun (w1 : World) => run_make_full (P := Try.prog) w1 w1.heap.size 44 25 i1 _ 1 Try.underlying44 hi hz0 hz1 .i64 .i64 n (by rw [hz2]; omega) (by unfold maxLen; omega) (Nat.le_refl _)
  go_enter Try.func20, Try.ntmps20
  go_wp2_with fail
  refine (HC.out _ (by simp) (H.out.alloc (Nat.le_refl _) _) (HX.out.alloc (Nat.le_refl _) _)).mono ?_
  rintro e w1 ⟨rfl, hb⟩
  have q1 : w1.cell? ⟨w.heap.size, 0, none⟩ = some (.slice A n c) := (hb.cell (p := ⟨w.heap.size, 0, none⟩) (by simp)).trans (by go_simp)
  have HG1 := Lib.hid ((H.out.alloc (Nat.le_refl _) (.cells #[.slice A n c] 30)).below hb (by simp))
  have HX1 := Lib.hid ((HX.out.alloc (Nat.le_refl _) (.cells #[.slice A n c] 30)).below hb (by simp))
  have hB1 : Below w.heap.size w w1 := ((Below.refl _ _).alloc (Nat.le_refl _) _).trans (hb.mono (by simp))
  have hl1 : w.heap.size < w1.heap.size := by have := hb.size; simp at this; omega
  clear hb
  go_wp2_with fail
  refine (HM.out _ hB1.size HG1.out HX1.out).mono ?_
  rintro e w2 ⟨v2, rfl, ho, hb⟩
  obtain ⟨A3, c3, rfl, hI3⟩ := OwnI.at_ ho HML.out
  have q2 := (hb.cell (p := ⟨w.heap.size, 0, none⟩) hl1).trans q1
  have hB2 := Lib.hid (hB1.trans (hb.mono hB1.size))
  have hl2 : w.heap.size < w2.heap.size := Nat.lt_of_lt_of_le hl1 hb.size
  obtain ⟨w3, hmk, hown3, hgr3⟩ := HMK.out w2
  have hb3 : Below w2.heap.size w2 w3 := ⟨hgr3.os, hgr3.tape, hgr3.output, hgr3.size, fun k hk => hgr3.block k hk (by simp)⟩
  have q3 := (hb3.cell (p := ⟨w.heap.size, 0, none⟩) hl2).trans q2
  have HG3 := Lib.hid (((HG1.out.below hb hB1.size).more (B' := w2.heap.size) (Nat.le_trans hB1.size hb.size)).below hb3 (Nat.le_refl _))
  have HI3 := Lib.hid (hI3.below hb3 (Nat.le_refl _))
  have hgl : w2.heap.size < w3.heap.size := (hown3.lt _ rfl).2
  have HO3 : Hid (∃ vs, OwR w2.heap.size w3.heap.size 25 1 (.slice (some ⟨w2.heap.size, 0, none⟩) n n) n vs w3 ∧ SSk w2.heap.size w3.heap.size vs (lenOf (dmix gs M n 0)) (rowOf (dmix gs M n 0)) w3) := by
    have e : (madeCells (Value.slice none 0 0).cells (n * 1)).toList = List.replicate n (.slice none 0 0) := by simp [Value.cells, toList_madeCells_one]
    rw [e] at hown3
    refine ⟨_, OwR.start hown3, ⟨fun j hj => ?_, fun i j v u k _ h1 h2 hv => ?_⟩⟩
    · have hj' : j < n := by simpa using hj
      refine ⟨none, 0, 0, by simp [hj'], by simp [lenOf, dmix, depTo, List.getD, hj'], ?_⟩
      have : rowOf (dmix gs M n 0) j = [] := by simp [rowOf, dmix, depTo, List.getD, hj']
      rw [this]
      exact OwR.nil _ _ _ _ _
    · have : v = .slice none 0 0 := by
        rw [List.getElem?_replicate] at h1
        split at h1
        · cases h1; rfl
        · cases h1
      subst this
      simp [Value.ownBlock] at hv
  have HB3 := Lib.hid hb3
  clear hb hb3 hown3 hgr3 q1 HG1 HX1 hB1 ho hI3 HC HM HX H hl1 HMK
  go_wp2
  clear hmk
  go_loopw [23] (fun i wr => ∃ k : Nat, k ≤ n ∧ i = .int .i64 k ∧ Hid (∃ vs, OwR w2.heap.size wr.heap.size 25 1 (.slice (some ⟨w2.heap.size, 0, none⟩) n n) n vs wr ∧ SSk w2.heap.size wr.heap.size vs (lenOf (dmix gs M n k)) (rowOf (dmix gs M n k)) wr) ∧ Hid (Below w2.heap.size w3 wr) ∧ w3.heap.size ≤ wr.heap.size) (fun i _ => n - (intOf i).toNat)
  case atStart => exact ⟨0, Nat.zero_le _, rfl, HO3.out, Below.refl _ _, Nat.le_refl _⟩
  case round =>
    obtain ⟨k, hk, rfl, HO, HB, hwr⟩ := hrel
    by_cases hlt : k < n
    · obtain ⟨vs, hrow, hss⟩ := HO.out
      have hvl : vs.length = n := by have := hrow.1.1; omega
      have hkg : k < gs.length := by have := HN.out; omega
      obtain ⟨b, off, rfl, hbB, c0, A1, n1, c1, c2, hn1', hps⟩ := HG3.out.at_ k hkg
      have e0 := (HB.out.cell (p := ⟨b, off + k * 2, none⟩) hbB).trans c0
      have e1 := (HB.out.cell (p := ⟨b, off + k * 2 + 1, none⟩) hbB).trans c2
      have HPS := Lib.hid (((hps.below HB.out (Nat.le_refl _)).alloc (by omega) (.cells #[.int .i64 (gs.getD k default).k, .slice A1 n1 c1] 50)).more (B' := wr.heap.size + 1) (by omega))
      have HIR := Lib.hid (((HI3.out.below HB.out (Nat.le_refl _)).alloc (by omega) (.cells #[.int .i64 (gs.getD k default).k, .slice A1 n1 c1] 50)).more (B' := wr.heap.size + 1) (by omega))
      have hce := HCE.out k hkg
      have hde : depF gs M k = if (gs.getD k default).k == 0 then [] else firsts ((whole (gs.getD k default).ps).rds M) := rfl
      have HAT := Lib.hid (dmix_at gs M n k hlt)
      have HOT := Lib.hid fun (j : Nat) (hj : j ≠ k) => dmix_other gs M n k j hlt hj
      have HCELL := Lib.hid (dmix_cell gs M n k hlt)
      have HROW := Lib.hid (hrow.1.alloc (.cells #[.int .i64 (gs.getD k default).k, .slice A1 n1 c1] 50))
      have HSS := Lib.hid (hss.keep (w' := wr.alloc (.cells #[.int .i64 (gs.getD k default).k, .slice A1 n1 c1] 50)) fun q _ hq => Below.heap_alloc _ _ _ hq)
      have HVL := Lib.hid hvl
      generalize gs.getD k default = d at *
      clear c0 c2 hps hrow hss hvl
      cases hd : (d.k == 0)
      · have hd' : (d.k != 0) = true := by simp [bne, hd]
        have hrf : readF d.ps M = firsts ((whole d.ps).rds M) := by unfold readF; rw [hce hd]; rfl
        have hvf := (canEv_parts d.ps M (hce hd)).1
        have h12 := (validF_good d.ps hvf).2.2
        rw [hd] at hde
        have hde2 : depF gs M k = readF d.ps M := by rw [hrf]; exact hde
        have HRD := Lib.hid fun (w' : World) (B : Nat) (hB : B ≤ w'.heap.size) (h : PS w' B A1 d.ps) (h' : IS w' B A3 M) => impl_ReadsOf A1 A3 n1 c1 n c3 d.ps M B hn1' HML.out.symm (by omega) (by omega) w' hB h h'
        rw [← hde2] at HRD
        clear hce hrf hvf h12 hde hde2 hn1' hd
        generalize depF gs M k = D at *
        go_wp2_with fail
        refine (HRD.out _ (wr.heap.size + 1) (by simp) HPS.out HIR.out).mono ?_
        rintro e w5 ⟨v5, rfl, ho5, hb5⟩
        obtain ⟨A5, c5, rfl, hI5⟩ := OwnI.form ho5
        unfold OwnI at ho5
        simp only [World.size_alloc] at ho5
        have hR5 := own_below HROW.out hb5
        have u5 := hR5.cellAt k (by omega)
        rw [List.getElem?_eq_getElem (by have := HVL.out; omega)] at u5
        have f5 := hR5.frozenAt k
        have hst := hR5.stored k (.slice A5 D.length c5)
        have hw5 : wr.heap.size + 1 ≤ w5.heap.size := by have := hb5.size; simpa using this
        have HNEW : Hid (∃ vs, OwR w2.heap.size w5.heap.size 25 1 (.slice (some ⟨w2.heap.size, 0, none⟩) n n) n vs (w5.setCell ⟨w2.heap.size, k, none⟩ (.slice A5 D.length c5)) ∧ SSk w2.heap.size w5.heap.size vs (lenOf (dmix gs M n (k + 1))) (rowOf (dmix gs M n (k + 1))) (w5.setCell ⟨w2.heap.size, k, none⟩ (.slice A5 D.length c5))) := by
          have hss5 := HSS.out.keep (w' := w5) fun q _ hq => hb5.block q (by simp only [World.size_alloc]; exact Nat.lt_succ_of_lt hq)
          have hss6 := hss5.grown hst.2 (hss5.ne hR5 ints_ne_int)
          have hd6 := ho5.kept hst.2 (blocks_ne ho5 hR5 ints_ne_int)
          have hrk : rowOf (dmix gs M n (k + 1)) k = D.map (Value.int .i64) := by unfold rowOf; rw [HAT.out]
          rw [← hrk] at hd6
          refine ⟨_, ⟨hst.1, fun q hq => by cases hq; exact Nat.lt_of_lt_of_le hgl (by omega)⟩, hss6.put (hi' := w5.heap.size) (A := A5) (m := D.length) (c := c5) k ?_ ?_ ?_ ?_ ?_ ⟨own_mono hd6 (by omega), fun q hq => by have := (ho5.lt q hq).2; omega⟩ (by omega) (by omega)⟩
          · rw [List.getElem?_set, if_pos rfl, if_pos (by have := HVL.out; omega)]
          · intro j hj; rw [List.getElem?_set, if_neg (by omega)]
          · intro j hj _; simpa using hj
          · unfold lenOf; rw [HAT.out]
          · intro j hj; unfold lenOf rowOf; rw [HOT.out j hj]; exact ⟨rfl, rfl⟩
        have HB6 : Hid (Below w2.heap.size w3 (w5.setCell ⟨w2.heap.size, k, none⟩ (.slice A5 D.length c5))) := ((HB.out.alloc (by omega) _).trans (hb5.mono (by simp; omega))).setCell (Nat.le_refl _) _
        have HSZ : Hid ((w5.setCell ⟨w2.heap.size, k, none⟩ (.slice A5 D.length c5)).heap.size = w5.heap.size) := by simp [World.setCell, Hid]
        generalize vs[k]'_ = vv at u5
        clear hst hR5 ho5 hI5 hb5
        go_wp2
        go_roundw
        case rel => exact ⟨k + 1, by omega, by go_num, by rw [HSZ.out]; exact HNEW.out, HB6.out, by simp [World.setCell]; omega⟩
        case measure => simp [intOf]; omega
      · have hd' : (d.k != 0) = false := by simp [bne, hd]
        rw [hd] at hde
        have HCE2 := Lib.hid (HCELL.out hde)
        clear hce hde hd hn1'
        go_wp2
        go_roundw
        case rel => exact ⟨k + 1, by omega, by go_num, by rw [HCE2.out]; exact ⟨vs, ⟨HROW.out, fun q hq => by cases hq; simp; omega⟩, HSS.out.mono (Nat.le_refl _) (by simp)⟩, HB.out.alloc (by omega) _, by simp; omega⟩
        case measure => simp [intOf]; omega
    · obtain rfl : k = n := by omega
      go_wp2
      go_ret
      refine ⟨_, rfl, ?_, hB2.out.trans ((HB3.out.trans HB.out).mono (by omega))⟩
      rw [HDL.out]
      obtain ⟨vs, hrow, hss⟩ := HO.out
      rw [dmix_all] at hss
      exact ⟨(HDL.out k).symm, vs, hrow.mono (by omega) (Nat.le_refl _), hss.mono (by omega) (Nat.le_refl _)⟩
end Go.Proofs.Ytehlamofancdjaa

namespace Go.Proofs.Ytehlamofancdjaa
set_option linter.unusedSimpArgs false
set_option linter.unusedVariables false
open Go.RowKit
/-- The first numbers for which something holds. -/
def nwTo (P : Nat → Bool) (n : Nat) : List Int := ((List.range n).filter P).map fun i : Nat => (i : Int)
theorem nwTo_step (P : Nat → Bool) (k : Nat) : nwTo P (k + 1) = nwTo P k ++ (if P k then [(k : Int)] else []) := by
  unfold nwTo
  rw [List.range_succ, List.filter_append, List.map_append]
  congr 1
  cases h : P k <;> simp [h]
theorem nwTo_len (P : Nat → Bool) (k : Nat) : (nwTo P k).length ≤ k := by
  unfold nwTo
  rw [List.length_map]
  have := List.length_filter_le P (List.range k)
  simpa using this
theorem nwTo_diff (a b : List Int) (k : Nat) : nwTo (fun i => !(a.getD i 0 == b.getD i 0)) k = diffTo a b k := rfl
set_option maxRecDepth 100000 in
set_option maxHeartbeats 1600000 in
theorem impl_nodesWhere2 (K : FuncId) (cap cap2 : Value) (P : Nat → Bool) (I : World → Prop) (A : Option Addr) (n c : Nat) (hs : n ≤ 2000000)
    (hI : ∀ w w' : World, I w → Below w.heap.size w w' → I w') (hcf : ∀ (q : Nat) (w : World), (callFunc K #[.int .i64 q, cap, cap2]).run Try.prog w = .ok (.enter K #[.int .i64 q, cap, cap2]) w)
    (hP : ∀ (q : Nat) (w : World), q < n → I w → Calls Try.prog K #[.int .i64 q, cap, cap2] w fun e w' => e = .returned (.bool (P q)) ∧ Below w.heap.size w w') (w : World) (h : I w) :
    Calls Try.prog 46 #[.agg #[.slice A n c], .func (.func K) #[] #[cap, cap2]] w fun e w' => RetI w (nwTo P n) e w' := by
  obtain ⟨i0, hi, hz0, hz1, hz2⟩ := info_parts info_int
  have HI := Lib.hid hI
  have HP := Lib.hid hP
  have H := Lib.hid h
  have HCF := Lib.hid hcf
  clear hI hP h hcf
  go_enter Try.func46, Try.ntmps46
  go_wp2
  go_loopw [5, 10] (fun v i wr => ∃ k : Nat, k ≤ n ∧ i = .int .i64 k ∧ Hid (OwnI wr (w.heap.size + 1) v (nwTo P k)) ∧ Below (w.heap.size + 1) (w.alloc (.cells #[.slice A n c] 30)) wr) (fun _ i _ => n - (intOf i).toNat)
  case atStart => exact ⟨0, Nat.zero_le _, rfl, World.ownsRow_nil _ _ _ _, Below.refl _ _⟩
  case round =>
    obtain ⟨k, hk, rfl, HO, hbr⟩ := hrel
    have hwr : w.heap.size + 1 ≤ wr.heap.size := by have := hbr.size; simpa using this
    by_cases hlt : k < n
    · have HST := Lib.hid (nwTo_step P k)
      have hdl := nwTo_len P k
      have HIR := Lib.hid (HI.out _ _ H.out (((Below.refl _ _).alloc (Nat.le_refl _) _).trans (hbr.mono (by omega))))
      have HPK := Lib.hid fun (w' : World) (h : I w') => HP.out k w' hlt h
      have hcf := HCF.out k
      generalize nwTo P k = D at *
      generalize P k = p at *
      cases p
      · go_wp2_with fail
        refine (HPK.out _ HIR.out).mono ?_
        rintro e w2 ⟨rfl, hb2⟩
        go_wp2
        go_roundw
        case rel => exact ⟨k + 1, by omega, by go_num, by rw [HST.out]; simpa [OwnI, Hid] using own_below HO.out hb2, hbr.trans (hb2.mono hwr)⟩
        case measure => simp [intOf]; omega
      · go_wp2_with fail
        refine (HPK.out _ HIR.out).mono ?_
        rintro e w2 ⟨rfl, hb2⟩
        have HO2 := Lib.hid (own_below HO.out hb2)
        have hbr2 := hbr.trans (hb2.mono hwr)
        have hw2 : w.heap.size + 1 ≤ w2.heap.size := by have := hb2.size; omega
        clear hcf
        go_wp2_with (at_builtin; refine wpList_append_own _ rfl _ _ 25 rfl (w.heap.size + 1) 3 i0 (.int .i64 0) 1 8 Try.underlying25 hi hz0 hz1 hz2 rfl (by decide) _ _ _ rfl (HO2.out.alloc _) ⟨_, 0, none⟩ 1 1 [.int .i64 k] rfl rfl (cell_one_new _ _ _) ?c2 ?c3 ?c4 ?c5 ?_)
        case c2 => first | rfl | (intro u hu; simp at hu; subst hu; rfl)
        case c3 => unfold maxLen; omega
        case c4 => omega
        case c5 => first | omega | (simp; omega)
        intro v' w3 hown' hgrow _
        have hpos := (HO2.out.alloc (.cells #[.int .i64 k] 3)).lt
        have HO' : Hid (OwnI w3 (w.heap.size + 1) v' (nwTo P (k + 1))) := by
          rw [HST.out]
          simpa [OwnI, Hid] using hown'
        have HB' := Lib.hid ((hbr2.alloc hw2 (.cells #[.int .i64 k] 3)).grown hgrow (by first | (simp; omega) | omega) (fun q hq => (hpos q hq).1))
        clear hown' hgrow hpos
        go_wp2
        go_roundw
        case rel => exact ⟨k + 1, by omega, by go_num, HO'.out, HB'.out⟩
        case measure => simp [intOf]; omega
    · obtain rfl : k = n := by omega
      go_wp2
      go_ret
      exact ⟨_, rfl, own_mono HO.out (by omega), ((Below.refl _ _).alloc (Nat.le_refl _) _).trans (hbr.mono (by omega))⟩
set_option maxHeartbeats 800000 in
theorem differ_at (g1 g2 : Nat) (A A' : Option Addr) (n c c' q : Nat) (a b : List Int) (w : World) (hn : n = a.length) (hm : n = b.length) (hq : q < n) (h1 : w.cell? ⟨g1, 0, none⟩ = some (.slice A n c)) (h2 : w.cell? ⟨g2, 0, none⟩ = some (.slice A' n c')) (h : IS w w.heap.size A a) (h' : IS w w.heap.size A' b) :
    Calls Try.prog 47 #[.int .i64 q, .pointer (some ⟨g1, 0, none⟩), .pointer (some ⟨g2, 0, none⟩)] w fun e w' => e = .returned (.bool (!(a.getD q 0 == b.getD q 0))) ∧ Below w.heap.size w w' := by
  obtain ⟨b1, off1, rfl, hb1, hc1⟩ := h (by omega)
  obtain ⟨b2, off2, rfl, hb2, hc2⟩ := h' (by omega)
  have e1 := hc1 q (by omega)
  have e2 := hc2 q (by omega)
  generalize a.getD q 0 = x at *
  generalize b.getD q 0 = y at *
  clear hc1 hc2 hn hm h h'
  go_enter Try.func47, Try.ntmps47
  go_wp2
  go_region
  go_wp2
  go_ret
  exact ⟨ret_b (by simp [bne]), (Below.refl _ _).drew⟩
set_option maxRecDepth 100000 in
set_option maxHeartbeats 3200000 in
theorem top_impl_ChangedBy (gs : List Nd) (xs ys : List Int) (hG : GB gs) (hL : xs.length ≤ 1048576) (hL2 : ys.length ≤ 1048576) : ∀ (A : Option Addr) (n c : Nat) (A1 : Option Addr) (m1 c1 : Nat) (A2 : Option Addr) (m2 c2 : Nat) (w : World), n = gs.length → n ≤ c → GS w w.heap.size A gs → m1 = xs.length → IS w w.heap.size A1 xs → m2 = ys.length → IS w w.heap.size A2 ys →
    Calls Try.prog 18 #[.agg #[.slice A n c], .slice A1 m1 c1, .slice A2 m2 c2] w fun e w' => RetI w (chgF gs xs ys) e w' := by
  intro A n c A1 m1 c1 A2 m2 c2 w hn hnc h hx h1 hy h2
  have hm1 : m1 ≤ 2000000 := by omega
  have hm2 : m2 ≤ 2000000 := by omega
  have hn1 : n ≤ 1048576 := by rw [hn]; exact hG.1
  have H := Lib.hid h
  have HX := Lib.hid h1
  have HY := Lib.hid h2
  have HN := Lib.hid hn
  have HDX := Lib.hid fun (w' : World) (hB : w.heap.size ≤ w'.heap.size) (h : GS w' w.heap.size A gs) (h' : IS w' w.heap.size A1 xs) => impl_ValidCells A A1 n c m1 c1 gs xs w' w.heap.size hB hn hnc hx h h' hG hm1
  have HDY := Lib.hid fun (w' : World) (hB : w.heap.size ≤ w'.heap.size) (h : GS w' w.heap.size A gs) (h' : IS w' w.heap.size A2 ys) => impl_ValidCells A A2 n c m2 c2 gs ys w' w.heap.size hB hn hnc hy h h' hG hm2
  have HMX := Lib.hid fun (w' : World) (hB : w.heap.size ≤ w'.heap.size) (h : GS w' w.heap.size A gs) (h' : IS w' w.heap.size A1 xs) => impl_MeaningOf A A1 n c m1 c1 gs xs w' w.heap.size hB hn hnc hx h h' hG hm1
  have HMY := Lib.hid fun (w' : World) (hB : w.heap.size ≤ w'.heap.size) (h : GS w' w.heap.size A gs) (h' : IS w' w.heap.size A2 ys) => impl_MeaningOf A A2 n c m2 c2 gs ys w' w.heap.size hB hn hnc hy h h' hG hm2
  have hml1 := mean_len gs xs
  have hml2 := mean_len gs ys
  have hb12 : chgB gs xs ys = (okC gs xs && okC gs ys) := by unfold chgB okC; cases validG gs <;> cases validC gs xs <;> simp
  have hf : chgF gs xs ys = if okC gs xs && okC gs ys then diffTo (mean gs xs) (mean gs ys) n else [] := by unfold chgF; rw [hb12, hn]
  rw [hf]
  rw [← hn] at hml1 hml2
  have HL1 := Lib.hid hml1
  have HL2 := Lib.hid hml2
  have hmx : meanF gs xs = if okC gs xs then mean gs xs else [] := rfl
  have hmy : meanF gs ys = if okC gs ys then mean gs ys else [] := rfl
  rw [hmx] at HMX
  rw [hmy] at HMY
  clear hf h h1 h2 hn hx hy hG hml1 hml2 hb12 hmx hmy
  generalize okC gs xs = b1 at *
  generalize okC gs ys = b2 at *
  generalize mean gs xs = MX at *
  generalize mean gs ys = MY at *
  cases b1
  · go_enter Try.func18, Try.ntmps18
    go_wp2_with fail
    refine (HDX.out _ (by simp) (H.out.alloc (Nat.le_refl _) _) (HX.out.alloc (Nat.le_refl _) _)).mono ?_
    rintro e w1 ⟨rfl, hb⟩
    have q1 : w1.cell? ⟨w.heap.size, 0, none⟩ = some (.slice A n c) := (hb.cell (p := ⟨w.heap.size, 0, none⟩) (by simp)).trans (by go_simp)
    have HG1 := Lib.hid ((H.out.alloc (Nat.le_refl _) (.cells #[.slice A n c] 30)).below hb (by simp))
    have HX1 := Lib.hid ((HX.out.alloc (Nat.le_refl _) (.cells #[.slice A n c] 30)).below hb (by simp))
    have HY1 := Lib.hid ((HY.out.alloc (Nat.le_refl _) (.cells #[.slice A n c] 30)).below hb (by simp))
    have hB1 : Below w.heap.size w w1 := ((Below.refl _ _).alloc (Nat.le_refl _) _).trans (hb.mono (by simp))
    have hl1 : w.heap.size < w1.heap.size := by have := hb.size; simp at this; omega
    clear hb
    go_wp2
    go_ret
    exact RetI.nil (hB1)
  · cases b2
    · go_enter Try.func18, Try.ntmps18
      go_wp2_with fail
      refine (HDX.out _ (by simp) (H.out.alloc (Nat.le_refl _) _) (HX.out.alloc (Nat.le_refl _) _)).mono ?_
      rintro e w1 ⟨rfl, hb⟩
      have q1 : w1.cell? ⟨w.heap.size, 0, none⟩ = some (.slice A n c) := (hb.cell (p := ⟨w.heap.size, 0, none⟩) (by simp)).trans (by go_simp)
      have HG1 := Lib.hid ((H.out.alloc (Nat.le_refl _) (.cells #[.slice A n c] 30)).below hb (by simp))
      have HX1 := Lib.hid ((HX.out.alloc (Nat.le_refl _) (.cells #[.slice A n c] 30)).below hb (by simp))
      have HY1 := Lib.hid ((HY.out.alloc (Nat.le_refl _) (.cells #[.slice A n c] 30)).below hb (by simp))
      have hB1 : Below w.heap.size w w1 := ((Below.refl _ _).alloc (Nat.le_refl _) _).trans (hb.mono (by simp))
      have hl1 : w.heap.size < w1.heap.size := by have := hb.size; simp at this; omega
      clear hb
      go_wp2_with fail
      refine (HDY.out _ hB1.size HG1.out HY1.out).mono ?_
      rintro e w2 ⟨rfl, hb⟩
      have q2 := (hb.cell (p := ⟨w.heap.size, 0, none⟩) hl1).trans q1
      have HG2 := Lib.hid (HG1.out.below hb hB1.size)
      have HX2 := Lib.hid (HX1.out.below hb hB1.size)
      have HY2 := Lib.hid (HY1.out.below hb hB1.size)
      have hB2 := hB1.trans (hb.mono hB1.size)
      have hl2 : w.heap.size < w2.heap.size := Nat.lt_of_lt_of_le hl1 hb.size
      clear hb q1 HG1 HX1 HY1
      go_wp2
      go_ret
      exact RetI.nil (hB2)
    · go_enter Try.func18, Try.ntmps18
      go_wp2_with fail
      refine (HDX.out _ (by simp) (H.out.alloc (Nat.le_refl _) _) (HX.out.alloc (Nat.le_refl _) _)).mono ?_
      rintro e w1 ⟨rfl, hb⟩
      have q1 : w1.cell? ⟨w.heap.size, 0, none⟩ = some (.slice A n c) := (hb.cell (p := ⟨w.heap.size, 0, none⟩) (by simp)).trans (by go_simp)
      have HG1 := Lib.hid ((H.out.alloc (Nat.le_refl _) (.cells #[.slice A n c] 30)).below hb (by simp))
      have HX1 := Lib.hid ((HX.out.alloc (Nat.le_refl _) (.cells #[.slice A n c] 30)).below hb (by simp))
      have HY1 := Lib.hid ((HY.out.alloc (Nat.le_refl _) (.cells #[.slice A n c] 30)).below hb (by simp))
      have hB1 : Below w.heap.size w w1 := ((Below.refl _ _).alloc (Nat.le_refl _) _).trans (hb.mono (by simp))
      have hl1 : w.heap.size < w1.heap.size := by have := hb.size; simp at this; omega
      clear hb
      go_wp2_with fail
      refine (HDY.out _ hB1.size HG1.out HY1.out).mono ?_
      rintro e w2 ⟨rfl, hb⟩
      have q2 := (hb.cell (p := ⟨w.heap.size, 0, none⟩) hl1).trans q1
      have HG2 := Lib.hid (HG1.out.below hb hB1.size)
      have HX2 := Lib.hid (HX1.out.below hb hB1.size)
      have HY2 := Lib.hid (HY1.out.below hb hB1.size)
      have hB2 := hB1.trans (hb.mono hB1.size)
      have hl2 : w.heap.size < w2.heap.size := Nat.lt_of_lt_of_le hl1 hb.size
      clear hb q1 HG1 HX1 HY1
      go_wp2_with fail
      refine (HMX.out _ hB2.size HG2.out HX2.out).mono ?_
      rintro e w3 ⟨v3, rfl, ho, hb⟩
      obtain ⟨A3, c3, rfl, hI3⟩ := OwnI.at_ ho HL1.out
      have q3 := (hb.cell (p := ⟨w.heap.size, 0, none⟩) hl2).trans q2
      have HI3 := Lib.hid ((hI3.alloc (Nat.le_refl _) (.cells #[.slice A3 n c3] 25)))
      have HG3 := Lib.hid ((HG2.out.below hb hB2.size).alloc (Nat.le_trans hB2.size hb.size) (.cells #[.slice A3 n c3] 25))
      have HY3 := Lib.hid ((HY2.out.below hb hB2.size).alloc (Nat.le_trans hB2.size hb.size) (.cells #[.slice A3 n c3] 25))
      have hB3 := (hB2.trans (hb.mono hB2.size))
      have hl3 : w.heap.size < w3.heap.size := Nat.lt_of_lt_of_le hl2 hb.size
      clear hb q2 HG2 HX2 HY2 ho hI3
      go_wp2_with fail
      refine (HMY.out _ (by simp; omega) HG3.out HY3.out).mono ?_
      rintro e w4 ⟨v4, rfl, ho, hb⟩
      obtain ⟨A4, c4, rfl, hI4⟩ := OwnI.at_ ho HL2.out
      have hl4 : w3.heap.size + 1 ≤ w4.heap.size := by have := hb.size; simpa using this
      have q4 := (hb.cell (p := ⟨w.heap.size, 0, none⟩) (by simp; omega)).trans ((World.cell?_alloc_lt _ _ ⟨w.heap.size, 0, none⟩ hl3).trans q3)
      have p4 : w4.cell? ⟨w3.heap.size, 0, none⟩ = some (.slice A3 n c3) := (hb.cell (p := ⟨w3.heap.size, 0, none⟩) (by simp)).trans (by go_simp)
      have HI4 := Lib.hid (((HI3.out.below hb (by simp)).more (B' := w4.heap.size) (by omega)).alloc (Nat.le_refl _) (.cells #[.slice A4 n c4] 25))
      have HJ4 := Lib.hid (hI4.alloc (Nat.le_refl _) (.cells #[.slice A4 n c4] 25))
      have hB4 := ((hB3.alloc hB3.size (.cells #[.slice A3 n c3] 25)).trans (hb.mono (by simp; omega)))
      have hB5 := Lib.hid (hB4.alloc hB4.size (.cells #[.slice A4 n c4] 25))
      clear hb ho hI4 q3 HG3 HY3 HI3
      have HNW := Lib.hid (impl_nodesWhere2 47 (.pointer (some ⟨w3.heap.size, 0, none⟩)) (.pointer (some ⟨w4.heap.size, 0, none⟩)) (fun i => !(MX.getD i 0 == MY.getD i 0))
        (fun w' => w4.heap.size < w'.heap.size ∧ w'.cell? ⟨w3.heap.size, 0, none⟩ = some (.slice A3 n c3) ∧ w'.cell? ⟨w4.heap.size, 0, none⟩ = some (.slice A4 n c4) ∧ IS w' w'.heap.size A3 MX ∧ IS w' w'.heap.size A4 MY) A n c (by omega)
        (fun wa wb h hb => ⟨Nat.lt_of_lt_of_le h.1 hb.size, (hb.cell (p := ⟨w3.heap.size, 0, none⟩) (by have := h.1; show w3.heap.size < wa.heap.size; omega)).trans h.2.1, (hb.cell (p := ⟨w4.heap.size, 0, none⟩) h.1).trans h.2.2.1, h.2.2.2.1.step hb, h.2.2.2.2.step hb⟩)
        (fun q w => by kernel_rfl)
        (fun q wa hq h => differ_at w3.heap.size w4.heap.size A3 A4 n c3 c4 q MX MY wa HL1.out.symm HL2.out.symm hq h.2.1 h.2.2.1 h.2.2.2.1 h.2.2.2.2)
        (w4.alloc (.cells #[.slice A4 n c4] 25)) ⟨by simp, (World.cell?_alloc_lt _ _ ⟨w3.heap.size, 0, none⟩ (by show w3.heap.size < w4.heap.size; omega)).trans p4, by go_simp, HI4.out.more (by simp), HJ4.out.more (by simp)⟩)
      rw [nwTo_diff] at HNW
      have hlt4 : w.heap.size < w4.heap.size := by omega
      go_wp2_with fail
      refine HNW.out.mono ?_
      rintro e w6 ⟨v, rfl, ho, hb⟩
      go_wp2
      go_ret
      exact ⟨v, by simp, own_mono ho hB5.out.size, hB5.out.trans (hb.mono hB5.out.size)⟩
end Go.Proofs.Ytehlamofancdjaa

namespace Go.Proofs.Ytehlamofancdjaa
set_option linter.unusedSimpArgs false
set_option linter.unusedVariables false
open Go.RowKit
/-- Returns a fresh slice of numbers and a bool, or nothing. -/
theorem RetIB.nil {w w' : World} (hb : Below w.heap.size w w') : RetIB w [] false (.returned (.tuple #[.slice none 0 0, .bool false])) w' := ⟨_, rfl, World.ownsRow_nil _ _ _ _, hb⟩
end Go.Proofs.Ytehlamofancdjaa
