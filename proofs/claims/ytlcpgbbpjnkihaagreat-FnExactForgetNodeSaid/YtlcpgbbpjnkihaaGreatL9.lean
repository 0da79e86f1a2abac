/- Words and contracts for memory that the texts behind use. -/
import Derived.Test.YtlcpgbbpjnkihaaGreatL0
import Derived.Test.YtlcpgbbpjnkihaaGreatL1
import Derived.Test.YtlcpgbbpjnkihaaGreatL2
import Derived.Test.YtlcpgbbpjnkihaaGreatL3
import Derived.Test.YtlcpgbbpjnkihaaGreatL4
import Derived.Test.YtlcpgbbpjnkihaaGreatL5
import Derived.Test.YtlcpgbbpjnkihaaGreatL6
import Derived.Test.YtlcpgbbpjnkihaaGreatL7
import Derived.Test.YtlcpgbbpjnkihaaGreatL8
import Derived.WalkKit
import Derived.Laws.OwnMore
import Derived.Deep.Draws
import Derived.Test.YtlcpgbbpjnkihaaGreatProg
import Derived.WalkSpells
import Derived.WalkLawsBesides
import Derived.Outline
import Derived.Lib.Hide
import Derived.BigQuiet
import Derived.Deep.QuietTactic
import Derived.StillTailTactics
import Derived.Deep.LoopGhost
import Derived.Laws.MakeOwn
import Derived.WalkSmall
import Derived.RegionTactic
import Derived.BigRegion
import Derived.Deep.RegionWith
import Derived.Deep.RegionHeld3
import Derived.Maps.AppendAt
import Derived.Laws.CopyOwn
import Derived.Deep.Cut
import Derived.Laws.Entries
import Derived.Laws.Bits64
import Derived.IntWalk
import Derived.Deep.RegionLaw
import Derived.Deep.AppendLies
import Derived.Deep.DeepCutAuto
import Derived.Maps.Own
import Derived.Maps.Views
import Derived.ChangeAlike

namespace Go.Proofs.YtlcpgbbpjnkihaaGreat
set_option linter.unusedSimpArgs false
set_option linter.unusedVariables false
open Go.RowKit
/-- No part below. -/
def noneB (a b c : Int) : Bool := a == -1 && b == -1 && c == -1
set_option maxHeartbeats 400000 in
theorem impl_inRange (n m : Int) (w : World) :
    Calls Tryz.prog 43 #[.int .i64 n, .int .i64 m] w fun e w' => e = .returned (.bool (rng n 0 m)) ∧ w = w' := by
  go_enter Tryz.func43, Tryz.ntmps43
  go_wp2
  all_goals
    go_ret
    exact ⟨ret_b (by unfold rng; simp; try omega), rfl⟩
set_option maxHeartbeats 800000 in
theorem impl_hasNoneBelow (k a b c n : Int) (w : World) :
    Calls Tryz.prog 122 #[.agg #[.int .i64 k, .int .i64 a, .int .i64 b, .int .i64 c, .int .i64 n]] w fun e w' => e = .returned (.bool (noneB a b c)) ∧ Below w.heap.size w w' := by
  go_enter Tryz.func122, Tryz.ntmps122
  go_wp2
  all_goals
    go_ret
    exact ⟨ret_b (by simp [noneB, *]), (Below.refl _ _).alloc (Nat.le_refl _) _⟩
end Go.Proofs.YtlcpgbbpjnkihaaGreat

namespace Go.Proofs.YtlcpgbbpjnkihaaGreat
set_option linter.unusedSimpArgs false
set_option linter.unusedVariables false
open Go.RowKit
theorem below_bcell {W w1 : World} (hb : Below W.heap.size W w1) : (∀ b o, b < W.heap.size → w1.cell? ⟨b, o, none⟩ = W.cell? ⟨b, o, none⟩) ∧ (∀ b o, b < W.heap.size → w1.frozen? ⟨b, o, none⟩ = W.frozen? ⟨b, o, none⟩) :=
  ⟨fun b o h => hb.cell (p := ⟨b, o, none⟩) h, fun b o h => hb.frozen (p := ⟨b, o, none⟩) h⟩
end Go.Proofs.YtlcpgbbpjnkihaaGreat

namespace Go.Proofs.YtlcpgbbpjnkihaaGreat
set_option linter.unusedSimpArgs false
set_option linter.unusedVariables false
open Go.RowKit
set_option maxHeartbeats 400000 in
theorem impl_allInRange (A : Option Addr) (n c : Nat) (xs : List Int) (hi : Int) (w : World) (B : Nat) (hB : B ≤ w.heap.size) (hn : n = xs.length) (h : IS w B A xs) (hs : n ≤ 2000000) :
    Calls Tryz.prog 57 #[.slice A n c, .int .i64 hi] w fun e w' => e = .returned (.bool (decide (xs.length ≤ 10) && allR xs 0 hi)) ∧ w = w' := by
  by_cases h10 : 10 < n
  · have hf : (decide (xs.length ≤ 10) && allR xs 0 hi) = false := by rw [decide_eq_false (by omega)]; rfl
    rw [hf]
    clear hf hn h
    go_enter Tryz.func57, Tryz.ntmps57
    go_wp2
    go_ret
    exact ⟨rfl, rfl⟩
  have hf : (decide (xs.length ≤ 10) && allR xs 0 hi) = allR xs 0 hi := by rw [decide_eq_true (by omega)]; rfl
  rw [hf]
  have H := Lib.hid h
  have HN := Lib.hid hn
  clear hn h hf
  go_enter Tryz.func57, Tryz.ntmps57
  go_wp2
  go_loop [12] (fun i => ∃ k : Nat, k ≤ n ∧ i = .int .i64 k ∧ Hid (∀ j, j < k → rng (xs.getD j 0) 0 hi = true)) (fun i => n - (intOf i).toNat)
  case atStart => exact ⟨0, Nat.zero_le _, rfl, fun j hj => by omega⟩
  case round =>
    obtain ⟨k, hk, rfl, HA⟩ := hrel
    by_cases hlt : k < n
    · obtain ⟨b, off, rfl, hbB, hc⟩ := H.out (by have := HN.out; omega)
      have c0 := hc k (by have := HN.out; omega)
      clear hc H
      generalize hp : xs.getD k 0 = p at *
      have HP := Lib.hid hp
      clear hp
      cases hr : rng p 0 hi
      · go_wp2_with (go_at_call 43; refine (impl_inRange _ _ _).mono ?_; rintro e w' ⟨rfl, rfl⟩)
        go_ret
        refine ⟨ret_b ?_, rfl⟩
        rw [allR_false xs 0 hi k (by have := HN.out; omega) (by rw [HP.out]; exact hr)]
        try rfl
      · have HR := Lib.hid hr
        go_wp2_with (go_at_call 43; refine (impl_inRange _ _ _).mono ?_; rintro e w' ⟨rfl, rfl⟩)
        go_round
        case rel => exact ⟨k + 1, by omega, by go_num, fun j hj => by
          rcases Nat.lt_or_ge j k with h1 | h1
          · exact HA.out j h1
          · obtain rfl : j = k := by omega
            rw [HP.out]; exact HR.out⟩
        case measure => simp [intOf]; omega
    · go_wp2
      go_ret
      refine ⟨ret_b ?_, rfl⟩
      rw [allR_true xs 0 hi fun j hj => HA.out j (by have := HN.out; omega)]
      try rfl
end Go.Proofs.YtlcpgbbpjnkihaaGreat

namespace Go.Proofs.YtlcpgbbpjnkihaaGreat
set_option linter.unusedSimpArgs false
set_option linter.unusedVariables false
open Go.RowKit
def pbOk (p : Pt) : Bool :=
  if p.k == 0 then noneB p.a p.b p.c && rng p.n 0 99
  else if p.k == 1 then noneB p.a p.b p.c && rng p.n 0 9
  else if ar p.k == 2 then p.c == -1 && p.n == 0
  else if ar p.k == 3 then p.n == 0
  else false
def pbI (p : Pt) : List Int := if p.k == 8 || ar p.k == 2 then bel p else []
/-- Returns a fresh slice of numbers and a bool. -/
def RetIB (w : World) (xs : List Int) (b : Bool) (e : Ending) (w' : World) : Prop := ∃ v, e = .returned (.tuple #[v, .bool b]) ∧ OwnI w' w.heap.size v xs ∧ Below w.heap.size w w'
theorem retIB_lit {w w1 : World} (hb : Below w.heap.size w w1) (xs : List Int) (cs : Array Value) (n : Nat) (hn : n = xs.length) (hm : n ≤ maxLen) (hc : cs.toList = xs.map (Value.int .i64)) (b : Bool) (e : Ending)
    (he : e = .returned (.tuple #[.slice (some ⟨w1.heap.size, 0, none⟩) n n, .bool b])) : RetIB w xs b e (w1.alloc (.cells cs 3)) := by
  subst hn
  refine ⟨_, he, ?_, hb.alloc hb.size _⟩
  have h := World.ownsRow_lit (e := 3) (size := 1) w1 cs xs.length hb.size hm (by rw [← Array.length_toList, hc]; simp)
  rw [hc] at h
  exact h
theorem RetIB.drew {w w' : World} {xs : List Int} {b : Bool} {e : Ending} (h : RetIB w xs b e w') : RetIB w xs b e w'.drew := by
  obtain ⟨v, he, ho, hb⟩ := h
  exact ⟨v, he, ho, hb.drew⟩
theorem retIB_nil {w w1 : World} (hb : Below w.heap.size w w1) (b c : Bool) (hbc : b = c) : RetIB w [] c (.returned (.tuple #[.slice none 0 0, .bool b])) w1 := by
  subst hbc
  exact ⟨_, rfl, World.ownsRow_nil _ _ _ _, hb⟩
theorem below_box {w w1 : World} {o : Obj} (hb : Below (w.alloc o).heap.size (w.alloc o) w1) : Below w.heap.size w w1 :=
  ((Below.refl _ _).alloc (Nat.le_refl _) o).trans (hb.mono (by simp))
set_option maxHeartbeats 1600000 in
theorem impl_partsBelow (p : Pt) (w : World) :
    Calls Tryz.prog 116 #[.agg #[.int .i64 p.k, .int .i64 p.a, .int .i64 p.b, .int .i64 p.c, .int .i64 p.n]] w fun e w' => RetIB w (pbI p) (pbOk p) e w' := by
  obtain ⟨k, a, b, c, n⟩ := p
  have hm : 3 ≤ maxLen := by unfold maxLen; omega
  have HM := Lib.hid hm
  clear hm
  rcases ar_cases k with rfl | rfl | rfl | rfl | rfl | rfl | rfl | rfl | rfl | hk
  · go_enter Tryz.func116, Tryz.ntmps116
    go_wp2_with (first | (go_at_call 43; refine (impl_inRange _ _ _).mono ?_; rintro e w' ⟨rfl, rfl⟩) | (go_at_call 122; refine (impl_hasNoneBelow _ _ _ _ _ _).mono ?_; rintro e w1 ⟨rfl, hb⟩; obtain ⟨hc, hf⟩ := below_bcell hb))
    all_goals
      go_ret2
      exact retIB_nil (below_box hb) _ _ (by simp [pbOk, *])
  · go_enter Tryz.func116, Tryz.ntmps116
    go_wp2_with (first | (go_at_call 43; refine (impl_inRange _ _ _).mono ?_; rintro e w' ⟨rfl, rfl⟩) | (go_at_call 122; refine (impl_hasNoneBelow _ _ _ _ _ _).mono ?_; rintro e w1 ⟨rfl, hb⟩; obtain ⟨hc, hf⟩ := below_bcell hb))
    all_goals
      go_ret2
      exact retIB_nil (below_box hb) _ _ (by simp [pbOk, *])
  · cases hcc : (c == -1)
    all_goals
      go_enter Tryz.func116, Tryz.ntmps116
      go_wp2_with (first | (go_at_call 43; refine (impl_inRange _ _ _).mono ?_; rintro e w' ⟨rfl, rfl⟩) | (go_at_call 122; refine (impl_hasNoneBelow _ _ _ _ _ _).mono ?_; rintro e w1 ⟨rfl, hb⟩; obtain ⟨hc, hf⟩ := below_bcell hb))
      go_region
      all_goals
        go_wp2
        go_ret2
        exact (retIB_lit ((Below.refl _ _).alloc (Nat.le_refl _) _) _ _ 2 rfl (by have := HM.out; omega) rfl _ _ (by simp [pbOk, ar, *])).drew
  · cases hcc : (c == -1)
    all_goals
      go_enter Tryz.func116, Tryz.ntmps116
      go_wp2_with (first | (go_at_call 43; refine (impl_inRange _ _ _).mono ?_; rintro e w' ⟨rfl, rfl⟩) | (go_at_call 122; refine (impl_hasNoneBelow _ _ _ _ _ _).mono ?_; rintro e w1 ⟨rfl, hb⟩; obtain ⟨hc, hf⟩ := below_bcell hb))
      go_region
      all_goals
        go_wp2
        go_ret2
        exact (retIB_lit ((Below.refl _ _).alloc (Nat.le_refl _) _) _ _ 2 rfl (by have := HM.out; omega) rfl _ _ (by simp [pbOk, ar, *])).drew
  · cases hcc : (c == -1)
    all_goals
      go_enter Tryz.func116, Tryz.ntmps116
      go_wp2_with (first | (go_at_call 43; refine (impl_inRange _ _ _).mono ?_; rintro e w' ⟨rfl, rfl⟩) | (go_at_call 122; refine (impl_hasNoneBelow _ _ _ _ _ _).mono ?_; rintro e w1 ⟨rfl, hb⟩; obtain ⟨hc, hf⟩ := below_bcell hb))
      go_region
      all_goals
        go_wp2
        go_ret2
        exact (retIB_lit ((Below.refl _ _).alloc (Nat.le_refl _) _) _ _ 2 rfl (by have := HM.out; omega) rfl _ _ (by simp [pbOk, ar, *])).drew
  · cases hcc : (c == -1)
    all_goals
      go_enter Tryz.func116, Tryz.ntmps116
      go_wp2_with (first | (go_at_call 43; refine (impl_inRange _ _ _).mono ?_; rintro e w' ⟨rfl, rfl⟩) | (go_at_call 122; refine (impl_hasNoneBelow _ _ _ _ _ _).mono ?_; rintro e w1 ⟨rfl, hb⟩; obtain ⟨hc, hf⟩ := below_bcell hb))
      go_region
      all_goals
        go_wp2
        go_ret2
        exact (retIB_lit ((Below.refl _ _).alloc (Nat.le_refl _) _) _ _ 2 rfl (by have := HM.out; omega) rfl _ _ (by simp [pbOk, ar, *])).drew
  · cases hcc : (c == -1)
    all_goals
      go_enter Tryz.func116, Tryz.ntmps116
      go_wp2_with (first | (go_at_call 43; refine (impl_inRange _ _ _).mono ?_; rintro e w' ⟨rfl, rfl⟩) | (go_at_call 122; refine (impl_hasNoneBelow _ _ _ _ _ _).mono ?_; rintro e w1 ⟨rfl, hb⟩; obtain ⟨hc, hf⟩ := below_bcell hb))
      go_region
      all_goals
        go_wp2
        go_ret2
        exact (retIB_lit ((Below.refl _ _).alloc (Nat.le_refl _) _) _ _ 2 rfl (by have := HM.out; omega) rfl _ _ (by simp [pbOk, ar, *])).drew
  · cases hcc : (c == -1)
    all_goals
      go_enter Tryz.func116, Tryz.ntmps116
      go_wp2_with (first | (go_at_call 43; refine (impl_inRange _ _ _).mono ?_; rintro e w' ⟨rfl, rfl⟩) | (go_at_call 122; refine (impl_hasNoneBelow _ _ _ _ _ _).mono ?_; rintro e w1 ⟨rfl, hb⟩; obtain ⟨hc, hf⟩ := below_bcell hb))
      go_region
      all_goals
        go_wp2
        go_ret2
        exact (retIB_lit ((Below.refl _ _).alloc (Nat.le_refl _) _) _ _ 2 rfl (by have := HM.out; omega) rfl _ _ (by simp [pbOk, ar, *])).drew
  · go_enter Tryz.func116, Tryz.ntmps116
    go_wp2_with (first | (go_at_call 43; refine (impl_inRange _ _ _).mono ?_; rintro e w' ⟨rfl, rfl⟩) | (go_at_call 122; refine (impl_hasNoneBelow _ _ _ _ _ _).mono ?_; rintro e w1 ⟨rfl, hb⟩; obtain ⟨hc, hf⟩ := below_bcell hb))
    go_region
    all_goals
      go_wp2
      go_ret2
      exact (retIB_lit ((Below.refl _ _).alloc (Nat.le_refl _) _) _ _ 3 rfl (by have := HM.out; omega) rfl _ _ (by simp [pbOk, ar, *])).drew
  · have k0 : (k == 0) = false := by simp; omega
    have k1 : (k == 1) = false := by simp; omega
    have k2 : (k == 2) = false := by simp; omega
    have k3 : (k == 3) = false := by simp; omega
    have k4 : (k == 4) = false := by simp; omega
    have k5 : (k == 5) = false := by simp; omega
    have k6 : (k == 6) = false := by simp; omega
    have k7 : (k == 7) = false := by simp; omega
    have k8 : (k == 8) = false := by simp; omega
    have ha : ar k = -1 := by unfold ar; rw [if_neg (by omega), if_neg (by omega), if_neg (by omega)]
    have H1 : pbI ⟨k, a, b, c, n⟩ = [] := by simp [pbI, k8, ha]
    have H2 : pbOk ⟨k, a, b, c, n⟩ = false := by simp [pbOk, k0, k1, ha]
    rw [H1, H2]
    clear ha H1 H2 hk
    go_enter Tryz.func116, Tryz.ntmps116
    go_wp2_with (first | (go_at_call 43; refine (impl_inRange _ _ _).mono ?_; rintro e w' ⟨rfl, rfl⟩) | (go_at_call 122; refine (impl_hasNoneBelow _ _ _ _ _ _).mono ?_; rintro e w1 ⟨rfl, hb⟩; obtain ⟨hc, hf⟩ := below_bcell hb))
    go_ret2
    exact retIB_nil ((Below.refl _ _).alloc (Nat.le_refl _) _) _ _ rfl
end Go.Proofs.YtlcpgbbpjnkihaaGreat

namespace Go.Proofs.YtlcpgbbpjnkihaaGreat
set_option linter.unusedSimpArgs false
set_option linter.unusedVariables false
open Go.RowKit
theorem pbI_bel (p : Pt) : pbI p = bel p := by
  unfold pbI
  by_cases h8 : p.k = 8
  · simp [h8]
  · by_cases h2 : ar p.k = 2
    · simp [h2]
    · have h3 : ar p.k ≠ 3 := by
        unfold ar at h2 ⊢
        split
        · omega
        · split
          · omega
          · simp
      simp [h8, h2, bel, h3]
theorem good_iff (p : Pt) (i : Int) : goodPt p i = (pbOk p && decide (∀ b ∈ bel p, 0 ≤ b ∧ b ≤ i - 1)) := by
  by_cases h0 : p.k = 0
  · have : ar p.k = 0 := by simp [ar, h0]
    simp [goodPt, pbOk, h0, this, bel, noneB, ar]
  · by_cases h1 : p.k = 1
    · have : ar p.k = 0 := by simp [ar, h1]
      simp [goodPt, pbOk, h1, this, bel, noneB, ar]
    · have hn : ar p.k ≠ 0 := by
        unfold ar
        split
        · omega
        · split
          · omega
          · split <;> omega
      by_cases h2 : ar p.k = 2
      · simp [goodPt, pbOk, h0, h1, h2, bel, rng]
        rw [Bool.eq_iff_iff]
        simp
        constructor
        · rintro ⟨⟨⟨⟨a1, a2⟩, b1, b2⟩, c⟩, d⟩; exact ⟨⟨c, d⟩, ⟨a1, a2⟩, b1, b2⟩
        · rintro ⟨⟨c, d⟩, ⟨a1, a2⟩, b1, b2⟩; exact ⟨⟨⟨⟨a1, a2⟩, b1, b2⟩, c⟩, d⟩
      · by_cases h3 : ar p.k = 3
        · simp [goodPt, pbOk, h0, h1, h3, bel, rng]
          rw [Bool.eq_iff_iff]
          simp
          constructor
          · rintro ⟨⟨⟨⟨a1, a2⟩, b1, b2⟩, c1, c2⟩, d⟩; exact ⟨d, ⟨a1, a2⟩, ⟨b1, b2⟩, c1, c2⟩
          · rintro ⟨d, ⟨a1, a2⟩, ⟨b1, b2⟩, c1, c2⟩; exact ⟨⟨⟨⟨a1, a2⟩, b1, b2⟩, c1, c2⟩, d⟩
        · simp [goodPt, pbOk, h0, h1, h2, h3, hn]
theorem marks_fin (L : List Int) (m : Nat) (hn : L.Nodup) (h : ∀ x ∈ L, 0 ≤ x ∧ x < (m : Int)) : L.length = m ↔ ∀ i, i < m → L.count (i : Int) = 1 := by
  have h1 := sum_ones (fun i : Nat => L.count (i : Int)) m fun i _ => by
    exact List.nodup_iff_count.1 hn _
  rw [← sum_counts L m h]
  exact h1.2
theorem validF_dup (ps : List Pt) (k m : Nat) (h : k < ps.length) (hm : m < (bel (ps.getD k default)).length) (t : Nat) (ht : (bel (ps.getD k default)).getD m 0 = (t : Int)) (htk : t < k)
    (hin : (t : Int) ∈ (ps.take k).flatMap bel ++ (bel (ps.getD k default)).take m) : validF ps = false := by
  refine validF_cnt ps t (by omega) ?_
  have hsplit : ps = ps.take (k + 1) ++ ps.drop (k + 1) := (List.take_append_drop _ _).symm
  have h1 : (ps.flatMap bel).count (t : Int) = ((ps.take (k + 1)).flatMap bel).count (t : Int) + ((ps.drop (k + 1)).flatMap bel).count (t : Int) := by
    conv => lhs; rw [hsplit]
    rw [List.flatMap_append, List.count_append]
  have h2 := take_flat ps k h
  have h3 : bel (ps.getD k default) = (bel (ps.getD k default)).take m ++ (bel (ps.getD k default)).drop m := (List.take_append_drop _ _).symm
  have h4 : (t : Int) ∈ (bel (ps.getD k default)).drop m := by
    rw [List.drop_eq_getElem_cons hm]
    refine List.mem_cons.2 (.inl ?_)
    rw [← ht]
    generalize bel (ps.getD k default) = M at *
    simp [List.getD, hm]
  have h5 : ((ps.take (k + 1)).flatMap bel).count (t : Int) = ((ps.take k).flatMap bel ++ (bel (ps.getD k default)).take m).count (t : Int) + ((bel (ps.getD k default)).drop m).count (t : Int) := by
    rw [h2]
    conv => lhs; rw [h3]
    rw [← List.append_assoc, List.count_append]
  have h6 := List.count_pos_iff.2 hin
  have h7 := List.count_pos_iff.2 h4
  omega
/-- With good parts and no number twice: valid exactly if there are as many below as there are parts but one. -/
theorem validF_marks (ps : List Pt) (h1 : 1 ≤ ps.length) (h12 : ps.length ≤ 12) (hg : ∀ i, i < ps.length → goodPt (ps.getD i default) i = true) (hd : (ps.flatMap bel).Nodup) :
    validF ps = ((((ps.flatMap bel).length : Nat) : Int) == (ps.length : Int) - 1) := by
  have hr : ∀ x ∈ ps.flatMap bel, 0 ≤ x ∧ x < ((ps.length - 1 : Nat) : Int) := by
    intro x hx
    obtain ⟨p, hp, hxp⟩ := List.mem_flatMap.1 hx
    obtain ⟨i, hi, rfl⟩ := List.mem_iff_getElem.1 hp
    have := hg i hi
    rw [show ps.getD i default = ps[i] by simp [List.getD, hi]] at this
    have := good_bel _ _ this x hxp
    omega
  have hm := marks_fin _ _ hd hr
  have hrng : rng ps.length 1 12 = true := by simp [rng]; omega
  have hgd : decide (∀ i, i < ps.length → goodPt (ps.getD i default) i = true) = true := decide_eq_true hg
  unfold validF
  rw [hgd, hrng, Bool.eq_iff_iff]
  simp only [Bool.true_and, Bool.and_true, decide_eq_true_eq, beq_iff_eq]
  rw [← hm]
  omega
end Go.Proofs.YtlcpgbbpjnkihaaGreat

namespace Go.Proofs.YtlcpgbbpjnkihaaGreat
set_option linter.unusedSimpArgs false
set_option linter.unusedVariables false
open Go.RowKit
def Tm.val : Tm → Value
  | .num v => .iface 149 (.agg #[.int .i64 v])
  | .rd v => .iface 151 (.agg #[.int .i64 v])
  | .pr k l r => .iface 153 (.agg #[.int .i64 k, l.val, r.val])
  | .ch t a b => .iface 155 (.agg #[t.val, a.val, b.val])
theorem Tm.val_form (t : Tm) : ∃ T x, t.val = .iface T x := by
  cases t <;> exact ⟨_, _, rfl⟩
/-- Returns a term. -/
def RetT (w : World) (t : Tm) (e : Ending) (w' : World) : Prop := ∃ T x, e = .returned (.iface T x) ∧ Tm.val t = .iface T x ∧ Below w.heap.size w w'
set_option maxRecDepth 100000 in
set_option maxHeartbeats 3200000 in
theorem impl_termAt (A : Option Addr) (n c : Nat) (ps : List Pt) (B : Nat) (hn : n = ps.length) (hg : AllGood ps) (hs : n ≤ 2000000) (f : Nat) :
    ∀ (i : Nat) (w : World), i < f → i < n → B ≤ w.heap.size → PS w B A ps →
    Calls Tryz.prog 121 #[.slice A n c, .int .i64 i] w fun e w' => RetT w (tmAt ps f i) e w' := by
  induction f with
  | zero => intro i w hi; omega
  | succ f ih =>
    intro i w hif hin hB h
    obtain ⟨b, off, rfl, hbB, hc⟩ := h (by omega)
    obtain ⟨c0, c1, c2, c3, c4⟩ := hc i (by omega)
    clear hc
    have hgi := hg i (by omega)
    have H := Lib.hid h
    have IH := Lib.hid ih
    have HG := Lib.hid hg
    have HN := Lib.hid hn
    clear h ih hg hn
    generalize hp : ps.getD i default = p at *
    have HP := Lib.hid hp
    clear hp
    rcases good_kind p i hgi with h0 | h1 | h2 | h8
    · have k0 : (p.k == 0) = true := by simp [h0]
      have hr : tmAt ps (f + 1) i = .num p.n := by simp only [tmAt, HP.out, k0, if_true]
      rw [hr]
      clear hr h0 hgi
      go_enter Tryz.func121, Tryz.ntmps121
      go_wp2
      go_ret
      exact ⟨_, _, rfl, rfl, (Below.refl _ _).alloc (Nat.le_refl _) _⟩
    · have k0 : (p.k == 0) = false := by simp [h1]
      have k1 : (p.k == 1) = true := by simp [h1]
      have hr : tmAt ps (f + 1) i = .rd p.n := by simp only [tmAt, HP.out, k0, k1, if_true, if_false, Bool.false_eq_true]
      rw [hr]
      clear hr h1 hgi
      go_enter Tryz.func121, Tryz.ntmps121
      go_wp2
      go_ret
      exact ⟨_, _, rfl, rfl, (Below.refl _ _).alloc (Nat.le_refl _) _⟩
    · have k0 : (p.k == 0) = false := by simp; omega
      have k1 : (p.k == 1) = false := by simp; omega
      have k8 : (p.k == 8) = false := by simp; omega
      have hr : tmAt ps (f + 1) i = .pr p.k (tmAt ps f p.a.toNat) (tmAt ps f p.b.toNat) := by simp only [tmAt, HP.out, k0, k1, k8, if_false, Bool.false_eq_true]
      rw [hr]
      obtain ⟨ta, tb, ea, eb, la, lb⟩ := (good_bel_nat p i hgi).1 h2
      rw [ea, eb]
      rw [ea] at c1
      rw [eb] at c2
      simp only [Int.toNat_natCast]
      clear hr h2 hgi ea eb
      go_enter Tryz.func121, Tryz.ntmps121
      go_wp2_with fail
      have q0 : (w.alloc (.cells #[.int .i64 p.k, .int .i64 ta, .int .i64 tb, .int .i64 p.c, .int .i64 p.n] 120)).cell? ⟨w.heap.size, 0, none⟩ = some (.int .i64 p.k) := by go_simp
      have q1 : (w.alloc (.cells #[.int .i64 p.k, .int .i64 ta, .int .i64 tb, .int .i64 p.c, .int .i64 p.n] 120)).cell? ⟨w.heap.size, 1, none⟩ = some (.int .i64 ta) := by go_simp
      have q2 : (w.alloc (.cells #[.int .i64 p.k, .int .i64 ta, .int .i64 tb, .int .i64 p.c, .int .i64 p.n] 120)).cell? ⟨w.heap.size, 2, none⟩ = some (.int .i64 tb) := by go_simp
      have hB0 := (Below.refl w.heap.size w).alloc (Nat.le_refl _) (.cells #[.int .i64 p.k, .int .i64 ta, .int .i64 tb, .int .i64 p.c, .int .i64 p.n] 120)
      have hz : w.heap.size < (w.alloc (.cells #[.int .i64 p.k, .int .i64 ta, .int .i64 tb, .int .i64 p.c, .int .i64 p.n] 120)).heap.size := by simp
      have HW := Lib.hid (H.out.alloc hB (.cells #[.int .i64 p.k, .int .i64 ta, .int .i64 tb, .int .i64 p.c, .int .i64 p.n] 120))
      clear c0 c1 c2 c3 c4 H
      generalize w.alloc (.cells #[.int .i64 p.k, .int .i64 ta, .int .i64 tb, .int .i64 p.c, .int .i64 p.n] 120) = W at *
      go_region_held3 (fun w' => w'.cell? ⟨w.heap.size, 0, none⟩ = some (.int .i64 p.k) ∧ w'.cell? ⟨w.heap.size, 1, none⟩ = some (.int .i64 ta) ∧ w'.cell? ⟨w.heap.size, 2, none⟩ = some (.int .i64 tb)) (first | exact ⟨q0, q1, q2⟩ | exact ⟨q0', q1', q2'⟩ | exact ⟨q0'', q1'', q2''⟩)
        (first
          | (go_at_call_of 121 (Value.int IntKind.i64 ta); refine (IH.out ta _ (by omega) (by omega) ?_ ?_).mono ?_; (have := hB; show B ≤ W.heap.size; omega); exact HW.out; rintro e w1 ⟨T1, x1, rfl, hT1, hb1'⟩; have hb1 : Below W.heap.size W w1 := below_of_drew hb1'; have HT1 := Lib.hid hT1; clear hT1 hb1'; have q0' := (hb1.cell (p := ⟨w.heap.size, 0, none⟩) hz).trans q0; have q1' := (hb1.cell (p := ⟨w.heap.size, 1, none⟩) hz).trans q1; have q2' := (hb1.cell (p := ⟨w.heap.size, 2, none⟩) hz).trans q2)
          | (go_at_call_of 121 (Value.int IntKind.i64 tb); refine (IH.out tb _ (by omega) (by omega) ?_ ?_).mono ?_; (have := hb1.size; omega); exact HW.out.below hb1 (by omega); rintro e w2 ⟨T2, x2, rfl, hT2, hb2⟩; have HT2 := Lib.hid hT2; clear hT2; have q0'' := (hb2.cell (p := ⟨w.heap.size, 0, none⟩) (by have := hb1.size; show w.heap.size < w1.heap.size; omega)).trans q0'; have q1'' := (hb2.cell (p := ⟨w.heap.size, 1, none⟩) (by have := hb1.size; show w.heap.size < w1.heap.size; omega)).trans q1'; have q2'' := (hb2.cell (p := ⟨w.heap.size, 2, none⟩) (by have := hb1.size; show w.heap.size < w1.heap.size; omega)).trans q2'))
      go_wp2
      go_ret
      refine ⟨_, _, rfl, ?_, hB0.trans ((hb1.trans (hb2.mono hb1.size)).mono (by omega))⟩
      have e1 := HT1.out
      have e2 := HT2.out
      simp [Tm.val, e1, e2]
    · have k0 : (p.k == 0) = false := by simp; omega
      have k1 : (p.k == 1) = false := by simp; omega
      have k8 : (p.k == 8) = true := by simp; omega
      have hr : tmAt ps (f + 1) i = .ch (tmAt ps f p.a.toNat) (tmAt ps f p.b.toNat) (tmAt ps f p.c.toNat) := by simp only [tmAt, HP.out, k0, k1, k8, if_true, if_false, Bool.false_eq_true]
      rw [hr]
      obtain ⟨ta, tb, tc, ea, eb, ec, la, lb, lc⟩ := (good_bel_nat p i hgi).2 h8
      rw [ea, eb, ec]
      rw [ea] at c1
      rw [eb] at c2
      rw [ec] at c3
      simp only [Int.toNat_natCast]
      clear hr h8 hgi ea eb ec
      go_enter Tryz.func121, Tryz.ntmps121
      go_wp2_with fail
      have q1 : (w.alloc (.cells #[.int .i64 p.k, .int .i64 ta, .int .i64 tb, .int .i64 tc, .int .i64 p.n] 120)).cell? ⟨w.heap.size, 1, none⟩ = some (.int .i64 ta) := by go_simp
      have q2 : (w.alloc (.cells #[.int .i64 p.k, .int .i64 ta, .int .i64 tb, .int .i64 tc, .int .i64 p.n] 120)).cell? ⟨w.heap.size, 2, none⟩ = some (.int .i64 tb) := by go_simp
      have q3 : (w.alloc (.cells #[.int .i64 p.k, .int .i64 ta, .int .i64 tb, .int .i64 tc, .int .i64 p.n] 120)).cell? ⟨w.heap.size, 3, none⟩ = some (.int .i64 tc) := by go_simp
      have hB0 := (Below.refl w.heap.size w).alloc (Nat.le_refl _) (.cells #[.int .i64 p.k, .int .i64 ta, .int .i64 tb, .int .i64 tc, .int .i64 p.n] 120)
      have hz : w.heap.size < (w.alloc (.cells #[.int .i64 p.k, .int .i64 ta, .int .i64 tb, .int .i64 tc, .int .i64 p.n] 120)).heap.size := by simp
      have HW := Lib.hid (H.out.alloc hB (.cells #[.int .i64 p.k, .int .i64 ta, .int .i64 tb, .int .i64 tc, .int .i64 p.n] 120))
      clear c0 c1 c2 c3 c4 H
      generalize w.alloc (.cells #[.int .i64 p.k, .int .i64 ta, .int .i64 tb, .int .i64 tc, .int .i64 p.n] 120) = W at *
      go_region_held3 (fun w' => w'.cell? ⟨w.heap.size, 1, none⟩ = some (.int .i64 ta) ∧ w'.cell? ⟨w.heap.size, 2, none⟩ = some (.int .i64 tb) ∧ w'.cell? ⟨w.heap.size, 3, none⟩ = some (.int .i64 tc)) (first | exact ⟨q1, q2, q3⟩ | exact ⟨q1', q2', q3'⟩ | exact ⟨q1'', q2'', q3''⟩ | exact ⟨q1''', q2''', q3'''⟩)
        (first
          | (go_at_call_of 121 (Value.int IntKind.i64 ta); refine (IH.out ta _ (by omega) (by omega) ?_ ?_).mono ?_; (have := hB; show B ≤ W.heap.size; omega); exact HW.out; rintro e w1 ⟨T1, x1, rfl, hT1, hb1'⟩; have hb1 : Below W.heap.size W w1 := below_of_drew hb1'; have HT1 := Lib.hid hT1; clear hT1 hb1'; have hz1 : w.heap.size < w1.heap.size := Nat.lt_of_lt_of_le hz hb1.size; have HW1 := Lib.hid (HW.out.below hb1 (by omega)); have q1' := (hb1.cell (p := ⟨w.heap.size, 1, none⟩) hz).trans q1; have q2' := (hb1.cell (p := ⟨w.heap.size, 2, none⟩) hz).trans q2; have q3' := (hb1.cell (p := ⟨w.heap.size, 3, none⟩) hz).trans q3)
          | (go_at_call_of 121 (Value.int IntKind.i64 tb); refine (IH.out tb _ (by omega) (by omega) ?_ ?_).mono ?_; (omega); exact HW1.out; rintro e w2 ⟨T2, x2, rfl, hT2, hb2⟩; have HT2 := Lib.hid hT2; clear hT2; have hz2 : w.heap.size < w2.heap.size := Nat.lt_of_lt_of_le hz1 hb2.size; have HW2 := Lib.hid (HW1.out.below hb2 (by omega)); have q1'' := (hb2.cell (p := ⟨w.heap.size, 1, none⟩) (by first | exact hz | (have := hz1; show w.heap.size < w1.heap.size; omega))).trans q1'; have q2'' := (hb2.cell (p := ⟨w.heap.size, 2, none⟩) (by first | exact hz | (have := hz1; show w.heap.size < w1.heap.size; omega))).trans q2'; have q3'' := (hb2.cell (p := ⟨w.heap.size, 3, none⟩) (by first | exact hz | (have := hz1; show w.heap.size < w1.heap.size; omega))).trans q3')
          | (go_at_call_of 121 (Value.int IntKind.i64 tc); refine (IH.out tc _ (by omega) (by omega) ?_ ?_).mono ?_; (omega); exact HW2.out; rintro e w3 ⟨T3, x3, rfl, hT3, hb3⟩; have HT3 := Lib.hid hT3; clear hT3; have hz3 : w.heap.size < w3.heap.size := Nat.lt_of_lt_of_le hz2 hb3.size; have HW3 := Lib.hid (HW2.out.below hb3 (by omega)); have q1''' := (hb3.cell (p := ⟨w.heap.size, 1, none⟩) (by first | exact hz | (have := hz2; show w.heap.size < w2.heap.size; omega))).trans q1''; have q2''' := (hb3.cell (p := ⟨w.heap.size, 2, none⟩) (by first | exact hz | (have := hz2; show w.heap.size < w2.heap.size; omega))).trans q2''; have q3''' := (hb3.cell (p := ⟨w.heap.size, 3, none⟩) (by first | exact hz | (have := hz2; show w.heap.size < w2.heap.size; omega))).trans q3''))
      go_wp2
      go_ret
      refine ⟨_, _, rfl, ?_, hB0.trans ((hb1.trans ((hb2.trans (hb3.mono hb2.size)).mono hb1.size)).mono (by omega))⟩
      have e1 := HT1.out
      have e2 := HT2.out
      have e3 := HT3.out
      simp [Tm.val, e1, e2, e3]
end Go.Proofs.YtlcpgbbpjnkihaaGreat

namespace Go.Proofs.YtlcpgbbpjnkihaaGreat
set_option linter.unusedSimpArgs false
set_option linter.unusedVariables false
open Go.RowKit
/-- Twelve marks: which numbers stand in the list. -/
def Mrk (w : World) (g : Nat) (L : List Int) : Prop :=
  g < w.heap.size ∧ ∀ t : Nat, t < 12 → w.cell? ⟨g, t, none⟩ = some (.bool (decide ((t : Int) ∈ L))) ∧ w.frozen? ⟨g, t, none⟩ = false
theorem Mrk.below {w w' : World} {g : Nat} {L : List Int} (h : Mrk w g L) (hb : Below w.heap.size w w') : Mrk w' g L :=
  ⟨Nat.lt_of_lt_of_le h.1 hb.size, fun t ht => ⟨(hb.cell (p := ⟨g, t, none⟩) h.1).trans (h.2 t ht).1, (hb.frozen (p := ⟨g, t, none⟩) h.1).trans (h.2 t ht).2⟩⟩
theorem Mrk.set {w : World} {g : Nat} {L : List Int} (h : Mrk w g L) (t : Nat) (ht : t < 12) : Mrk (w.setCell ⟨g, t, none⟩ (.bool true)) g (L ++ [(t : Int)]) := by
  refine ⟨by simpa [World.setCell] using h.1, fun j hj => ?_⟩
  obtain ⟨h1, h2⟩ := h.2 j hj
  by_cases e : j = t
  · subst e
    refine ⟨?_, by simpa using h2⟩
    rw [World.cell?_setCell_same _ _ _ h1]; try simp
  · refine ⟨?_, by simpa using h2⟩
    rw [World.cell?_setCell_other _ _ _ _ (by intro e'; simp at e'; try omega), h1]
    have : ((j : Int) = (t : Int)) = False := by simp; omega
    simp [this]
set_option maxRecDepth 100000 in
set_option maxHeartbeats 1600000 in
theorem impl_ValidFormula (A : Option Addr) (n c : Nat) (ps : List Pt) (w : World) (B : Nat) (hB : B ≤ w.heap.size) (hn : n = ps.length) (h : PS w B A ps) (hs : n ≤ 2000000) :
    Calls Tryz.prog 106 #[.agg #[.slice A n c]] w fun e w' => e = .returned (.bool (validF ps)) ∧ Below w.heap.size w w' := by
  by_cases h1 : n < 1
  · have hf : validF ps = false := by
      unfold validF rng
      have : ¬ (1 ≤ (ps.length : Int) ∧ (ps.length : Int) ≤ 12) := by omega
      simp [this]
    rw [hf]
    clear hn h hf
    go_enter Tryz.func106, Tryz.ntmps106
    go_wp2
    go_ret
    exact ⟨rfl, (Below.refl _ _).alloc (Nat.le_refl _) _⟩
  by_cases h12 : 12 < n
  · have hf : validF ps = false := by
      unfold validF rng
      have : ¬ (1 ≤ (ps.length : Int) ∧ (ps.length : Int) ≤ 12) := by omega
      simp [this]
    rw [hf]
    clear hn h hf
    go_enter Tryz.func106, Tryz.ntmps106
    go_wp2
    go_ret
    exact ⟨rfl, (Below.refl _ _).alloc (Nat.le_refl _) _⟩
  have H := Lib.hid h
  have HN := Lib.hid hn
  clear hn h
  go_enter Tryz.func106, Tryz.ntmps106
  go_wp2
  go_loopw [24, 4] (fun i u wr => ∃ k : Nat, k ≤ n ∧ i = .int .i64 k ∧ u = .int .i64 (((ps.take k).flatMap bel).length : Nat) ∧ Hid (Mrk wr (w.heap.size + 1) ((ps.take k).flatMap bel)) ∧ Hid (((ps.take k).flatMap bel).Nodup) ∧ Hid (∀ j, j < k → goodPt (ps.getD j default) j = true) ∧ Below (w.heap.size + 1) (w.alloc (.cells #[.slice A n c] 77)) wr) (fun i _ _ => n - (intOf i).toNat)
  case atStart =>
    refine ⟨0, Nat.zero_le _, rfl, rfl, ⟨by simp, fun t ht => ?_⟩, List.nodup_nil, by intro j hj; omega, (Below.refl _ _).alloc (by simp) _⟩
    have ht' : t = 0 ∨ t = 1 ∨ t = 2 ∨ t = 3 ∨ t = 4 ∨ t = 5 ∨ t = 6 ∨ t = 7 ∨ t = 8 ∨ t = 9 ∨ t = 10 ∨ t = 11 := by omega
    rcases ht' with rfl | rfl | rfl | rfl | rfl | rfl | rfl | rfl | rfl | rfl | rfl | rfl <;> exact ⟨by go_simp, by go_simp⟩
  case round =>
    obtain ⟨k, hk, rfl, rfl, HM, HD, HG, hb⟩ := hrel
    have hbox : wr.cell? ⟨w.heap.size, 0, none⟩ = some (.slice A n c) := (hb.cell (p := ⟨w.heap.size, 0, none⟩) (by simp)).trans (by go_simp)
    have hgs : w.heap.size + 1 < wr.heap.size := HM.out.1
    have hfl : ((ps.take k).flatMap bel).length ≤ 36 := by
      have h2 := flat_len (ps.take k)
      have h3 : (ps.take k).length ≤ k := List.length_take_le _ _
      omega
    by_cases hlt : k < n
    · obtain ⟨b, off, rfl, hbB, hc⟩ := H.out (by have := HN.out; omega)
      obtain ⟨c0, c1, c2, c3, c4⟩ := hc k (by have := HN.out; omega)
      clear hc
      have hbw : b < w.heap.size := by omega
      have hbr : b < wr.heap.size := by omega
      have b0 := ((hb.cell (p := ⟨b, off + k * 5, none⟩) (by simp; omega)).trans (World.cell?_alloc_lt _ _ _ (by simpa using hbw))).trans c0
      have b1 := ((hb.cell (p := ⟨b, off + k * 5 + 1, none⟩) (by simp; omega)).trans (World.cell?_alloc_lt _ _ _ (by simpa using hbw))).trans c1
      have b2 := ((hb.cell (p := ⟨b, off + k * 5 + 2, none⟩) (by simp; omega)).trans (World.cell?_alloc_lt _ _ _ (by simpa using hbw))).trans c2
      have b3 := ((hb.cell (p := ⟨b, off + k * 5 + 3, none⟩) (by simp; omega)).trans (World.cell?_alloc_lt _ _ _ (by simpa using hbw))).trans c3
      have b4 := ((hb.cell (p := ⟨b, off + k * 5 + 4, none⟩) (by simp; omega)).trans (World.cell?_alloc_lt _ _ _ (by simpa using hbw))).trans c4
      clear c0 c1 c2 c3 c4 H
      generalize hp : ps.getD k default = p at *
      have HP := Lib.hid hp
      clear hp
      generalize hF : (ps.take k).flatMap bel = Fk at *
      have HF := Lib.hid hF
      clear hF
      go_wp2_with fail
      refine (impl_partsBelow p _).mono ?_
      rintro e w2 ⟨v, rfl, hown, hb2⟩
      obtain ⟨A2, c2, rfl, hI⟩ := hown.form
      clear hI
      rw [pbI_bel] at hown ⊢
      have HO := Lib.hid hown
      have HM2 : Hid (Mrk w2 (w.heap.size + 1) (Fk ++ (bel p).take 0)) := by
        have := (HM.out.below ((Below.refl _ _).alloc (Nat.le_refl _) _)).below hb2
        simpa [Hid] using this
      have hbw2 := (hb.alloc (by omega) _).trans (hb2.mono (by simp; omega))
      clear hown HM hb b0 b1 b2 b3 b4
      cases hok : pbOk p
      · go_wp2
        go_ret
        refine ⟨ret_b ?_, ((Below.refl _ _).alloc (Nat.le_refl _) _).trans (hbw2.mono (by omega))⟩
        have hgf : goodPt p k = false := by rw [good_iff, hok]; rfl
        simp [validF_bad ps k (by have := HN.out; omega) (by rw [HP.out]; exact hgf)]
      · have HOK := Lib.hid hok
        clear hok
        generalize hL : (bel p).length = L at *
        have HL := Lib.hid hL
        have hL3 : L ≤ 3 := by rw [← hL]; exact bel_len p
        clear hL hbox
        go_wp2
        go_loopw [38, 4] (fun i u wi => ∃ m : Nat, m ≤ L ∧ i = .int .i64 m ∧ u = .int .i64 ((Fk.length + m : Nat)) ∧ Hid (Mrk wi (w.heap.size + 1) (Fk ++ (bel p).take m)) ∧ Hid ((Fk ++ (bel p).take m).Nodup) ∧ Hid (∀ x ∈ (bel p).take m, 0 ≤ x ∧ x ≤ (k : Int) - 1) ∧ Hid (wi.ownsRow (wr.heap.size + 1) 3 1 (.slice A2 L c2) L ((bel p).map (Value.int .i64))) ∧ Hid (Below (w.heap.size + 1) w2 wi)) (fun i _ _ => L - (intOf i).toNat)
        case atStart => exact ⟨0, Nat.zero_le _, rfl, rfl, HM2.out, by simpa [Hid] using HD.out, by simp [Hid], by have := HO.out; simp only [OwnI, World.size_alloc] at this; rw [HL.out] at this; exact this, Below.refl _ _⟩
        case round =>
          clear HM2 HO
          obtain ⟨m, hm, rfl, rfl, HM, HD2, HR, HO, HB⟩ := hrel
          by_cases hml : m < L
          · obtain ⟨b2, off2, rfl, hb2', hc2⟩ := (IS.of_own HO.out) (by have := HL.out; omega)
            have hx := hc2 m (by have := HL.out; omega)
            clear hc2
            generalize hxx : (bel p).getD m 0 = x at *
            have HX := Lib.hid hxx
            clear hxx
            cases hr : rng x 0 ((k : Int) - 1)
            · go_wp2_with (go_at_call 43; refine (impl_inRange _ _ _).mono ?_; rintro e w' ⟨rfl, rfl⟩)
              go_ret
              refine ⟨ret_b ?_, ((Below.refl _ _).alloc (Nat.le_refl _) _).trans ((hbw2.trans HB.out).mono (by omega))⟩
              have hgf : goodPt p k = false := by
                cases hgg : goodPt p k
                · rfl
                · have := good_bel p k hgg x (by rw [← HX.out]; simp [List.getD, show m < (bel p).length by have := HL.out; omega])
                  simp [rng] at hr
                  omega
              simp [validF_bad ps k (by have := HN.out; omega) (by rw [HP.out]; exact hgf)]
            · obtain ⟨t, rfl⟩ : ∃ t : Nat, x = (t : Int) := ⟨x.toNat, by simp [rng] at hr; omega⟩
              have htk : t < k := by simp [rng] at hr; omega
              obtain ⟨hu1, hu2⟩ := HM.out.2 t (by omega)
              cases hin : decide ((t : Int) ∈ Fk ++ (bel p).take m)
              · have HIN := Lib.hid hin
                rw [hin] at hu1
                clear hin
                go_wp2_with (go_at_call 43; refine (impl_inRange _ _ _).mono ?_; rintro e w' ⟨rfl, rfl⟩)
                go_roundw
                case rel =>
                  have hts := take_succ_int (bel p) m _ (by have := HL.out; omega) HX.out
                  have hn0 := HM.out.set t (by omega)
                  have hnm : ¬ (t : Int) ∈ Fk ++ (bel p).take m := of_decide_eq_false HIN.out
                  have hown := ownsRow_setCell_below HO.out (a := ⟨w.heap.size + 1, t, none⟩) (by simp; try omega) (.bool true)
                  refine ⟨m + 1, by omega, by go_num, by go_num, ?_, ?_, ?_, hown, HB.out.setCell (p := ⟨w.heap.size + 1, t, none⟩) (by simp) _⟩
                  · rw [hts, ← List.append_assoc]; exact hn0
                  · rw [hts, ← List.append_assoc]
                    refine List.nodup_append.2 ⟨HD2.out, by simp, ?_⟩
                    intro a ha b hb e
                    simp at hb
                    subst hb
                    subst e
                    exact hnm ha
                  · rw [hts]
                    intro y hy
                    rcases List.mem_append.1 hy with hy | hy
                    · exact HR.out y hy
                    · simp at hy; omega
                case measure => simp [intOf]; omega
              · have HIN := Lib.hid hin
                rw [hin] at hu1
                clear hin
                go_wp2_with (go_at_call 43; refine (impl_inRange _ _ _).mono ?_; rintro e w' ⟨rfl, rfl⟩)
                go_ret
                refine ⟨ret_b ?_, ((Below.refl _ _).alloc (Nat.le_refl _) _).trans ((hbw2.trans HB.out).mono (by omega))⟩
                have hfd : validF ps = false := by
                  refine validF_dup ps k m (by have := HN.out; omega) (by rw [HP.out]; have := HL.out; omega) t (by rw [HP.out]; exact HX.out) htk ?_
                  rw [HF.out, HP.out]
                  exact of_decide_eq_true HIN.out
                simp [hfd]
          · go_wp2
            go_roundw
            case rel =>
              have hf := take_flat ps k (by have := HN.out; omega)
              rw [HP.out, HF.out] at hf
              have hmL : m = L := by omega
              have htm : (bel p).take m = bel p := List.take_of_length_le (by have := HL.out; omega)
              have hlen : ((Fk.length + m : Nat)) = ((ps.take (k + 1)).flatMap bel).length := by rw [hf, List.length_append, HL.out, hmL]
              refine ⟨k + 1, by omega, by go_num, by rw [← hlen]; try go_num, ?_, ?_, ?_, hbw2.trans HB.out⟩
              · rw [hf]; have := HM.out; rwa [htm] at this
              · rw [hf]; have := HD2.out; rwa [htm] at this
              · intro j hj
                rcases Nat.lt_or_ge j k with h1 | h1
                · exact HG.out j h1
                · obtain rfl : j = k := by omega
                  rw [HP.out, good_iff, HOK.out, Bool.true_and]
                  have := HR.out
                  rw [htm] at this
                  exact decide_eq_true this
            case measure => simp [intOf]; omega
    · obtain rfl : k = n := by omega
      rw [List.take_of_length_le (by have := HN.out; omega)] at HM HD hfl ⊢
      go_wp2
      go_ret
      refine ⟨ret_b ?_, ((Below.refl _ _).alloc (Nat.le_refl _) _).trans (hb.mono (by omega))⟩
      have hkn := HN.out
      rw [validF_marks ps (by omega) (by omega) (fun i hi => HG.out i (by omega)) HD.out, ← hkn]
      try simp
end Go.Proofs.YtlcpgbbpjnkihaaGreat

namespace Go.Proofs.YtlcpgbbpjnkihaaGreat
set_option linter.unusedSimpArgs false
set_option linter.unusedVariables false
open Go.RowKit
set_option maxHeartbeats 800000 in
theorem impl_combine (k x y : Int) (hx : 0 ≤ x) (hx' : x ≤ 999) (hy : 0 ≤ y) (hy' : y ≤ 999) (w : World) :
    Calls Tryz.prog 120 #[.int .i64 k, .int .i64 x, .int .i64 y] w fun e w' => e = .returned (.int .i64 (jn k x y)) ∧ w = w' := by
  obtain ⟨hm0, hm1⟩ := mul_bd x y hx hx' hy hy'
  have hs : 0 ≤ x - y + 1000 := by omega
  go_enter Tryz.func120, Tryz.ntmps120
  go_wp2
  all_goals
    go_ret
    refine ⟨ret_i ?_, rfl⟩
    simp_all [jn]
    try omega
set_option maxRecDepth 100000 in
set_option maxHeartbeats 800000 in
theorem impl_hasEach (A A' : Option Addr) (n c m c' : Nat) (ps : List Pt) (w : World) (B : Nat) (hB : B ≤ w.heap.size) (hn : n = ps.length) (h : PS w B A ps) (hs : n ≤ 2000000) (hm : m ≤ 2000000) :
    Calls Tryz.prog 126 #[.agg #[.slice A n c], .slice A' m c'] w fun e w' => e = .returned (.bool (eachOK ps m)) ∧ Below w.heap.size w w' := by
  have H := Lib.hid h
  have HN := Lib.hid hn
  clear hn h
  go_enter Tryz.func126, Tryz.ntmps126
  go_wp2
  go_loopw [10] (fun i wr => ∃ k : Nat, k ≤ n ∧ i = .int .i64 k ∧ Hid (∀ j, j < k → ((ps.getD j default).k == 1 && decide ((m : Int) ≤ (ps.getD j default).n)) = false) ∧ Below w.heap.size w wr) (fun i _ => n - (intOf i).toNat)
  case atStart => exact ⟨0, Nat.zero_le _, rfl, by intro j hj; omega, (Below.refl _ _).alloc (Nat.le_refl _) _⟩
  case round =>
    obtain ⟨k, hk, rfl, HA, hb⟩ := hrel
    have hwr : w.heap.size ≤ wr.heap.size := hb.size
    by_cases hlt : k < n
    · obtain ⟨b, off, rfl, hbB, hc⟩ := H.out (by have := HN.out; omega)
      obtain ⟨c0, c1, c2, c3, c4⟩ := hc k (by have := HN.out; omega)
      clear hc
      have b0 := (hb.cell (p := ⟨b, off + k * 5, none⟩) (by simp; omega)).trans c0
      have b1 := (hb.cell (p := ⟨b, off + k * 5 + 1, none⟩) (by simp; omega)).trans c1
      have b2 := (hb.cell (p := ⟨b, off + k * 5 + 2, none⟩) (by simp; omega)).trans c2
      have b3 := (hb.cell (p := ⟨b, off + k * 5 + 3, none⟩) (by simp; omega)).trans c3
      have b4 := (hb.cell (p := ⟨b, off + k * 5 + 4, none⟩) (by simp; omega)).trans c4
      clear c0 c1 c2 c3 c4
      generalize hp : ps.getD k default = p at *
      have HP := Lib.hid hp
      clear hp
      cases h1 : (p.k == 1)
      · have H1 := Lib.hid h1
        go_wp2
        go_roundw
        case rel => exact ⟨k + 1, by omega, by go_num, fun j hj => by
          rcases Nat.lt_or_ge j k with h2 | h2
          · exact HA.out j h2
          · obtain rfl : j = k := by omega
            rw [HP.out, H1.out]; rfl, hb.alloc hwr _⟩
        case measure => simp [intOf]; omega
      · have H1 := Lib.hid h1
        by_cases h2 : (m : Int) ≤ p.n
        · have H2 := Lib.hid h2
          go_wp2
          go_ret
          refine ⟨ret_b ?_, hb.alloc hwr _⟩
          have hf : eachOK ps m = false := by
            unfold eachOK
            rw [List.all_eq_false]
            refine ⟨ps.getD k default, getD_mem' ps k (by have := HN.out; omega), ?_⟩
            rw [HP.out, H1.out, decide_eq_true H2.out]; simp
          rw [hf]; try rfl
        · have H2 := Lib.hid h2
          go_wp2
          go_roundw
          case rel => exact ⟨k + 1, by omega, by go_num, fun j hj => by
            rcases Nat.lt_or_ge j k with h3 | h3
            · exact HA.out j h3
            · obtain rfl : j = k := by omega
              rw [HP.out, H1.out, decide_eq_false H2.out]; rfl, hb.alloc hwr _⟩
          case measure => simp [intOf]; omega
    · go_wp2
      go_ret
      refine ⟨ret_b ?_, hb⟩
      have hf : eachOK ps m = true := by
        unfold eachOK
        rw [List.all_eq_true]
        intro x hx
        obtain ⟨j, hj, rfl⟩ := List.mem_iff_getElem.1 hx
        have := HA.out j (by have := HN.out; omega)
        rw [show ps.getD j default = ps[j] by simp [List.getD, hj]] at this
        rw [this]; rfl
      rw [hf]; try rfl
set_option maxHeartbeats 800000 in
theorem impl_canEvaluate (A A' : Option Addr) (n c m c' : Nat) (ps : List Pt) (vs : List Int) (w : World) (B : Nat) (hB : B ≤ w.heap.size) (hn : n = ps.length) (hm : m = vs.length) (h : PS w B A ps) (h' : IS w B A' vs) (hs : n ≤ 2000000) (hs' : m ≤ 2000000) :
    Calls Tryz.prog 123 #[.agg #[.slice A n c], .slice A' m c'] w fun e w' => e = .returned (.bool (canEv ps vs)) ∧ Below w.heap.size w w' := by
  have H := Lib.hid h
  have HN := Lib.hid hn
  have H' := Lib.hid h'
  have HM := Lib.hid hm
  clear hn h hm h'
  cases hv : validF ps
  · have hr : canEv ps vs = false := by simp [canEv, hv]
    rw [hr]
    have HV := Lib.hid hv
    clear hr hv
    go_enter Tryz.func123, Tryz.ntmps123
    go_wp2_with fail
    refine (impl_ValidFormula _ _ _ ps _ B (by simp; omega) HN.out (H.out.alloc hB _) hs).mono ?_
    rintro e w1 ⟨rfl, hb⟩
    rw [HV.out]
    go_wp2
    go_ret
    exact ⟨rfl, ((Below.refl _ _).alloc (Nat.le_refl _) _).trans (hb.mono (by simp))⟩
  · cases hr2 : (decide (vs.length ≤ 10) && allR vs 0 999)
    · have hr : canEv ps vs = false := by simp only [canEv, hr2]; simp
      rw [hr]
      have HV := Lib.hid hv
      have HR2 := Lib.hid hr2
      clear hr hv hr2
      go_enter Tryz.func123, Tryz.ntmps123
      go_wp2_with fail
      refine (impl_ValidFormula _ _ _ ps _ B (by simp; omega) HN.out (H.out.alloc hB _) hs).mono ?_
      rintro e w1 ⟨rfl, hb⟩
      rw [HV.out]
      have hz : w.heap.size + 1 ≤ w1.heap.size := by have := hb.size; simpa using this
      have HI1 := Lib.hid ((H'.out.alloc hB _).below hb (by simp; omega))
      go_wp2_with fail
      refine (impl_allInRange _ _ _ vs _ _ B (by omega) HM.out HI1.out hs').mono ?_
      rintro e w2 ⟨rfl, rfl⟩
      rw [HR2.out]
      go_wp2
      go_ret
      exact ⟨rfl, ((Below.refl _ _).alloc (Nat.le_refl _) _).trans (hb.mono (by simp))⟩
    · have hr : canEv ps vs = eachOK ps m := by rw [HM.out]; simp only [canEv, hr2, hv]; simp
      rw [hr]
      have HV := Lib.hid hv
      have HR2 := Lib.hid hr2
      clear hr hv hr2
      go_enter Tryz.func123, Tryz.ntmps123
      go_wp2_with fail
      refine (impl_ValidFormula _ _ _ ps _ B (by simp; omega) HN.out (H.out.alloc hB _) hs).mono ?_
      rintro e w1 ⟨rfl, hb⟩
      rw [HV.out]
      have hz : w.heap.size + 1 ≤ w1.heap.size := by have := hb.size; simpa using this
      have hbox : w1.cell? ⟨w.heap.size, 0, none⟩ = some (.slice A n c) := (hb.cell (p := ⟨w.heap.size, 0, none⟩) (by simp)).trans (by go_simp)
      have HI1 := Lib.hid ((H'.out.alloc hB _).below hb (by simp; omega))
      have HP1 := Lib.hid ((H.out.alloc hB _).below hb (by simp; omega))
      go_wp2_with fail
      refine (impl_allInRange _ _ _ vs _ _ B (by omega) HM.out HI1.out hs').mono ?_
      rintro e w2 ⟨rfl, rfl⟩
      rw [HR2.out]
      go_wp2_with fail
      refine (impl_hasEach _ _ _ _ _ _ ps _ B (by omega) HN.out HP1.out hs hs').mono ?_
      rintro e w3 ⟨rfl, hb3⟩
      go_wp2
      go_ret
      exact ⟨by simp, ((Below.refl _ _).alloc (Nat.le_refl _) _).trans ((hb.trans (hb3.mono (by simp; omega))).mono (by simp))⟩
end Go.Proofs.YtlcpgbbpjnkihaaGreat

namespace Go.Proofs.YtlcpgbbpjnkihaaGreat
set_option linter.unusedSimpArgs false
set_option linter.unusedVariables false
open Go.RowKit
set_option maxHeartbeats 400000 in
theorem impl_wholeOf (A : Option Addr) (n c : Nat) (ps : List Pt) (B : Nat) (hn : n = ps.length) (hg : AllGood ps) (hs : n ≤ 2000000) (h1 : 1 ≤ n) (w : World) (hB : B ≤ w.heap.size) (h : PS w B A ps) :
    Calls Tryz.prog 112 #[.agg #[.slice A n c]] w fun e w' => RetT w (tmAt ps n (n - 1)) e w' := by
  have H := Lib.hid h
  have HN := Lib.hid hn
  have HG := Lib.hid hg
  clear h hn hg
  obtain ⟨m, rfl⟩ : ∃ m, n = m + 1 := ⟨n - 1, by omega⟩
  go_enter Tryz.func112, Tryz.ntmps112
  go_wp2_with fail
  refine (impl_termAt A (m + 1) c ps B HN.out HG.out hs (m + 1) m _ (by omega) (by omega) (by simp; omega) (H.out.alloc hB _)).mono ?_
  rintro e w1 ⟨T, x, rfl, hT, hb⟩
  have HT := Lib.hid hT
  clear hT
  go_wp2
  go_ret
  exact ⟨T, x, by simp, HT.out, ((Below.refl _ _).alloc (Nat.le_refl _) _).trans (hb.mono (by simp))⟩
end Go.Proofs.YtlcpgbbpjnkihaaGreat

namespace Go.Proofs.YtlcpgbbpjnkihaaGreat
set_option linter.unusedSimpArgs false
set_option linter.unusedVariables false
open Go.RowKit
theorem ta_NN (x : Value) (w : World) : (Instr.typeAssert (.iface 149 x) 136 149 true).run Tryz.prog w = .ok (.tuple #[x, .bool true]) w := by kernel_rfl
theorem ta_RN (x : Value) (w : World) : (Instr.typeAssert (.iface 151 x) 136 149 true).run Tryz.prog w = .ok (.tuple #[.agg #[.int .i64 0], .bool false]) w := by kernel_rfl
theorem ta_RR (x : Value) (w : World) : (Instr.typeAssert (.iface 151 x) 136 151 true).run Tryz.prog w = .ok (.tuple #[x, .bool true]) w := by kernel_rfl
theorem ta_PN (x : Value) (w : World) : (Instr.typeAssert (.iface 153 x) 136 149 true).run Tryz.prog w = .ok (.tuple #[.agg #[.int .i64 0], .bool false]) w := by kernel_rfl
theorem ta_PR (x : Value) (w : World) : (Instr.typeAssert (.iface 153 x) 136 151 true).run Tryz.prog w = .ok (.tuple #[.agg #[.int .i64 0], .bool false]) w := by kernel_rfl
theorem ta_PP (x : Value) (w : World) : (Instr.typeAssert (.iface 153 x) 136 153 true).run Tryz.prog w = .ok (.tuple #[x, .bool true]) w := by kernel_rfl
theorem ta_CN (x : Value) (w : World) : (Instr.typeAssert (.iface 155 x) 136 149 true).run Tryz.prog w = .ok (.tuple #[.agg #[.int .i64 0], .bool false]) w := by kernel_rfl
theorem ta_CR (x : Value) (w : World) : (Instr.typeAssert (.iface 155 x) 136 151 true).run Tryz.prog w = .ok (.tuple #[.agg #[.int .i64 0], .bool false]) w := by kernel_rfl
theorem ta_CP (x : Value) (w : World) : (Instr.typeAssert (.iface 155 x) 136 153 true).run Tryz.prog w = .ok (.tuple #[.agg #[.int .i64 0, .nilIface, .nilIface], .bool false]) w := by kernel_rfl
theorem ta_CC (x : Value) (w : World) : (Instr.typeAssert (.iface 155 x) 136 155 true).run Tryz.prog w = .ok (.tuple #[x, .bool true]) w := by kernel_rfl
/-- From w to w' only blocks of the footprint have turned; the footprint has got new blocks alone. -/
structure Fr (foot : World → Nat → Prop) (w w' : World) : Prop where
  size : w.heap.size ≤ w'.heap.size
  block : ∀ k, k < w.heap.size → ¬ foot w k → w'.heap[k]? = w.heap[k]?
  foot : ∀ k, foot w' k → foot w k ∨ w.heap.size ≤ k
theorem Fr.tr {foot : World → Nat → Prop} {a b c : World} (h : Fr foot a b) (k : Fr foot b c) : Fr foot a c :=
  ⟨Nat.le_trans h.size k.size, fun i hi hn => (k.block i (Nat.lt_of_lt_of_le hi h.size) fun hb => by
    rcases h.foot i hb with h1 | h1
    · exact hn h1
    · omega).trans (h.block i hi hn), fun i hi => by
    rcases k.foot i hi with h1 | h1
    · exact h.foot i h1
    · exact .inr (Nat.le_trans h.size h1)⟩
theorem Fr.cell {foot : World → Nat → Prop} {w w' : World} (h : Fr foot w w') {a : Addr} {v : Value} (hl : a.block < w.heap.size) (hn : ¬ foot w a.block) (hc : w.cell? a = some v) : w'.cell? a = some v :=
  (World.cell?_of_block (h.block a.block hl hn)).trans hc
theorem Fr.of_below {foot : World → Nat → Prop} {w w' : World} (h : Below w.heap.size w w') (hf : ∀ k, foot w' k → foot w k) : Fr foot w w' :=
  ⟨h.size, fun k hk _ => h.block k hk, fun k hk => .inl (hf k hk)⟩
set_option maxRecDepth 100000 in
set_option maxHeartbeats 3200000 in
theorem impl_evaluate1 (K : FuncId) (cap : Value) (vs : List Int) (hv : VOK vs) (foot : World → Nat → Prop) (I : List Int → World → Prop) (hG : ∀ acc w k, I acc w → foot w k → k < w.heap.size) (hI : ∀ acc w w', I acc w → Below w.heap.size w w' → I acc w' ∧ ∀ k, foot w' k → foot w k)
    (hcf : ∀ (q : Nat) (w : World), (callFunc K #[.int .i64 q, cap]).run Tryz.prog w = .ok (.enter K #[.int .i64 q, cap]) w)
    (hlook : ∀ (q : Nat) acc w, q < vs.length → I acc w → Calls Tryz.prog K #[.int .i64 q, cap] w fun e w' => e = .returned (.int .i64 (vs.getD q 0)) ∧ I (acc ++ [(q : Int)]) w' ∧ Fr foot w w') (t : Tm) :
    ∀ (acc : List Int) (w : World), t.ok vs.length → I acc w →
    Calls Tryz.prog 111 #[t.val, .func (.func K) #[] #[cap]] w fun e w' => e = .returned (.int .i64 (t.ev vs)) ∧ I (acc ++ t.rds vs) w' ∧ Fr foot w w' := by
  have HI := Lib.hid hI
  have HL := Lib.hid hlook
  have HV := Lib.hid hv
  have HG := Lib.hid hG
  have HCF := Lib.hid hcf
  clear hI hlook hv hG hcf
  induction t with
  | num v =>
    intro acc w hok h
    have H := Lib.hid h
    clear h hok
    show Calls _ _ #[.iface 149 (.agg #[.int .i64 v]), _] _ _
    have t1 := fun w => ta_NN (.agg #[.int .i64 v]) w
    go_enter Tryz.func111, Tryz.ntmps111
    go_wp2
    go_ret
    refine ⟨by simp [Tm.ev], ?_, Fr.of_below ((Below.refl w.heap.size w).alloc (Nat.le_refl _) _) (HI.out _ _ _ H.out ((Below.refl w.heap.size w).alloc (Nat.le_refl _) _)).2⟩
    have h1 := (HI.out _ _ _ H.out ((Below.refl w.heap.size w).alloc (Nat.le_refl _) (.cells #[.int .i64 v] 149))).1
    simpa [Tm.rds] using h1
  | rd v =>
    intro acc w hok h
    simp only [Tm.ok] at hok
    obtain ⟨q, rfl⟩ : ∃ q : Nat, v = (q : Int) := ⟨v.toNat, by omega⟩
    have hq : q < vs.length := by omega
    have HW0 := HI.out _ _ _ h ((Below.refl w.heap.size w).alloc (Nat.le_refl _) (.cells #[.int .i64 q] 151))
    have HW := Lib.hid HW0.1
    have HFR := Lib.hid (Fr.of_below (foot := foot) ((Below.refl w.heap.size w).alloc (Nat.le_refl _) (.cells #[.int .i64 q] 151)) HW0.2)
    have HNF := Lib.hid (show ¬ foot _ w.heap.size from fun hf => Nat.lt_irrefl _ (HG.out _ _ w.heap.size h (HW0.2 _ hf)))
    clear HW0
    clear h hok
    show Calls _ _ #[.iface 151 (.agg #[.int .i64 q]), _] _ _
    have t1 := fun w => ta_RN (.agg #[.int .i64 q]) w
    have t2 := fun w => ta_RR (.agg #[.int .i64 q]) w
    have hc := HCF.out q
    go_enter Tryz.func111, Tryz.ntmps111
    go_wp2_with fail
    refine (HL.out q acc _ hq HW.out).mono ?_
    rintro e w1 ⟨rfl, hI1, hg1⟩
    have H1 := Lib.hid hI1
    have HG1 := Lib.hid hg1
    clear hI1 hg1
    go_wp2
    go_ret
    exact ⟨by simp [Tm.ev, hq], H1.out, HFR.out.tr HG1.out⟩
  | pr k l r hl hr =>
    intro acc w hok h
    simp only [Tm.ok] at hok
    obtain ⟨T1, x1, e1⟩ := l.val_form
    obtain ⟨T2, x2, e2⟩ := r.val_form
    have HW0 := HI.out _ _ _ h ((Below.refl w.heap.size w).alloc (Nat.le_refl _) (.cells #[.int .i64 k, .iface T1 x1, .iface T2 x2] 153))
    have HW := Lib.hid HW0.1
    have HFR := Lib.hid (Fr.of_below (foot := foot) ((Below.refl w.heap.size w).alloc (Nat.le_refl _) (.cells #[.int .i64 k, .iface T1 x1, .iface T2 x2] 153)) HW0.2)
    have HNF := Lib.hid (show ¬ foot _ w.heap.size from fun hf => Nat.lt_irrefl _ (HG.out _ _ w.heap.size h (HW0.2 _ hf)))
    clear HW0
    obtain ⟨ex1, ex2⟩ := Tm.ev_bd vs HV.out l hok.1
    obtain ⟨ey1, ey2⟩ := Tm.ev_bd vs HV.out r hok.2
    have HLC := Lib.hid (fun acc w => hl acc w hok.1)
    have HRC := Lib.hid (fun acc w => hr acc w hok.2)
    have hev : (Tm.pr k l r).ev vs = jn k (l.ev vs) (r.ev vs) := rfl
    have hrd : (Tm.pr k l r).rds vs = l.rds vs ++ r.rds vs := rfl
    rw [hev, hrd]
    show Calls _ _ #[.iface 153 (.agg #[.int .i64 k, l.val, r.val]), _] _ _
    rw [e1, e2]
    rw [e1] at HLC
    rw [e2] at HRC
    generalize l.ev vs = xa at *
    generalize r.ev vs = xb at *
    generalize l.rds vs = ra at *
    generalize r.rds vs = rb at *
    clear h hok hl hr hev hrd e1 e2
    have t1 := fun w => ta_PN (.agg #[.int .i64 k, .iface T1 x1, .iface T2 x2]) w
    have t2 := fun w => ta_PR (.agg #[.int .i64 k, .iface T1 x1, .iface T2 x2]) w
    have t3 := fun w => ta_PP (.agg #[.int .i64 k, .iface T1 x1, .iface T2 x2]) w
    go_enter Tryz.func111, Tryz.ntmps111
    go_wp2_with fail
    refine (HLC.out acc _ HW.out).mono ?_
    rintro e w1 ⟨rfl, hI1, hg1⟩
    have q0 : w1.cell? ⟨w.heap.size, 0, none⟩ = some (.int .i64 k) := hg1.cell (a := ⟨w.heap.size, 0, none⟩) (by simp) HNF.out (by go_simp)
    have q2 : w1.cell? ⟨w.heap.size, 2, none⟩ = some (.iface T2 x2) := hg1.cell (a := ⟨w.heap.size, 2, none⟩) (by simp) HNF.out (by go_simp)
    have H1 := Lib.hid hI1
    have HG1 := Lib.hid (HFR.out.tr hg1)
    have hs1 : w.heap.size < w1.heap.size := by have := hg1.size; simp at this; omega
    have HNF1 := Lib.hid (show ¬ foot w1 w.heap.size from fun hf => (hg1.foot w.heap.size hf).elim HNF.out (fun h9 => by simp at h9; try omega))
    clear hI1 hg1
    go_wp2_with fail
    refine (HRC.out _ _ H1.out).mono ?_
    rintro e w2 ⟨rfl, hI2, hg2⟩
    have q0' : w2.cell? ⟨w.heap.size, 0, none⟩ = some (.int .i64 k) := hg2.cell (a := ⟨w.heap.size, 0, none⟩) hs1 HNF1.out q0
    have H2 := Lib.hid hI2
    have HG2 := Lib.hid (HG1.out.tr hg2)
    clear hI2 hg2 q0 q2
    go_wp2_with (go_at_call 120; refine (impl_combine k xa xb (by omega) (by omega) (by omega) (by omega) _).mono ?_; rintro e w3 ⟨rfl, rfl⟩)
    go_ret
    exact ⟨by simp, by rw [← List.append_assoc]; exact H2.out, HG2.out⟩
  | ch t a b ht ha hb =>
    intro acc w hok h
    simp only [Tm.ok] at hok
    obtain ⟨T1, x1, e1⟩ := t.val_form
    obtain ⟨T2, x2, e2⟩ := a.val_form
    obtain ⟨T3, x3, e3⟩ := b.val_form
    have HW0 := HI.out _ _ _ h ((Below.refl w.heap.size w).alloc (Nat.le_refl _) (.cells #[.iface T1 x1, .iface T2 x2, .iface T3 x3] 155))
    have HW := Lib.hid HW0.1
    have HFR := Lib.hid (Fr.of_below (foot := foot) ((Below.refl w.heap.size w).alloc (Nat.le_refl _) (.cells #[.iface T1 x1, .iface T2 x2, .iface T3 x3] 155)) HW0.2)
    have HNF := Lib.hid (show ¬ foot _ w.heap.size from fun hf => Nat.lt_irrefl _ (HG.out _ _ w.heap.size h (HW0.2 _ hf)))
    clear HW0
    have HTC := Lib.hid (fun acc w => ht acc w hok.1)
    have HAC := Lib.hid (fun acc w => ha acc w hok.2.1)
    have HBC := Lib.hid (fun acc w => hb acc w hok.2.2)
    have hev : (Tm.ch t a b).ev vs = if t.ev vs == 0 then b.ev vs else a.ev vs := rfl
    have hrd : (Tm.ch t a b).rds vs = t.rds vs ++ (if t.ev vs == 0 then b.rds vs else a.rds vs) := rfl
    rw [hev, hrd]
    show Calls _ _ #[.iface 155 (.agg #[t.val, a.val, b.val]), _] _ _
    rw [e1, e2, e3]
    rw [e1] at HTC
    rw [e2] at HAC
    rw [e3] at HBC
    have t1 := fun w => ta_CN (.agg #[.iface T1 x1, .iface T2 x2, .iface T3 x3]) w
    have t2 := fun w => ta_CR (.agg #[.iface T1 x1, .iface T2 x2, .iface T3 x3]) w
    have t3 := fun w => ta_CP (.agg #[.iface T1 x1, .iface T2 x2, .iface T3 x3]) w
    have t4 := fun w => ta_CC (.agg #[.iface T1 x1, .iface T2 x2, .iface T3 x3]) w
    cases hz : (t.ev vs == 0)
    · have hz' : (t.ev vs != 0) = true := by simp [bne, hz]
      simp only [Bool.false_eq_true, if_false]
      generalize t.ev vs = xt at *
      generalize a.ev vs = xa at *
      generalize t.rds vs = rt at *
      generalize a.rds vs = ra at *
      clear h hok ht ha hb hev hrd e1 e2 e3 hz
      go_enter Tryz.func111, Tryz.ntmps111
      go_wp2_with fail
      refine (HTC.out acc _ HW.out).mono ?_
      rintro e w1 ⟨rfl, hI1, hg1⟩
      have q1 : w1.cell? ⟨w.heap.size, 1, none⟩ = some (.iface T2 x2) := hg1.cell (a := ⟨w.heap.size, 1, none⟩) (by simp) HNF.out (by go_simp)
      have H1 := Lib.hid hI1
      have HG1 := Lib.hid (HFR.out.tr hg1)
      clear hI1 hg1
      go_wp2_with fail
      refine (HAC.out _ _ H1.out).mono ?_
      rintro e w2 ⟨rfl, hI2, hg2⟩
      have H2 := Lib.hid hI2
      have HG2 := Lib.hid (HG1.out.tr hg2)
      clear hI2 hg2
      go_wp2
      go_ret
      exact ⟨by simp, by rw [← List.append_assoc]; exact H2.out, HG2.out⟩
    · have hz' : (t.ev vs != 0) = false := by simp [bne, hz]
      simp only [if_true]
      generalize t.ev vs = xt at *
      generalize b.ev vs = xb at *
      generalize t.rds vs = rt at *
      generalize b.rds vs = rb at *
      clear h hok ht ha hb hev hrd e1 e2 e3 hz
      go_enter Tryz.func111, Tryz.ntmps111
      go_wp2_with fail
      refine (HTC.out acc _ HW.out).mono ?_
      rintro e w1 ⟨rfl, hI1, hg1⟩
      have q1 : w1.cell? ⟨w.heap.size, 2, none⟩ = some (.iface T3 x3) := hg1.cell (a := ⟨w.heap.size, 2, none⟩) (by simp) HNF.out (by go_simp)
      have H1 := Lib.hid hI1
      have HG1 := Lib.hid (HFR.out.tr hg1)
      clear hI1 hg1
      go_wp2_with fail
      refine (HBC.out _ _ H1.out).mono ?_
      rintro e w2 ⟨rfl, hI2, hg2⟩
      have H2 := Lib.hid hI2
      have HG2 := Lib.hid (HG1.out.tr hg2)
      clear hI2 hg2
      go_wp2
      go_ret
      exact ⟨by simp, by rw [← List.append_assoc]; exact H2.out, HG2.out⟩
set_option maxRecDepth 100000 in
set_option maxHeartbeats 3200000 in
theorem impl_evaluate2 (K : FuncId) (cap cap2 : Value) (vs : List Int) (hv : VOK vs) (foot : World → Nat → Prop) (I : List Int → World → Prop) (hG : ∀ acc w k, I acc w → foot w k → k < w.heap.size) (hI : ∀ acc w w', I acc w → Below w.heap.size w w' → I acc w' ∧ ∀ k, foot w' k → foot w k)
    (hcf : ∀ (q : Nat) (w : World), (callFunc K #[.int .i64 q, cap, cap2]).run Tryz.prog w = .ok (.enter K #[.int .i64 q, cap, cap2]) w)
    (hlook : ∀ (q : Nat) acc w, q < vs.length → I acc w → Calls Tryz.prog K #[.int .i64 q, cap, cap2] w fun e w' => e = .returned (.int .i64 (vs.getD q 0)) ∧ I (acc ++ [(q : Int)]) w' ∧ Fr foot w w') (t : Tm) :
    ∀ (acc : List Int) (w : World), t.ok vs.length → I acc w →
    Calls Tryz.prog 111 #[t.val, .func (.func K) #[] #[cap, cap2]] w fun e w' => e = .returned (.int .i64 (t.ev vs)) ∧ I (acc ++ t.rds vs) w' ∧ Fr foot w w' := by
  have HI := Lib.hid hI
  have HL := Lib.hid hlook
  have HV := Lib.hid hv
  have HG := Lib.hid hG
  have HCF := Lib.hid hcf
  clear hI hlook hv hG hcf
  induction t with
  | num v =>
    intro acc w hok h
    have H := Lib.hid h
    clear h hok
    show Calls _ _ #[.iface 149 (.agg #[.int .i64 v]), _] _ _
    have t1 := fun w => ta_NN (.agg #[.int .i64 v]) w
    go_enter Tryz.func111, Tryz.ntmps111
    go_wp2
    go_ret
    refine ⟨by simp [Tm.ev], ?_, Fr.of_below ((Below.refl w.heap.size w).alloc (Nat.le_refl _) _) (HI.out _ _ _ H.out ((Below.refl w.heap.size w).alloc (Nat.le_refl _) _)).2⟩
    have h1 := (HI.out _ _ _ H.out ((Below.refl w.heap.size w).alloc (Nat.le_refl _) (.cells #[.int .i64 v] 149))).1
    simpa [Tm.rds] using h1
  | rd v =>
    intro acc w hok h
    simp only [Tm.ok] at hok
    obtain ⟨q, rfl⟩ : ∃ q : Nat, v = (q : Int) := ⟨v.toNat, by omega⟩
    have hq : q < vs.length := by omega
    have HW0 := HI.out _ _ _ h ((Below.refl w.heap.size w).alloc (Nat.le_refl _) (.cells #[.int .i64 q] 151))
    have HW := Lib.hid HW0.1
    have HFR := Lib.hid (Fr.of_below (foot := foot) ((Below.refl w.heap.size w).alloc (Nat.le_refl _) (.cells #[.int .i64 q] 151)) HW0.2)
    have HNF := Lib.hid (show ¬ foot _ w.heap.size from fun hf => Nat.lt_irrefl _ (HG.out _ _ w.heap.size h (HW0.2 _ hf)))
    clear HW0
    clear h hok
    show Calls _ _ #[.iface 151 (.agg #[.int .i64 q]), _] _ _
    have t1 := fun w => ta_RN (.agg #[.int .i64 q]) w
    have t2 := fun w => ta_RR (.agg #[.int .i64 q]) w
    have hc := HCF.out q
    go_enter Tryz.func111, Tryz.ntmps111
    go_wp2_with fail
    refine (HL.out q acc _ hq HW.out).mono ?_
    rintro e w1 ⟨rfl, hI1, hg1⟩
    have H1 := Lib.hid hI1
    have HG1 := Lib.hid hg1
    clear hI1 hg1
    go_wp2
    go_ret
    exact ⟨by simp [Tm.ev, hq], H1.out, HFR.out.tr HG1.out⟩
  | pr k l r hl hr =>
    intro acc w hok h
    simp only [Tm.ok] at hok
    obtain ⟨T1, x1, e1⟩ := l.val_form
    obtain ⟨T2, x2, e2⟩ := r.val_form
    have HW0 := HI.out _ _ _ h ((Below.refl w.heap.size w).alloc (Nat.le_refl _) (.cells #[.int .i64 k, .iface T1 x1, .iface T2 x2] 153))
    have HW := Lib.hid HW0.1
    have HFR := Lib.hid (Fr.of_below (foot := foot) ((Below.refl w.heap.size w).alloc (Nat.le_refl _) (.cells #[.int .i64 k, .iface T1 x1, .iface T2 x2] 153)) HW0.2)
    have HNF := Lib.hid (show ¬ foot _ w.heap.size from fun hf => Nat.lt_irrefl _ (HG.out _ _ w.heap.size h (HW0.2 _ hf)))
    clear HW0
    obtain ⟨ex1, ex2⟩ := Tm.ev_bd vs HV.out l hok.1
    obtain ⟨ey1, ey2⟩ := Tm.ev_bd vs HV.out r hok.2
    have HLC := Lib.hid (fun acc w => hl acc w hok.1)
    have HRC := Lib.hid (fun acc w => hr acc w hok.2)
    have hev : (Tm.pr k l r).ev vs = jn k (l.ev vs) (r.ev vs) := rfl
    have hrd : (Tm.pr k l r).rds vs = l.rds vs ++ r.rds vs := rfl
    rw [hev, hrd]
    show Calls _ _ #[.iface 153 (.agg #[.int .i64 k, l.val, r.val]), _] _ _
    rw [e1, e2]
    rw [e1] at HLC
    rw [e2] at HRC
    generalize l.ev vs = xa at *
    generalize r.ev vs = xb at *
    generalize l.rds vs = ra at *
    generalize r.rds vs = rb at *
    clear h hok hl hr hev hrd e1 e2
    have t1 := fun w => ta_PN (.agg #[.int .i64 k, .iface T1 x1, .iface T2 x2]) w
    have t2 := fun w => ta_PR (.agg #[.int .i64 k, .iface T1 x1, .iface T2 x2]) w
    have t3 := fun w => ta_PP (.agg #[.int .i64 k, .iface T1 x1, .iface T2 x2]) w
    go_enter Tryz.func111, Tryz.ntmps111
    go_wp2_with fail
    refine (HLC.out acc _ HW.out).mono ?_
    rintro e w1 ⟨rfl, hI1, hg1⟩
    have q0 : w1.cell? ⟨w.heap.size, 0, none⟩ = some (.int .i64 k) := hg1.cell (a := ⟨w.heap.size, 0, none⟩) (by simp) HNF.out (by go_simp)
    have q2 : w1.cell? ⟨w.heap.size, 2, none⟩ = some (.iface T2 x2) := hg1.cell (a := ⟨w.heap.size, 2, none⟩) (by simp) HNF.out (by go_simp)
    have H1 := Lib.hid hI1
    have HG1 := Lib.hid (HFR.out.tr hg1)
    have hs1 : w.heap.size < w1.heap.size := by have := hg1.size; simp at this; omega
    have HNF1 := Lib.hid (show ¬ foot w1 w.heap.size from fun hf => (hg1.foot w.heap.size hf).elim HNF.out (fun h9 => by simp at h9; try omega))
    clear hI1 hg1
    go_wp2_with fail
    refine (HRC.out _ _ H1.out).mono ?_
    rintro e w2 ⟨rfl, hI2, hg2⟩
    have q0' : w2.cell? ⟨w.heap.size, 0, none⟩ = some (.int .i64 k) := hg2.cell (a := ⟨w.heap.size, 0, none⟩) hs1 HNF1.out q0
    have H2 := Lib.hid hI2
    have HG2 := Lib.hid (HG1.out.tr hg2)
    clear hI2 hg2 q0 q2
    go_wp2_with (go_at_call 120; refine (impl_combine k xa xb (by omega) (by omega) (by omega) (by omega) _).mono ?_; rintro e w3 ⟨rfl, rfl⟩)
    go_ret
    exact ⟨by simp, by rw [← List.append_assoc]; exact H2.out, HG2.out⟩
  | ch t a b ht ha hb =>
    intro acc w hok h
    simp only [Tm.ok] at hok
    obtain ⟨T1, x1, e1⟩ := t.val_form
    obtain ⟨T2, x2, e2⟩ := a.val_form
    obtain ⟨T3, x3, e3⟩ := b.val_form
    have HW0 := HI.out _ _ _ h ((Below.refl w.heap.size w).alloc (Nat.le_refl _) (.cells #[.iface T1 x1, .iface T2 x2, .iface T3 x3] 155))
    have HW := Lib.hid HW0.1
    have HFR := Lib.hid (Fr.of_below (foot := foot) ((Below.refl w.heap.size w).alloc (Nat.le_refl _) (.cells #[.iface T1 x1, .iface T2 x2, .iface T3 x3] 155)) HW0.2)
    have HNF := Lib.hid (show ¬ foot _ w.heap.size from fun hf => Nat.lt_irrefl _ (HG.out _ _ w.heap.size h (HW0.2 _ hf)))
    clear HW0
    have HTC := Lib.hid (fun acc w => ht acc w hok.1)
    have HAC := Lib.hid (fun acc w => ha acc w hok.2.1)
    have HBC := Lib.hid (fun acc w => hb acc w hok.2.2)
    have hev : (Tm.ch t a b).ev vs = if t.ev vs == 0 then b.ev vs else a.ev vs := rfl
    have hrd : (Tm.ch t a b).rds vs = t.rds vs ++ (if t.ev vs == 0 then b.rds vs else a.rds vs) := rfl
    rw [hev, hrd]
    show Calls _ _ #[.iface 155 (.agg #[t.val, a.val, b.val]), _] _ _
    rw [e1, e2, e3]
    rw [e1] at HTC
    rw [e2] at HAC
    rw [e3] at HBC
    have t1 := fun w => ta_CN (.agg #[.iface T1 x1, .iface T2 x2, .iface T3 x3]) w
    have t2 := fun w => ta_CR (.agg #[.iface T1 x1, .iface T2 x2, .iface T3 x3]) w
    have t3 := fun w => ta_CP (.agg #[.iface T1 x1, .iface T2 x2, .iface T3 x3]) w
    have t4 := fun w => ta_CC (.agg #[.iface T1 x1, .iface T2 x2, .iface T3 x3]) w
    cases hz : (t.ev vs == 0)
    · have hz' : (t.ev vs != 0) = true := by simp [bne, hz]
      simp only [Bool.false_eq_true, if_false]
      generalize t.ev vs = xt at *
      generalize a.ev vs = xa at *
      generalize t.rds vs = rt at *
      generalize a.rds vs = ra at *
      clear h hok ht ha hb hev hrd e1 e2 e3 hz
      go_enter Tryz.func111, Tryz.ntmps111
      go_wp2_with fail
      refine (HTC.out acc _ HW.out).mono ?_
      rintro e w1 ⟨rfl, hI1, hg1⟩
      have q1 : w1.cell? ⟨w.heap.size, 1, none⟩ = some (.iface T2 x2) := hg1.cell (a := ⟨w.heap.size, 1, none⟩) (by simp) HNF.out (by go_simp)
      have H1 := Lib.hid hI1
      have HG1 := Lib.hid (HFR.out.tr hg1)
      clear hI1 hg1
      go_wp2_with fail
      refine (HAC.out _ _ H1.out).mono ?_
      rintro e w2 ⟨rfl, hI2, hg2⟩
      have H2 := Lib.hid hI2
      have HG2 := Lib.hid (HG1.out.tr hg2)
      clear hI2 hg2
      go_wp2
      go_ret
      exact ⟨by simp, by rw [← List.append_assoc]; exact H2.out, HG2.out⟩
    · have hz' : (t.ev vs != 0) = false := by simp [bne, hz]
      simp only [if_true]
      generalize t.ev vs = xt at *
      generalize b.ev vs = xb at *
      generalize t.rds vs = rt at *
      generalize b.rds vs = rb at *
      clear h hok ht ha hb hev hrd e1 e2 e3 hz
      go_enter Tryz.func111, Tryz.ntmps111
      go_wp2_with fail
      refine (HTC.out acc _ HW.out).mono ?_
      rintro e w1 ⟨rfl, hI1, hg1⟩
      have q1 : w1.cell? ⟨w.heap.size, 2, none⟩ = some (.iface T3 x3) := hg1.cell (a := ⟨w.heap.size, 2, none⟩) (by simp) HNF.out (by go_simp)
      have H1 := Lib.hid hI1
      have HG1 := Lib.hid (HFR.out.tr hg1)
      clear hI1 hg1
      go_wp2_with fail
      refine (HBC.out _ _ H1.out).mono ?_
      rintro e w2 ⟨rfl, hI2, hg2⟩
      have H2 := Lib.hid hI2
      have HG2 := Lib.hid (HG1.out.tr hg2)
      clear hI2 hg2
      go_wp2
      go_ret
      exact ⟨by simp, by rw [← List.append_assoc]; exact H2.out, HG2.out⟩
end Go.Proofs.YtlcpgbbpjnkihaaGreat

namespace Go.Proofs.YtlcpgbbpjnkihaaGreat
set_option linter.unusedSimpArgs false
set_option linter.unusedVariables false
open Go.RowKit
/-- What ValueOf answers. -/
def valF (ps : List Pt) (vs : List Int) : Int := if canEv ps vs then (whole ps).ev vs else 0
end Go.Proofs.YtlcpgbbpjnkihaaGreat

namespace Go.Proofs.YtlcpgbbpjnkihaaGreat
set_option linter.unusedSimpArgs false
set_option linter.unusedVariables false
open Go.RowKit
theorem below_new (wk : World) (o : Obj) : Below wk.heap.size wk (wk.alloc o) := (Below.refl _ _).alloc (Nat.le_refl _) o
end Go.Proofs.YtlcpgbbpjnkihaaGreat

namespace Go.Proofs.YtlcpgbbpjnkihaaGreat
set_option linter.unusedSimpArgs false
set_option linter.unusedVariables false
open Go.RowKit
/-- P holds, of blocks lo to hi - 1. -/
structure As (lo hi : Nat) (P : World → Prop) (w : World) : Prop where
  it : P w
  le : hi ≤ w.heap.size
  loc : Loc lo hi P
section
variable {lo hi a b : Nat} {P : World → Prop} {w w' : World}
theorem As.step (h : As lo hi P w) (hb : Below w.heap.size w w') : As lo hi P w' :=
  ⟨h.loc _ _ h.it fun k _ hk => hb.block k (Nat.lt_of_lt_of_le hk h.le), Nat.le_trans h.le hb.size, h.loc⟩
theorem As.alloc (h : As lo hi P w) (o : Obj) : As lo hi P (w.alloc o) := h.step ((Below.refl _ _).alloc (Nat.le_refl _) o)
theorem As.keep (h : As lo hi P w) (hk : ∀ k, lo ≤ k → k < hi → w'.heap[k]? = w.heap[k]?) (hs : w.heap.size ≤ w'.heap.size) : As lo hi P w' :=
  ⟨h.loc _ _ h.it hk, Nat.le_trans h.le hs, h.loc⟩
end
/-- A box of the call's own. -/
theorem box_loc (g : Nat) (v : Value) : Loc g (g + 1) fun w => w.cell? ⟨g, 0, none⟩ = some v :=
  fun w w' h hk => (World.cell?_of_block (a := ⟨g, 0, none⟩) (hk g (Nat.le_refl _) (Nat.lt_succ_self _))).trans h
theorem box_new (w : World) (v : Value) (t : TypeId) : As w.heap.size (w.heap.size + 1) (fun w' => w'.cell? ⟨w.heap.size, 0, none⟩ = some v) (w.alloc (.cells #[v] t)) :=
  ⟨by go_simp, by simp, box_loc _ _⟩
end Go.Proofs.YtlcpgbbpjnkihaaGreat

namespace Go.Proofs.YtlcpgbbpjnkihaaGreat
set_option linter.unusedSimpArgs false
set_option linter.unusedVariables false
open Go.RowKit
/-- The two values are a node of the call's own. -/
def NdO (lo hi : Nat) (d : Nd) (x y : Value) (w : World) : Prop :=
  x = .int .i64 d.k ∧ ∃ A n c, y = .slice A n c ∧ n = d.ps.length ∧ OwR lo hi 120 5 y n (d.ps.flatMap Pt.cells) w
/-- A row of nodes of the call's own. -/
def OwG (lo hi : Nat) (v : Value) (n : Nat) (gs : List Nd) (w : World) : Prop :=
  n = gs.length ∧ ∃ xs, OwR lo hi 79 2 v n xs w ∧ ∀ j, j < n → ∃ x y, xs[j * 2]? = some x ∧ xs[j * 2 + 1]? = some y ∧ NdO lo hi (gs.getD j default) x y w
theorem NdO.keep {lo hi : Nat} {d : Nd} {x y : Value} {w w' : World} (h : NdO lo hi d x y w) (hk : ∀ k, lo ≤ k → k < hi → w'.heap[k]? = w.heap[k]?) : NdO lo hi d x y w' := by
  obtain ⟨h1, A, n, c, h2, h3, h4⟩ := h
  exact ⟨h1, A, n, c, h2, h3, h4.keep hk⟩
theorem NdO.mono {lo hi lo' hi' : Nat} {d : Nd} {x y : Value} {w : World} (h : NdO lo hi d x y w) (h1 : lo' ≤ lo) (h2 : hi ≤ hi') : NdO lo' hi' d x y w := by
  obtain ⟨e1, A, n, c, e2, e3, h4⟩ := h
  exact ⟨e1, A, n, c, e2, e3, h4.mono h1 h2⟩
theorem OwG.loc (lo hi : Nat) (v : Value) (n : Nat) (gs : List Nd) : Loc lo hi (OwG lo hi v n gs) := by
  rintro w w' ⟨h0, xs, h1, h2⟩ hk
  exact ⟨h0, xs, h1.keep hk, fun j hj => by obtain ⟨x, y, hx, hy, h⟩ := h2 j hj; exact ⟨x, y, hx, hy, h.keep hk⟩⟩
theorem OwG.mono {lo hi lo' hi' n : Nat} {v : Value} {gs : List Nd} {w : World} (h : OwG lo hi v n gs w) (h1 : lo' ≤ lo) (h2 : hi ≤ hi') : OwG lo' hi' v n gs w := by
  obtain ⟨h0, xs, e1, e2⟩ := h
  exact ⟨h0, xs, e1.mono h1 h2, fun j hj => by obtain ⟨x, y, hx, hy, h⟩ := e2 j hj; exact ⟨x, y, hx, hy, h.mono h1 h2⟩⟩
theorem OwG.form {lo hi n : Nat} {v : Value} {gs : List Nd} {w : World} (h : OwG lo hi v n gs w) : ∃ A c, v = .slice A n c := by
  obtain ⟨_, xs, h1, _⟩ := h
  exact own_form h1.1
theorem OwG.nodes {lo hi n c : Nat} {A : Option Addr} {gs : List Nd} {w : World} (h : OwG lo hi (.slice A n c) n gs w) : GS w hi A gs := by
  obtain ⟨h0, xs, h1, h2⟩ := h
  intro hn
  rcases h1.1.2 with ⟨_, hz⟩ | ⟨g, cap, cur, hv, _⟩
  · omega
  · have hg := h1.2 g (by rw [hv]; rfl)
    simp only [Value.slice.injEq] at hv
    obtain ⟨rfl, _, rfl⟩ := hv
    refine ⟨g, 0, rfl, hg, fun j hj => ?_⟩
    obtain ⟨x, y, hx, hy, e1, A', n', c', e2, e3, e4⟩ := h2 j (by omega)
    refine ⟨?_, A', n', c', ?_, e3, ?_⟩
    · rw [h1.1.cellAt _ (by omega), ← e1]; simpa using hx
    · rw [h1.1.cellAt _ (by omega), ← e2]; simpa using hy
    · subst e2
      exact e4.parts
end Go.Proofs.YtlcpgbbpjnkihaaGreat

namespace Go.Proofs.YtlcpgbbpjnkihaaGreat
set_option linter.unusedSimpArgs false
set_option linter.unusedVariables false
open Go.RowKit
theorem validG_long (gs : List Nd) (h : 10 < gs.length) : validG gs = false := by
  unfold validG
  rw [decide_eq_false (p := gs.length ≤ 10) (by omega), Bool.and_false]
end Go.Proofs.YtlcpgbbpjnkihaaGreat

namespace Go.Proofs.YtlcpgbbpjnkihaaGreat
set_option linter.unusedSimpArgs false
set_option linter.unusedVariables false
open Go.RowKit
set_option maxHeartbeats 400000 in
theorem look_value (A' : Option Addr) (m c' g q : Nat) (vs : List Int) (w : World) (B : Nat) (hm : m = vs.length) (hs' : m ≤ 2000000) (hq : q < vs.length) (hc : w.cell? ⟨g, 0, none⟩ = some (.slice A' m c')) (h : IS w B A' vs) :
    Calls Tryz.prog 124 #[.int .i64 q, .pointer (some ⟨g, 0, none⟩)] w fun e w' => e = .returned (.int .i64 (vs.getD q 0)) ∧ w = w' := by
  obtain ⟨b, off, rfl, hb, hcc⟩ := h (by omega)
  have hx := hcc q hq
  have hqm : q < m := by omega
  generalize vs.getD q 0 = x at *
  clear hcc h hm hq
  go_enter Tryz.func124, Tryz.ntmps124
  go_wp2
  go_ret
  exact ⟨rfl, rfl⟩
set_option maxHeartbeats 800000 in
theorem impl_ValueOf (A A' : Option Addr) (n c m c' : Nat) (ps : List Pt) (vs : List Int) (B : Nat) (hn : n = ps.length) (hm : m = vs.length) (hs : n ≤ 1999999) (hs' : m ≤ 2000000) (w : World) (hB : B ≤ w.heap.size) (h : PS w B A ps) (h' : IS w B A' vs) :
    Calls Tryz.prog 117 #[.agg #[.slice A n c], .slice A' m c'] w fun e w' => e = .returned (.tuple #[.int .i64 (valF ps vs), .bool (canEv ps vs)]) ∧ Below w.heap.size w w' := by
  have H := Lib.hid h
  have HN := Lib.hid hn
  have H' := Lib.hid h'
  have HM := Lib.hid hm
  clear hn h hm h'
  cases hc : canEv ps vs
  · have hr : valF ps vs = 0 := by simp [valF, hc]
    rw [hr]
    have HC := Lib.hid hc
    clear hr hc
    go_enter Tryz.func117, Tryz.ntmps117
    go_wp2_with fail
    refine (impl_canEvaluate _ _ _ _ _ _ ps vs _ B (by simp; omega) HN.out HM.out ((H.out.alloc hB _).alloc (by simp; omega) _) ((H'.out.alloc hB _).alloc (by simp; omega) _) (by omega) hs').mono ?_
    rintro e w1 ⟨rfl, hb⟩
    rw [HC.out]
    go_wp2
    go_ret2
    exact ⟨rfl, (((Below.refl _ _).alloc (Nat.le_refl _) _).alloc (by simp) _).trans (hb.mono (by simp; omega))⟩
  · have hr : valF ps vs = (whole ps).ev vs := by simp [valF, hc]
    rw [hr]
    obtain ⟨hv, hvo, hm10, hea⟩ := canEv_parts ps vs hc
    obtain ⟨hg, h1, h12⟩ := validF_good ps hv
    have hok : (whole ps).ok vs.length := tmAt_ok ps vs.length hg hea ps.length (ps.length - 1) (by omega) (by omega)
    have HWH := Lib.hid (fun (w : World) => impl_wholeOf A n c ps B HN.out hg (by omega) (by have := HN.out; omega) w)
    rw [show tmAt ps n (n - 1) = whole ps by rw [HN.out]; rfl] at HWH
    have HC := Lib.hid hc
    have HVO := Lib.hid hvo
    have HOK := Lib.hid hok
    clear hr hc hv hvo hea hg h1 h12 hok
    generalize whole ps = t at *
    go_enter Tryz.func117, Tryz.ntmps117
    go_wp2_with fail
    refine (impl_canEvaluate _ _ _ _ _ _ ps vs _ B (by simp; omega) HN.out HM.out ((H.out.alloc hB _).alloc (by simp; omega) _) ((H'.out.alloc hB _).alloc (by simp; omega) _) (by omega) hs').mono ?_
    rintro e w1 ⟨rfl, hb⟩
    rw [HC.out]
    have hz : w.heap.size + 1 + 1 ≤ w1.heap.size := by have := hb.size; simpa using this
    have hbox : w1.cell? ⟨w.heap.size, 0, none⟩ = some (.slice A n c) := (hb.cell (p := ⟨w.heap.size, 0, none⟩) (by simp; omega)).trans (by go_simp)
    have hbox2 : w1.cell? ⟨w.heap.size + 1, 0, none⟩ = some (.slice A' m c') := (hb.cell (p := ⟨w.heap.size + 1, 0, none⟩) (by simp)).trans (by go_simp)
    have HP1 := Lib.hid (((H.out.alloc hB (.cells #[.slice A n c] 77)).alloc (by simp; omega) (.cells #[.slice A' m c'] 25)).below hb (by simp; omega))
    have HI1 := Lib.hid (((H'.out.alloc hB (.cells #[.slice A n c] 77)).alloc (by simp; omega) (.cells #[.slice A' m c'] 25)).below hb (by simp; omega))
    have hB1 : Below w.heap.size w w1 := (((Below.refl _ _).alloc (Nat.le_refl _) _).alloc (by simp) _).trans (hb.mono (by simp; omega))
    clear hb
    go_wp2_with fail
    refine (HWH.out _ (by omega) HP1.out).mono ?_
    rintro e w2 ⟨T, x, rfl, hT, hb2⟩
    have HT := Lib.hid hT
    clear hT
    have hz2 : w.heap.size + 1 + 1 ≤ w2.heap.size := by have := hb2.size; omega
    have hbox3 : w2.cell? ⟨w.heap.size + 1, 0, none⟩ = some (.slice A' m c') := (hb2.cell (p := ⟨w.heap.size + 1, 0, none⟩) (by show w.heap.size + 1 < w1.heap.size; omega)).trans hbox2
    have HI2 := Lib.hid (HI1.out.below hb2 (by omega))
    have hB2 : Below w.heap.size w w2 := hB1.trans (hb2.mono (by omega))
    have HEV := Lib.hid (impl_evaluate1 124 (.pointer (some ⟨w.heap.size + 1, 0, none⟩)) vs HVO.out (fun _ _ => False) (fun _ w' => Below w2.heap.size w2 w')
      (fun acc w' k h hf => hf.elim) (fun acc wa wb h1 h2 => ⟨h1.trans (h2.mono h1.size), fun k hf => hf⟩) (fun q w => by kernel_rfl)
      (fun q acc wa hq h1 => (look_value A' m c' (w.heap.size + 1) q vs wa B HM.out hs' hq ((h1.cell (p := ⟨w.heap.size + 1, 0, none⟩) (by show w.heap.size + 1 < w2.heap.size; omega)).trans hbox3) (HI2.out.below h1 (by omega))).mono
        fun e wb ⟨he, hw⟩ => ⟨he, by rw [← hw]; exact h1, by rw [← hw]; exact Fr.of_below (Below.refl _ _) fun k hf => hf⟩) t)
    clear hb2
    go_wp2_with fail
    rw [← HT.out]
    refine (HEV.out [] _ HOK.out (Below.refl _ _)).mono ?_
    rintro e w3 ⟨rfl, hb3, _⟩
    go_wp2
    go_ret2
    exact ⟨by simp, hB2.trans (hb3.mono (by omega))⟩
end Go.Proofs.YtlcpgbbpjnkihaaGreat

namespace Go.Proofs.YtlcpgbbpjnkihaaGreat
set_option linter.unusedSimpArgs false
set_option linter.unusedVariables false
open Go.RowKit
/-- What MayRead answers. -/
def mayF (ps : List Pt) : List Int := if validF ps then mayR ps else []
/-- Ten marks: which nodes the first parts have. -/
def Mrk10 (w : World) (g : Nat) (ps : List Pt) : Prop :=
  g < w.heap.size ∧ ∀ t : Nat, t < 10 → w.cell? ⟨g, t, none⟩ = some (.bool (hasNode ps t)) ∧ w.frozen? ⟨g, t, none⟩ = false
theorem Mrk10.below {w w' : World} {g : Nat} {ps : List Pt} (h : Mrk10 w g ps) (hb : Below w.heap.size w w') : Mrk10 w' g ps :=
  ⟨Nat.lt_of_lt_of_le h.1 hb.size, fun t ht => ⟨(hb.cell (p := ⟨g, t, none⟩) h.1).trans (h.2 t ht).1, (hb.frozen (p := ⟨g, t, none⟩) h.1).trans (h.2 t ht).2⟩⟩
theorem hasNode_append (ps : List Pt) (p : Pt) (t : Nat) : hasNode (ps ++ [p]) t = (hasNode ps t || (p.k == 1 && p.n == (t : Int))) := by
  simp [hasNode, List.any_append]
theorem Mrk10.keep {w : World} {g : Nat} {ps : List Pt} {p : Pt} (h : Mrk10 w g ps) (hp : (p.k == 1) = false) : Mrk10 w g (ps ++ [p]) :=
  ⟨h.1, fun t ht => by rw [hasNode_append, hp]; simpa using h.2 t ht⟩
theorem Mrk10.set {w : World} {g : Nat} {ps : List Pt} {p : Pt} (h : Mrk10 w g ps) (q : Nat) (hq : q < 10) (hk : (p.k == 1) = true) (hn : p.n = (q : Int)) : Mrk10 (w.setCell ⟨g, q, none⟩ (.bool true)) g (ps ++ [p]) := by
  refine ⟨by simpa [World.setCell] using h.1, fun j hj => ?_⟩
  obtain ⟨h1, h2⟩ := h.2 j hj
  rw [hasNode_append, hk, hn]
  by_cases e : j = q
  · subst e
    refine ⟨?_, by simpa using h2⟩
    rw [World.cell?_setCell_same _ _ _ h1]; simp
  · refine ⟨?_, by simpa using h2⟩
    rw [World.cell?_setCell_other _ _ _ _ (by intro e'; simp at e'; try omega), h1]
    have : ((q : Int) == (j : Int)) = false := by simp; omega
    simp [this]
set_option maxRecDepth 100000 in
set_option maxHeartbeats 1600000 in
theorem impl_MayRead (A : Option Addr) (n c : Nat) (ps : List Pt) (w : World) (B : Nat) (hB : B ≤ w.heap.size) (hn : n = ps.length) (h : PS w B A ps) (hs : n ≤ 1999999) :
    Calls Tryz.prog 93 #[.agg #[.slice A n c]] w fun e w' => RetI w (mayF ps) e w' := by
  obtain ⟨i0, hi, hz0, hz1, hz2⟩ := info_parts info_int
  have H := Lib.hid h
  have HN := Lib.hid hn
  clear h hn
  cases hv : validF ps
  · have hd : mayF ps = [] := by simp [mayF, hv]
    rw [hd]
    have HV := Lib.hid hv
    clear hd hv
    go_enter Tryz.func93, Tryz.ntmps93
    go_wp2_with fail
    refine (impl_ValidFormula _ _ _ ps _ B (by simp; omega) HN.out (H.out.alloc hB _) (by omega)).mono ?_
    rintro e w1 ⟨rfl, hb⟩
    rw [HV.out]
    go_wp2
    go_ret
    exact ⟨_, rfl, World.ownsRow_nil _ _ _ _, ((Below.refl _ _).alloc (Nat.le_refl _) _).trans (hb.mono (by simp))⟩
  · have hd : mayF ps = mayR ps := by simp [mayF, hv]
    rw [hd]
    obtain ⟨hg, h1, h12⟩ := validF_good ps hv
    have HV := Lib.hid hv
    have HG := Lib.hid hg
    clear hd hv hg h1 h12
    go_enter Tryz.func93, Tryz.ntmps93
    go_wp2_with fail
    refine (impl_ValidFormula _ _ _ ps _ B (by simp; omega) HN.out (H.out.alloc hB _) (by omega)).mono ?_
    rintro e w1 ⟨rfl, hb⟩
    rw [HV.out]
    have hbox : w1.cell? ⟨w.heap.size, 0, none⟩ = some (.slice A n c) := (hb.cell (p := ⟨w.heap.size, 0, none⟩) (by simp)).trans (by go_simp)
    have HW := Lib.hid ((H.out.alloc hB _).below hb (by simp; omega))
    have hw1 : w.heap.size + 1 ≤ w1.heap.size := by have := hb.size; simpa using this
    have hB1 : Below w.heap.size w w1 := ((Below.refl _ _).alloc (Nat.le_refl _) _).trans (hb.mono (by simp))
    have hws : w.heap.size < w1.heap.size := by omega
    clear hb H
    go_wp2
    go_loopw [14] (fun i wr => ∃ k : Nat, k ≤ n ∧ i = .int .i64 k ∧ Hid (Mrk10 wr w1.heap.size (ps.take k)) ∧ Hid (Below w1.heap.size w1 wr)) (fun i _ => n - (intOf i).toNat)
    case atStart =>
      refine ⟨0, Nat.zero_le _, rfl, ⟨by simp, fun t ht => ?_⟩, below_new w1 _⟩
      have ht' : t = 0 ∨ t = 1 ∨ t = 2 ∨ t = 3 ∨ t = 4 ∨ t = 5 ∨ t = 6 ∨ t = 7 ∨ t = 8 ∨ t = 9 := by omega
      rcases ht' with rfl | rfl | rfl | rfl | rfl | rfl | rfl | rfl | rfl | rfl <;> exact ⟨by go_simp; rfl, by go_simp⟩
    case round =>
      obtain ⟨k, hk, rfl, HM, HB⟩ := hrel
      have hwr : w1.heap.size < wr.heap.size := HM.out.1
      by_cases hlt : k < n
      · obtain ⟨b, off, rfl, hbB, hc⟩ := HW.out (by have := HN.out; omega)
        obtain ⟨c0, c1, c2, c3, c4⟩ := hc k (by have := HN.out; omega)
        clear hc
        have hbw : b < w1.heap.size := by omega
        have b0 := (HB.out.cell (p := ⟨b, off + k * 5, none⟩) hbw).trans c0
        have b1 := (HB.out.cell (p := ⟨b, off + k * 5 + 1, none⟩) hbw).trans c1
        have b2 := (HB.out.cell (p := ⟨b, off + k * 5 + 2, none⟩) hbw).trans c2
        have b3 := (HB.out.cell (p := ⟨b, off + k * 5 + 3, none⟩) hbw).trans c3
        have b4 := (HB.out.cell (p := ⟨b, off + k * 5 + 4, none⟩) hbw).trans c4
        clear c0 c1 c2 c3 c4
        have hgk := HG.out k (by have := HN.out; omega)
        have HTS := Lib.hid (take_succ_getD ps k (by have := HN.out; omega))
        generalize ps.getD k default = p at *
        cases h1 : (p.k == 1)
        · have H1 := Lib.hid h1
          go_wp2
          go_roundw
          case rel => exact ⟨k + 1, by omega, by go_num, by rw [HTS.out]; exact (HM.out.below (below_new wr _)).keep H1.out, HB.out.alloc (by omega) _⟩
          case measure => simp [intOf]; omega
        · obtain ⟨q, hq⟩ : ∃ q : Nat, p.n = (q : Int) := by
            have := (good_num p k hgk).2 (by simpa using h1)
            exact ⟨p.n.toNat, by omega⟩
          have hq10 : q < 10 := by
            have := (good_num p k hgk).2 (by simpa using h1)
            omega
          have HMa := Lib.hid (HM.out.below (below_new wr (.cells #[.int .i64 p.k, .int .i64 p.a, .int .i64 p.b, .int .i64 p.c, .int .i64 p.n] 120)))
          rw [hq] at b4 HMa
          obtain ⟨hm1, hm2⟩ := HMa.out.2 q hq10
          have H1 := Lib.hid h1
          have HQ := Lib.hid hq
          clear hgk hq
          go_wp2
          go_roundw
          case rel => exact ⟨k + 1, by omega, by go_num, by rw [HTS.out]; exact (HM.out.set q hq10 H1.out HQ.out).below (below_new _ _), (HB.out.setCell (p := ⟨w1.heap.size, q, none⟩) (Nat.le_refl _) _).alloc (by simp [World.setCell]; omega) _⟩
          case measure => simp [intOf]; omega
      · obtain rfl : k = n := by omega
        rw [List.take_of_length_le (by have := HN.out; omega)] at HM
        clear hlt hk
        go_wp2
        go_loopw [6, 25] (fun v i wi => ∃ m : Nat, m ≤ 10 ∧ i = .int .i64 m ∧ Hid (OwnI wi (w1.heap.size + 1) v (((List.range m).filter (hasNode ps)).map fun m : Nat => (m : Int))) ∧ Hid (Below (w1.heap.size + 1) wr wi)) (fun _ i _ => 10 - (intOf i).toNat)
        case atStart => exact ⟨0, by omega, rfl, World.ownsRow_nil _ _ _ _, Below.refl _ _⟩
        case round =>
          obtain ⟨m, hm, rfl, HO, HBi⟩ := hrel
          by_cases hm10 : m < 10
          · have hc := (HBi.out.cell (p := ⟨w1.heap.size, m, none⟩) (by simp)).trans (HM.out.2 m hm10).1
            have HST := Lib.hid (mayR_step ps m)
            have hml := mayR_len ps m
            generalize hF : (((List.range m).filter (hasNode ps)).map fun m : Nat => (m : Int)) = F at *
            clear hF
            cases hh : hasNode ps m
            · rw [hh] at hc
              have HH := Lib.hid hh
              clear hh
              go_wp2
              go_roundw
              case rel => exact ⟨m + 1, by omega, by go_num, by rw [HST.out, HH.out]; simpa [Hid] using HO.out, HBi.out⟩
              case measure => simp [intOf]; omega
            · rw [hh] at hc
              have HH := Lib.hid hh
              clear hh
              obtain ⟨wi, hwi⟩ : ∃ wi : World, wi = wr := ⟨_, rfl⟩
              have hsz : w1.heap.size + 1 ≤ wi.heap.size := by have := HBi.out.size; rw [hwi]; omega
              rw [hwi] at hsz
              clear hwi
              go_wp2_with (at_builtin; refine wpList_append_own _ rfl _ _ 25 rfl (w1.heap.size + 1) 3 i0 (.int .i64 0) 1 8 Tryz.underlying25 hi hz0 hz1 hz2 rfl (by decide) _ _ _ rfl (HO.out.alloc _) ⟨_, 0, none⟩ 1 1 [.int .i64 m] rfl rfl (cell_one_new _ _ _) ?c2 ?c3 ?c4 ?c5 ?_)
              case c2 => intro u hu; simp at hu; subst hu; rfl
              case c3 => unfold maxLen; omega
              case c4 => omega
              case c5 => simp; omega
              intro v' w3 hown' hgrow _
              have hpos := (HO.out.alloc (.cells #[.int .i64 m] 3)).lt
              have HO' : Hid (OwnI w3 (w1.heap.size + 1) v' (((List.range (m + 1)).filter (hasNode ps)).map fun m : Nat => (m : Int))) := by
                rw [HST.out, HH.out]
                simpa [OwnI, Hid] using hown'
              have HB' := Lib.hid ((HBi.out.alloc hsz (.cells #[.int .i64 m] 3)).grown hgrow (by simp; omega) (fun q hq => (hpos q hq).1))
              clear hown' hgrow hpos
              go_wp2
              go_roundw
              case rel => exact ⟨m + 1, by omega, by go_num, HO'.out, HB'.out⟩
              case measure => simp [intOf]; omega
          · obtain rfl : m = 10 := by omega
            rw [mayR_below] at HO
            go_wp2
            go_ret
            exact ⟨_, rfl, own_mono HO.out (by omega), hB1.trans ((HB.out.trans (HBi.out.mono (by omega))).mono (by omega))⟩
/-- The footprint of the closure of ReadsOf: the variable's block, and the row that it holds. -/
def footR (g : Nat) (w : World) (k : Nat) : Prop := k = g ∨ ∃ v, w.cell? ⟨g, 0, none⟩ = some v ∧ v.ownBlock = some k
/-- What the closure of ReadsOf keeps: the variable holds the first ones of what was read; all below it is as it was. -/
structure IR (g : Nat) (W : World) (acc : List Int) (w : World) : Prop where
  bel : Below g W w
  lt : g < w.heap.size
  free : w.frozen? ⟨g, 0, none⟩ = false
  cell : ∃ v, w.cell? ⟨g, 0, none⟩ = some v ∧ OwnI w (g + 1) v (firsts acc)
theorem IR.step {g : Nat} {W w w' : World} {acc : List Int} (h : IR g W acc w) (hb : Below w.heap.size w w') : IR g W acc w' := by
  obtain ⟨v, hv, ho⟩ := h.cell
  exact ⟨h.bel.trans (hb.mono (Nat.le_of_lt h.lt)), Nat.lt_of_lt_of_le h.lt hb.size, (hb.frozen (p := ⟨g, 0, none⟩) h.lt).trans h.free, v, (hb.cell (p := ⟨g, 0, none⟩) h.lt).trans hv, own_below ho hb⟩
theorem IR.foot_lt {g : Nat} {W w : World} {acc : List Int} (h : IR g W acc w) (k : Nat) (hf : footR g w k) : k < w.heap.size := by
  rcases hf with rfl | ⟨v, hv, hk⟩
  · exact h.lt
  · obtain ⟨v', hv', ho⟩ := h.cell
    rw [hv] at hv'
    cases hv'
    exact (ho.lt k hk).2
theorem IR.foot_step {g : Nat} {W w w' : World} {acc : List Int} (h : IR g W acc w) (hb : Below w.heap.size w w') (k : Nat) (hf : footR g w' k) : footR g w k := by
  rcases hf with rfl | ⟨v, hv, hk⟩
  · exact .inl rfl
  · exact .inr ⟨v, by rw [← hb.cell (p := ⟨g, 0, none⟩) h.lt]; exact hv, hk⟩
theorem firsts_snoc (acc : List Int) (x : Int) : firsts (acc ++ [x]) = if x ∈ firsts acc then firsts acc else firsts acc ++ [x] := by
  unfold firsts
  rw [List.foldl_append]
  rfl
set_option maxRecDepth 100000 in
set_option maxHeartbeats 1600000 in
theorem look_read (A' : Option Addr) (m c' g gv q : Nat) (vs acc : List Int) (W w : World) (B : Nat) (hm : m = vs.length) (hs' : m ≤ 2000000) (hq : q < vs.length) (hgv : gv < g) (hBg : B ≤ g) (hc : W.cell? ⟨gv, 0, none⟩ = some (.slice A' m c')) (h : IS W B A' vs) (hI : IR g W acc w) (hac : (firsts acc).length ≤ 1000000) :
    Calls Tryz.prog 125 #[.int .i64 q, .pointer (some ⟨g, 0, none⟩), .pointer (some ⟨gv, 0, none⟩)] w fun e w' => e = .returned (.int .i64 (vs.getD q 0)) ∧ IR g W (acc ++ [(q : Int)]) w' ∧ Fr (footR g) w w' := by
  obtain ⟨i0, hi, hz0, hz1, hz2⟩ := info_parts info_int
  obtain ⟨b, off, rfl, hb, hcc⟩ := h (by omega)
  have hx := (hI.bel.cell (p := ⟨b, off + q, none⟩) (by show b < g; omega)).trans (hcc q hq)
  have hcv := (hI.bel.cell (p := ⟨gv, 0, none⟩) hgv).trans hc
  have hqm : q < m := by omega
  generalize vs.getD q 0 = x at *
  obtain ⟨v, hv, ho⟩ := hI.cell
  obtain ⟨A3, c3, rfl, hIS⟩ := ho.form
  have hgw := hI.lt
  have hfz := hI.free
  have HII := Lib.hid hI
  have HO := Lib.hid ho
  have HIS := Lib.hid hIS
  have hFS := firsts_snoc acc q
  clear hcc h hm hq hc hI ho hIS
  generalize hF : firsts acc = F at *
  have HF := Lib.hid hF
  have HFS := Lib.hid hFS
  clear hF hFS
  generalize hl : F.length = l at *
  have HL := Lib.hid hl
  clear hl
  cases hin : decide ((q : Int) ∈ F)
  · have HIN := Lib.hid hin
    clear hin
    go_enter Tryz.func125, Tryz.ntmps125
    go_wp2_with fail
    refine (slices_Contains A3 l c3 F q _ _ (Nat.le_refl _) HL.out.symm HIS.out (by omega)).mono ?_
    rintro e w' ⟨rfl, rfl⟩
    rw [HIN.out]
    go_wp2_with (at_builtin; refine wpList_append_own_at _ rfl _ _ 25 rfl (g + 1) 3 i0 (.int .i64 0) 1 8 Tryz.underlying25 hi hz0 hz1 hz2 rfl (by decide) _ _ _ rfl (by have := HO.out.alloc (.cells #[.int .i64 q] 3); rw [HL.out] at this; exact this) ⟨w.heap.size, 0, none⟩ 1 1 [.int .i64 q] rfl rfl (cell_one_new _ _ _) ?c2 ?c3 ?c4 ?c5 ?_)
    case c2 => intro u hu; simp at hu; subst hu; rfl
    case c3 => unfold maxLen; omega
    case c4 => omega
    case c5 => simp; omega
    intro v' w3 hown' hgrow _ hwhere
    have hol := HO.out.lt
    obtain ⟨A4, c4, rfl⟩ := own_form hown'
    have hng : ∀ j, j ≤ g → some j ≠ (Value.slice A3 l c3).ownBlock := fun j hj e => by have := (hol j e.symm).1; omega
    have hga : ∀ j, j ≤ g → (w.alloc (.cells #[.int .i64 q] 3)).heap[j]? = w.heap[j]? := fun j hj => Below.heap_alloc w _ j (by omega)
    have hw3 : ∀ j, j ≤ g → w3.heap[j]? = w.heap[j]? := fun j hj => (hgrow.block j (by simp; omega) (hng j hj)).trans (hga j hj)
    have hv3 : w3.cell? ⟨g, 0, none⟩ = some (.slice A3 l c3) := (World.cell?_of_block (a := ⟨g, 0, none⟩) (hw3 g (Nat.le_refl _))).trans hv
    have hf3 : w3.frozen? ⟨g, 0, none⟩ = false := (World.frozen?_of_block (a := ⟨g, 0, none⟩) (hw3 g (Nat.le_refl _))).trans hfz
    have hcv3 : w3.cell? ⟨gv, 0, none⟩ = some (.slice (some ⟨b, off, none⟩) m c') := (World.cell?_of_block (a := ⟨gv, 0, none⟩) (hw3 gv (Nat.le_of_lt hgv))).trans hcv
    have hx3 : w3.cell? ⟨b, off + q, none⟩ = some (.int .i64 x) := (World.cell?_of_block (a := ⟨b, off + q, none⟩) (hw3 b (by omega))).trans hx
    have hbg : b ≠ g := by omega
    have hgvg : gv ≠ g := by omega
    have hcv4 := (World.cell?_setCell_other (w := w3) (a := ⟨g, 0, none⟩) (b := ⟨gv, 0, none⟩) (.slice A4 (l + 1) c4) (by intro e; simp at e; try omega)).trans hcv3
    have hx4 := (World.cell?_setCell_other (w := w3) (a := ⟨g, 0, none⟩) (b := ⟨b, off + q, none⟩) (.slice A4 (l + 1) c4) (by intro e; simp at e; try omega)).trans hx3
    have HG := Lib.hid hgrow
    have HOW := Lib.hid hown'
    have HWH := Lib.hid hwhere
    have HW3 := Lib.hid hw3
    have HOL := Lib.hid hol
    have HNG := Lib.hid hng
    clear hgrow hown' hwhere hw3 hol hng hga hcv hx hfz
    go_wp2
    go_ret
    have hnin : ¬ (q : Int) ∈ F := of_decide_eq_false HIN.out
    have hsz : w.heap.size + 1 ≤ w3.heap.size := by have := HG.out.size; simpa using this
    refine ⟨rfl, ⟨?_, by simp [World.setCell]; omega, by simpa using hf3, .slice A4 (l + 1) c4, World.cell?_setCell_same _ _ _ hv3, ?_⟩, ⟨by simp [World.setCell]; omega, ?_, ?_⟩⟩
    · exact ((HII.out.bel.alloc (Nat.le_of_lt hgw) _).grown HG.out (by simp; omega) (fun k hk => by have := (HOL.out k hk).1; omega)).setCell (p := ⟨g, 0, none⟩) (Nat.le_refl _) _
    · rw [HFS.out, if_neg hnin]
      refine ownsRow_setCell_below ?_ (by simp) _
      have h1 := HOW.out
      rw [List.length_append, List.map_append, HL.out]
      exact h1
    · intro k hk hn
      have hkg : k ≠ g := fun e => hn (.inl e)
      have hko : some k ≠ (Value.slice A3 l c3).ownBlock := fun e => hn (.inr ⟨_, ‹w.cell? ⟨g, 0, none⟩ = some (.slice A3 l c3)›, e.symm⟩)
      rw [Below.heap_setCell _ _ _ _ hkg, HG.out.block k (by simp; omega) hko, Below.heap_alloc _ _ _ hk]
    · intro k hk
      rcases hk with rfl | ⟨v2, hv2, hk2⟩
      · exact .inl (.inl rfl)
      · rw [World.cell?_setCell_same _ _ _ hv3] at hv2
        cases hv2
        rcases HWH.out with h1 | h1
        · exact .inl (.inr ⟨_, ‹w.cell? ⟨g, 0, none⟩ = some (.slice A3 l c3)›, h1.symm.trans hk2⟩)
        · rw [h1] at hk2
          simp at hk2
          right; omega
  · have HIN := Lib.hid hin
    clear hin
    go_enter Tryz.func125, Tryz.ntmps125
    go_wp2_with fail
    refine (slices_Contains A3 l c3 F q _ _ (Nat.le_refl _) HL.out.symm HIS.out (by omega)).mono ?_
    rintro e w' ⟨rfl, rfl⟩
    rw [HIN.out]
    go_wp2
    go_ret
    refine ⟨rfl, ?_, Fr.of_below (Below.refl _ _) fun k hf => hf⟩
    have hmem : (q : Int) ∈ F := of_decide_eq_true HIN.out
    refine ⟨HII.out.bel, HII.out.lt, HII.out.free, ?_⟩
    rw [HFS.out, if_pos hmem, ← HF.out]
    exact HII.out.cell
end Go.Proofs.YtlcpgbbpjnkihaaGreat

namespace Go.Proofs.YtlcpgbbpjnkihaaGreat
set_option linter.unusedSimpArgs false
set_option linter.unusedVariables false
open Go.RowKit
/-- A node of the list ahead that is no effect. -/
def rdA (gs : List Nd) (x : Int) : Bool := decide (x < (gs.length : Int)) && !((gs.getD x.toNat default).k == 2)
theorem rdA_take (gs : List Nd) (i : Nat) (hi : i ≤ gs.length) (x : Int) (hx : 0 ≤ x) : rdA (gs.take i) x = rdOK gs i x := by
  unfold rdA rdOK
  rw [List.length_take, Nat.min_eq_left hi]
  by_cases h : x < (i : Int)
  · have : (gs.take i).getD x.toNat default = gs.getD x.toNat default := by
      simp only [List.getD, List.getElem?_take, if_pos (show x.toNat < i by omega)]
    rw [this]
  · rw [decide_eq_false h]; rfl
set_option maxRecDepth 100000 in
set_option maxHeartbeats 1600000 in
theorem impl_areReadable (A A' : Option Addr) (n c l c' : Nat) (gs : List Nd) (L : List Int) (w : World) (B : Nat) (hB : B ≤ w.heap.size) (hn : n = gs.length) (hl : l = L.length) (h : GS w B A gs) (h' : IS w B A' L) (hs : n ≤ 2000000) (hs' : l ≤ 2000000) (hbd : ∀ j, j < l → 0 ≤ L.getD j 0) :
    Calls Tryz.prog 107 #[.slice A n c, .slice A' l c'] w fun e w' => e = .returned (.bool (L.all (rdA gs))) ∧ w = w' := by
  have H := Lib.hid h
  have HI := Lib.hid h'
  have HN := Lib.hid hn
  have HL := Lib.hid hl
  have HBD := Lib.hid hbd
  clear h h' hn hl hbd
  go_enter Tryz.func107, Tryz.ntmps107
  go_wp2
  go_loop [9] (fun u => ∃ k : Nat, k ≤ l ∧ u = .int .i64 k ∧ Hid (∀ j, j < k → rdA gs (L.getD j 0) = true)) (fun u => l - (intOf u).toNat)
  case atStart => exact ⟨0, by omega, rfl, by intro j hj; omega⟩
  case round =>
    obtain ⟨k, hk, rfl, HK⟩ := hrel
    by_cases hlt : k < l
    · obtain ⟨b', off', rfl, hb', hc⟩ := HI.out (by have := HL.out; omega)
      have hx := hc k (by have := HL.out; omega)
      have hx0 := HBD.out k hlt
      clear hc
      generalize hxx : L.getD k 0 = x at *
      have HX := Lib.hid hxx
      clear hxx
      obtain ⟨t, rfl⟩ : ∃ t : Nat, x = (t : Int) := ⟨x.toNat, by omega⟩
      by_cases htn : t < n
      · obtain ⟨b, off, rfl, hbB, c3, _⟩ := H.out.at_ t (by have := HN.out; omega)
        have hro : rdA gs (t : Int) = !((gs.getD t default).k == 2) := by unfold rdA; rw [decide_eq_true (by have := HN.out; omega)]; simp
        generalize gs.getD t default = q at *
        cases hq : (q.k == 2)
        all_goals
          have HR := Lib.hid hro
          have HQ := Lib.hid hq
          clear hro
          go_wp2
        · go_round
          case rel => exact ⟨k + 1, by omega, by go_num, fun j hj => by
            rcases Nat.lt_or_ge j k with h1 | h1
            · exact HK.out j h1
            · obtain rfl : j = k := by omega
              rw [HX.out, HR.out, HQ.out]; rfl⟩
          case measure => simp [intOf]; omega
        · go_ret
          refine ⟨ret_b ?_, rfl⟩
          exact (all_bad L (rdA gs) k (by have := HL.out; omega) (by rw [HX.out, HR.out, HQ.out]; rfl)).symm
      · have hro : rdA gs (t : Int) = false := by unfold rdA; rw [decide_eq_false (by have := HN.out; omega)]; rfl
        have HR := Lib.hid hro
        clear hro
        go_wp2
        go_ret
        refine ⟨ret_b ?_, rfl⟩
        exact (all_bad L (rdA gs) k (by have := HL.out; omega) (by rw [HX.out, HR.out])).symm
    · go_wp2
      go_ret
      refine ⟨ret_b ?_, rfl⟩
      exact (all_good L (rdA gs) fun j hj => HK.out j (by have := HL.out; omega)).symm
/-- Whether a node fits behind others. -/
def fitsB (gs : List Nd) (d : Nd) : Bool :=
  if d.k == 0 then decide (d.ps.length = 0)
  else if d.k == 1 then validF d.ps && (mayR d.ps).all (rdA gs)
  else if d.k == 2 then validF d.ps && (mayR d.ps).all (rdA gs)
  else false
theorem fits_node (gs : List Nd) (i : Nat) (hi : i ≤ gs.length) : fitsB (gs.take i) (gs.getD i default) = nodeOK gs i := by
  unfold fitsB nodeOK goodRd
  have e : (mayR (gs.getD i default).ps).all (rdA (gs.take i)) = (mayR (gs.getD i default).ps).all (rdOK gs i) := by
    rw [Bool.eq_iff_iff, List.all_eq_true, List.all_eq_true]
    constructor
    · intro h x hx; rw [← rdA_take gs i hi x (mem_mayR_bd _ _ hx).1]; exact h x hx
    · intro h x hx; rw [rdA_take gs i hi x (mem_mayR_bd _ _ hx).1]; exact h x hx
  rw [e]
set_option maxRecDepth 100000 in
set_option maxHeartbeats 1600000 in
theorem impl_fitsBehind (A A1 : Option Addr) (n c n1 c1 : Nat) (gs : List Nd) (k : Int) (ps : List Pt) (w : World) (B : Nat) (hB : B ≤ w.heap.size) (hn : n = gs.length) (hn1 : n1 = ps.length) (h : GS w B A gs) (h1 : PS w B A1 ps) (hs : n ≤ 2000000) (hs1 : n1 ≤ 1999999) :
    Calls Tryz.prog 89 #[.slice A n c, .agg #[.int .i64 k, .slice A1 n1 c1]] w fun e w' => e = .returned (.bool (fitsB gs ⟨k, ps⟩)) ∧ Below w.heap.size w w' := by
  have H := Lib.hid h
  have H1 := Lib.hid h1
  have HN := Lib.hid hn
  have HN1 := Lib.hid hn1
  have hfe : fitsB gs ⟨k, ps⟩ = if k == 0 then decide (ps.length = 0) else if k == 1 then validF ps && (mayR ps).all (rdA gs) else if k == 2 then validF ps && (mayR ps).all (rdA gs) else false := rfl
  cases h0 : (k == 0)
  · by_cases h12 : (k == 1) = true ∨ (k == 2) = true
    · have hfe2 : fitsB gs ⟨k, ps⟩ = (validF ps && (mayR ps).all (rdA gs)) := by
        rw [hfe, h0]
        rcases h12 with e | e
        · rw [e]; rfl
        · rw [e]; cases (k == 1) <;> rfl
      rw [hfe2]
      have HVF := Lib.hid fun (w : World) (hB : B ≤ w.heap.size) (h : PS w B A1 ps) => impl_ValidFormula A1 n1 c1 ps w B hB hn1 h (by omega)
      have HMR := Lib.hid fun (w : World) (hB : B ≤ w.heap.size) (h : PS w B A1 ps) => impl_MayRead A1 n1 c1 ps w B hB hn1 h (by omega)
      clear h h1 hn hn1 hfe hfe2
      cases hv : validF ps
      · rw [hv] at HVF
        clear hv HMR
        rw [show (false && (mayR ps).all (rdA gs)) = false from rfl]
        cases ha : (k == 1)
        · have hb : (k == 2) = true := by rcases h12 with e | e; rw [ha] at e; cases e; exact e
          clear h12
          go_enter Tryz.func89, Tryz.ntmps89
          go_wp2_with fail
          refine (HVF.out _ (by simp; omega) (H1.out.alloc hB _)).mono ?_
          rintro e w1 ⟨rfl, hb1⟩
          go_wp2
          go_ret
          exact ⟨rfl, ((Below.refl _ _).alloc (Nat.le_refl _) _).trans (hb1.mono (by simp))⟩
        · clear h12
          go_enter Tryz.func89, Tryz.ntmps89
          go_wp2_with fail
          refine (HVF.out _ (by simp; omega) (H1.out.alloc hB _)).mono ?_
          rintro e w1 ⟨rfl, hb1⟩
          go_wp2
          go_ret
          exact ⟨rfl, ((Below.refl _ _).alloc (Nat.le_refl _) _).trans (hb1.mono (by simp))⟩
      · have hmf : mayF ps = mayR ps := by simp [mayF, hv]
        rw [hv] at HVF
        rw [hmf] at HMR
        have hlen := mayR_len ps 10
        rw [mayR_below] at hlen
        have hbd := mayR_getD_bd ps
        clear hv hmf
        generalize mayR ps = L at *
        generalize hl : L.length = l at *
        have HL := Lib.hid hl
        have HAR := Lib.hid fun (A' : Option Addr) (c' : Nat) (w : World) (B : Nat) (hB : B ≤ w.heap.size) (h : GS w B A gs) (h' : IS w B A' L) => impl_areReadable A A' n c l c' gs L w B hB HN.out hl.symm h h' hs (by omega) (fun j hj => (hbd j hj).1)
        clear hl hbd
        rw [show (true && L.all (rdA gs)) = L.all (rdA gs) from Bool.true_and _]
        generalize L.all (rdA gs) = r at *
        cases ha : (k == 1)
        · have hb : (k == 2) = true := by rcases h12 with e | e; rw [ha] at e; cases e; exact e
          clear h12
          go_enter Tryz.func89, Tryz.ntmps89
          go_wp2_with fail
          refine (HVF.out _ (by simp; omega) (H1.out.alloc hB _)).mono ?_
          rintro e w1 ⟨rfl, hb1⟩
          have hz1 : w.heap.size < w1.heap.size := by have := hb1.size; simp at this; omega
          have hbx : w1.cell? ⟨w.heap.size, 1, none⟩ = some (.slice A1 n1 c1) := (hb1.cell (p := ⟨w.heap.size, 1, none⟩) (by simp)).trans (by go_simp)
          have HP1 := Lib.hid ((H1.out.alloc hB (.cells #[.int .i64 k, .slice A1 n1 c1] 79)).below hb1 (by simp; omega))
          have HG1 := Lib.hid ((H.out.alloc hB (.cells #[.int .i64 k, .slice A1 n1 c1] 79)).below hb1 (by simp; omega))
          have hB1 : Below w.heap.size w w1 := ((Below.refl _ _).alloc (Nat.le_refl _) _).trans (hb1.mono (by simp))
          clear hb1
          go_wp2_with fail
          refine (HMR.out _ (by omega) HP1.out).mono ?_
          rintro e w2 ⟨v2, rfl, hown, hb2⟩
          obtain ⟨A2, c2, rfl, hI⟩ := hown.form
          have HI := Lib.hid hI
          have HG2 := Lib.hid ((HG1.out.below hb2 (by omega)).more (B' := w2.heap.size) (by have := hb2.size; omega))
          rw [HL.out]
          clear hI hown
          go_wp2_with fail
          refine (HAR.out _ _ _ _ (Nat.le_refl _) HG2.out HI.out).mono ?_
          rintro e w3 ⟨rfl, rfl⟩
          go_wp2
          go_ret
          exact ⟨rfl, hB1.trans (hb2.mono (by omega))⟩
        · clear h12
          go_enter Tryz.func89, Tryz.ntmps89
          go_wp2_with fail
          refine (HVF.out _ (by simp; omega) (H1.out.alloc hB _)).mono ?_
          rintro e w1 ⟨rfl, hb1⟩
          have hz1 : w.heap.size < w1.heap.size := by have := hb1.size; simp at this; omega
          have hbx : w1.cell? ⟨w.heap.size, 1, none⟩ = some (.slice A1 n1 c1) := (hb1.cell (p := ⟨w.heap.size, 1, none⟩) (by simp)).trans (by go_simp)
          have HP1 := Lib.hid ((H1.out.alloc hB (.cells #[.int .i64 k, .slice A1 n1 c1] 79)).below hb1 (by simp; omega))
          have HG1 := Lib.hid ((H.out.alloc hB (.cells #[.int .i64 k, .slice A1 n1 c1] 79)).below hb1 (by simp; omega))
          have hB1 : Below w.heap.size w w1 := ((Below.refl _ _).alloc (Nat.le_refl _) _).trans (hb1.mono (by simp))
          clear hb1
          go_wp2_with fail
          refine (HMR.out _ (by omega) HP1.out).mono ?_
          rintro e w2 ⟨v2, rfl, hown, hb2⟩
          obtain ⟨A2, c2, rfl, hI⟩ := hown.form
          have HI := Lib.hid hI
          have HG2 := Lib.hid ((HG1.out.below hb2 (by omega)).more (B' := w2.heap.size) (by have := hb2.size; omega))
          rw [HL.out]
          clear hI hown
          go_wp2_with fail
          refine (HAR.out _ _ _ _ (Nat.le_refl _) HG2.out HI.out).mono ?_
          rintro e w3 ⟨rfl, rfl⟩
          go_wp2
          go_ret
          exact ⟨rfl, hB1.trans (hb2.mono (by omega))⟩
    · have ha : (k == 1) = false := by cases e : (k == 1); rfl; exact absurd (.inl e) h12
      have hb : (k == 2) = false := by cases e : (k == 2); rfl; exact absurd (.inr e) h12
      rw [hfe, h0, ha, hb]
      clear h h1 hn hn1 hfe h12
      go_enter Tryz.func89, Tryz.ntmps89
      go_wp2
      go_ret
      exact ⟨rfl, (Below.refl _ _).alloc (Nat.le_refl _) _⟩
  · rw [hfe, h0]
    clear h h1 hn hn1 hfe
    go_enter Tryz.func89, Tryz.ntmps89
    go_wp2
    go_ret
    refine ⟨ret_b ?_, (Below.refl _ _).alloc (Nat.le_refl _) _⟩
    rw [HN1.out]
    cases ps <;> simp
    omega
set_option maxRecDepth 100000 in
set_option maxHeartbeats 1600000 in
theorem impl_ValidGraph (A : Option Addr) (n c : Nat) (gs : List Nd) (w : World) (B : Nat) (hB : B ≤ w.heap.size) (hn : n = gs.length) (h : GS w B A gs) (hs : GB gs) (hnc : n ≤ c) :
    Calls Tryz.prog 66 #[.agg #[.slice A n c]] w fun e w' => e = .returned (.bool (validG gs)) ∧ Below w.heap.size w w' := by
  have hn1 : n ≤ 1048576 := by rw [hn]; exact hs.1
  by_cases h10 : 10 < n
  · rw [validG_long gs (by omega)]
    clear h hn hs
    go_enter Tryz.func66, Tryz.ntmps66
    go_wp2
    go_ret
    exact ⟨rfl, (Below.refl _ _).alloc (Nat.le_refl _) _⟩
  have H := Lib.hid h
  have HN := Lib.hid hn
  have HS := Lib.hid hs
  clear h hn hs
  go_enter Tryz.func66, Tryz.ntmps66
  go_wp2
  go_loopw [12] (fun u wr => ∃ k : Nat, k ≤ n ∧ u = .int .i64 k ∧ Hid (∀ j, j < k → nodeOK gs j = true) ∧ Below (w.heap.size + 1) (w.alloc (.cells #[.slice A n c] 36)) wr) (fun u _ => n - (intOf u).toNat)
  case atStart => exact ⟨0, by omega, rfl, by intro j hj; omega, Below.refl _ _⟩
  case round =>
    obtain ⟨k, hk, rfl, HK, hbr⟩ := hrel
    have hbox : wr.cell? ⟨w.heap.size, 0, none⟩ = some (.slice A n c) := (hbr.cell (p := ⟨w.heap.size, 0, none⟩) (by simp)).trans (by go_simp)
    have hwr : w.heap.size + 1 ≤ wr.heap.size := by have := hbr.size; simpa using this
    have hws : w.heap.size < wr.heap.size := by omega
    by_cases hlt : k < n
    · obtain ⟨b, off, rfl, hbB, c0, A1, n1, c1, c2, hn1', hps⟩ := H.out.at_ k (by have := HN.out; omega)
      have hx := HS.out.2 k
      have b0 : wr.cell? ⟨b, off + k * 2, none⟩ = _ := ((hbr.cell (p := ⟨b, off + k * 2, none⟩) (by simp; omega)).trans (World.cell?_alloc_lt _ _ _ (by simp; omega))).trans c0
      have b1 : wr.cell? ⟨b, off + k * 2 + 1, none⟩ = _ := ((hbr.cell (p := ⟨b, off + k * 2 + 1, none⟩) (by simp; omega)).trans (World.cell?_alloc_lt _ _ _ (by simp; omega))).trans c2
      have HPS := Lib.hid ((hps.alloc hB (.cells #[.slice (some ⟨b, off, none⟩) n c] 36)).below hbr (by omega))
      have HGS := Lib.hid (((H.out.take k (by have := HN.out; omega)).alloc hB (.cells #[.slice (some ⟨b, off, none⟩) n c] 36)).below hbr (by omega))
      have hfn := fits_node gs k (by have := HN.out; omega)
      have hlen : k = (gs.take k).length := by rw [List.length_take]; have := HN.out; omega
      clear c0 c2 hps
      generalize gs.getD k default = d at *
      have hy1 : n1 ≤ 1999999 := by omega
      have HFB := Lib.hid fun (w : World) (hB : B ≤ w.heap.size) (h : GS w B (some ⟨b, off, none⟩) (gs.take k)) (h1 : PS w B A1 d.ps) => impl_fitsBehind (some ⟨b, off, none⟩) A1 k c n1 c1 (gs.take k) d.k d.ps w B hB hlen hn1' h h1 (by omega) hy1
      rw [show fitsB (gs.take k) ⟨d.k, d.ps⟩ = nodeOK gs k from hfn] at HFB
      have HNK := Lib.hid fun (h : nodeOK gs k = false) => validG_bad gs k (by have := HN.out; omega) h
      have HNT : Hid (nodeOK gs k = true → ∀ j, j < k + 1 → nodeOK gs j = true) := fun h j hj => by
        rcases Nat.lt_or_ge j k with h1 | h1
        · exact HK.out j h1
        · obtain rfl : j = k := by omega
          exact h
      clear hfn hlen hn1' hx
      generalize nodeOK gs k = r at *
      cases r
      all_goals
        go_wp2
        obtain ⟨W2, hW2⟩ : ∃ W2, W2 = wr.alloc (.cells #[.int .i64 d.k, .slice A1 n1 c1] 79) := ⟨_, rfl⟩
        have q0 : W2.cell? ⟨w.heap.size, 0, none⟩ = some (.slice (some ⟨b, off, none⟩) n c) := by rw [hW2]; exact (World.cell?_alloc_lt _ _ _ hws).trans hbox
        have q1 : W2.cell? ⟨wr.heap.size, 0, none⟩ = some (.int .i64 d.k) := by rw [hW2]; go_simp
        have q2 : W2.cell? ⟨wr.heap.size, 1, none⟩ = some (.slice A1 n1 c1) := by rw [hW2]; go_simp
        have HP2 : Hid (PS W2 B A1 d.ps) := by rw [hW2]; exact HPS.out.alloc (by omega) _
        have HG2 : Hid (GS W2 B (some ⟨b, off, none⟩) (gs.take k)) := by rw [hW2]; exact HGS.out.alloc (by omega) _
        have hb2 : Below (w.heap.size + 1) (w.alloc (.cells #[.slice (some ⟨b, off, none⟩) n c] 36)) W2 := by rw [hW2]; exact hbr.alloc (by omega) _
        have hz2 : w.heap.size + 1 < W2.heap.size := by rw [hW2]; simp; omega
        have hkc : k ≤ c := by omega
        rw [← hW2]
        clear hW2 HPS HGS b0 b1
        go_still_tail 5, (by kernel_rfl)
        go_wp2_with fail
        refine (HFB.out W2.drew (show B ≤ W2.heap.size by omega) HG2.out HP2.out).mono ?_
        rintro e w3 ⟨rfl, hb3⟩
        have hB3 := hb2.drew.trans (hb3.mono (show w.heap.size + 1 ≤ W2.heap.size by omega))
        go_wp2
      · go_ret
        exact ⟨ret_b (HNK.out trivial).symm, ((Below.refl _ _).alloc (Nat.le_refl _) _).trans (hB3.mono (by omega))⟩
      · go_roundw
        case rel => exact ⟨k + 1, by omega, by go_num, HNT.out trivial, hB3⟩
        case measure => simp [intOf]; omega
    · go_wp2
      go_ret
      refine ⟨ret_b ?_, ((Below.refl _ _).alloc (Nat.le_refl _) _).trans (hbr.mono (by omega))⟩
      rw [validG_fin gs fun j hj => HK.out j (by have := HN.out; omega)]
      have := HN.out
      simp
      omega
end Go.Proofs.YtlcpgbbpjnkihaaGreat

namespace Go.Proofs.YtlcpgbbpjnkihaaGreat
set_option linter.unusedSimpArgs false
set_option linter.unusedVariables false
open Go.RowKit
theorem NdO.setCell {lo hi : Nat} {d : Nd} {x y : Value} {w : World} (h : NdO lo hi d x y w) {a : Addr} (ha : a.block < lo) (u : Value) : NdO lo hi d x y (w.setCell a u) :=
  h.keep fun k hk _ => Below.heap_setCell _ _ _ _ (by omega)
theorem OwG.setCell {lo hi n : Nat} {v : Value} {gs : List Nd} {w : World} (h : OwG lo hi v n gs w) {a : Addr} (ha : a.block < lo) (u : Value) : OwG lo hi v n gs (w.setCell a u) :=
  OwG.loc _ _ _ _ _ _ _ h fun k hk _ => Below.heap_setCell _ _ _ _ (by omega)
end Go.Proofs.YtlcpgbbpjnkihaaGreat

namespace Go.Proofs.YtlcpgbbpjnkihaaGreat
set_option linter.unusedSimpArgs false
set_option linter.unusedVariables false
open Go.RowKit
theorem As.graph {lo hi n c : Nat} {A : Option Addr} {gs : List Nd} {w : World} (h : As lo hi (OwG lo hi (.slice A n c) n gs) w) : GS w w.heap.size A gs := h.it.nodes.more h.le
theorem As.ints {lo hi n c : Nat} {A : Option Addr} {xs : List Int} {w : World} (h : As lo hi (OwR lo hi 3 1 (.slice A n c) n (xs.map (Value.int .i64))) w) : IS w w.heap.size A xs := h.it.ints.more h.le
theorem As.parts {lo hi n c : Nat} {A : Option Addr} {ps : List Pt} {w : World} (h : As lo hi (OwR lo hi 120 5 (.slice A n c) n (ps.flatMap Pt.cells)) w) : PS w w.heap.size A ps := h.it.parts.more h.le
end Go.Proofs.YtlcpgbbpjnkihaaGreat

namespace Go.Proofs.YtlcpgbbpjnkihaaGreat
set_option linter.unusedSimpArgs false
set_option linter.unusedVariables false
open Go.RowKit
theorem As.lists {lo hi n c : Nat} {A : Option Addr} {xss : List (List Int)} {w : World} (h : As lo hi (OwSS lo hi (.slice A n c) n xss) w) : SS w w.heap.size A xss := h.it.lists.more h.le
end Go.Proofs.YtlcpgbbpjnkihaaGreat

namespace Go.Proofs.YtlcpgbbpjnkihaaGreat
set_option linter.unusedSimpArgs false
set_option linter.unusedVariables false
open Go.RowKit
/-- What ReadsOf answers. -/
def readF (ps : List Pt) (vs : List Int) : List Int := if canEv ps vs then firsts ((whole ps).rds vs) else []
theorem rds_whole (ps : List Pt) (vs : List Int) (h : ps.length ≤ 12) : ((whole ps).rds vs).length ≤ 531441 :=
  Nat.le_trans (rds_len ps vs ps.length (ps.length - 1)) (Nat.pow_le_pow_right (by omega) h)
set_option maxHeartbeats 800000 in
theorem impl_ReadsOf (A A' : Option Addr) (n c m c' : Nat) (ps : List Pt) (vs : List Int) (B : Nat) (hn : n = ps.length) (hm : m = vs.length) (hs : n ≤ 1999999) (hs' : m ≤ 2000000) (w : World) (hB : B ≤ w.heap.size) (h : PS w B A ps) (h' : IS w B A' vs) :
    Calls Tryz.prog 118 #[.agg #[.slice A n c], .slice A' m c'] w fun e w' => RetI w (readF ps vs) e w' := by
  have H := Lib.hid h
  have HN := Lib.hid hn
  have H' := Lib.hid h'
  have HM := Lib.hid hm
  clear hn h hm h'
  cases hc : canEv ps vs
  · have hr : readF ps vs = [] := by simp [readF, hc]
    rw [hr]
    have HC := Lib.hid hc
    clear hr hc
    go_enter Tryz.func118, Tryz.ntmps118
    go_wp2_with fail
    refine (impl_canEvaluate _ _ _ _ _ _ ps vs _ B (by simp; omega) HN.out HM.out ((H.out.alloc hB _).alloc (by simp; omega) _) ((H'.out.alloc hB _).alloc (by simp; omega) _) (by omega) hs').mono ?_
    rintro e w1 ⟨rfl, hb⟩
    rw [HC.out]
    go_wp2
    go_ret
    exact ⟨_, rfl, World.ownsRow_nil _ _ _ _, (((Below.refl _ _).alloc (Nat.le_refl _) _).alloc (by simp) _).trans (hb.mono (by simp; omega))⟩
  · have hr : readF ps vs = firsts ((whole ps).rds vs) := by simp [readF, hc]
    rw [hr]
    obtain ⟨hv, hvo, hm10, hea⟩ := canEv_parts ps vs hc
    obtain ⟨hg, h1, h12⟩ := validF_good ps hv
    have hok : (whole ps).ok vs.length := tmAt_ok ps vs.length hg hea ps.length (ps.length - 1) (by omega) (by omega)
    have HWH := Lib.hid (fun (w : World) => impl_wholeOf A n c ps B HN.out hg (by omega) (by have := HN.out; omega) w)
    rw [show tmAt ps n (n - 1) = whole ps by rw [HN.out]; rfl] at HWH
    have hrl := rds_whole ps vs h12
    have HC := Lib.hid hc
    have HVO := Lib.hid hvo
    have HOK := Lib.hid hok
    clear hr hc hv hvo hea hg h1 h12 hok
    generalize whole ps = t at *
    go_enter Tryz.func118, Tryz.ntmps118
    go_wp2_with fail
    refine (impl_canEvaluate _ _ _ _ _ _ ps vs _ B (by simp; omega) HN.out HM.out ((H.out.alloc hB _).alloc (by simp; omega) _) ((H'.out.alloc hB _).alloc (by simp; omega) _) (by omega) hs').mono ?_
    rintro e w1 ⟨rfl, hb⟩
    rw [HC.out]
    have hz : w.heap.size + 1 + 1 ≤ w1.heap.size := by have := hb.size; simpa using this
    have hz0 : w.heap.size < w1.heap.size := by omega
    have hbox : w1.cell? ⟨w.heap.size, 0, none⟩ = some (.slice A n c) := (hb.cell (p := ⟨w.heap.size, 0, none⟩) (by simp; omega)).trans (by go_simp)
    have hbox2 : w1.cell? ⟨w.heap.size + 1, 0, none⟩ = some (.slice A' m c') := (hb.cell (p := ⟨w.heap.size + 1, 0, none⟩) (by simp)).trans (by go_simp)
    have HP1 := Lib.hid (((H.out.alloc hB (.cells #[.slice A n c] 77)).alloc (by simp; omega) (.cells #[.slice A' m c'] 25)).below hb (by simp; omega))
    have HI1 := Lib.hid (((H'.out.alloc hB (.cells #[.slice A n c] 77)).alloc (by simp; omega) (.cells #[.slice A' m c'] 25)).below hb (by simp; omega))
    have hB1 : Below w.heap.size w w1 := (((Below.refl _ _).alloc (Nat.le_refl _) _).alloc (by simp) _).trans (hb.mono (by simp; omega))
    clear hb
    go_wp2_with fail
    refine (HWH.out _ (by simp; omega) (HP1.out.alloc (by omega) _)).mono ?_
    rintro e w2 ⟨T, x, rfl, hT, hb2⟩
    have HT := Lib.hid hT
    clear hT
    have hz2 : w1.heap.size + 1 ≤ w2.heap.size := by have := hb2.size; simpa using this
    have hbg : Below w1.heap.size w1 w2 := (below_new w1 _).trans (hb2.mono (by simp))
    have hIR : IR w1.heap.size w1 [] w2 := ⟨hbg, by omega, (hb2.frozen (p := ⟨w1.heap.size, 0, none⟩) (by simp)).trans (by go_simp), .slice none 0 0, (hb2.cell (p := ⟨w1.heap.size, 0, none⟩) (by simp)).trans (by go_simp), World.ownsRow_nil _ _ _ _⟩
    have HEV := Lib.hid (impl_evaluate2 125 (.pointer (some ⟨w1.heap.size, 0, none⟩)) (.pointer (some ⟨w.heap.size + 1, 0, none⟩)) vs HVO.out (footR w1.heap.size) (fun acc w' => IR w1.heap.size w1 acc w' ∧ ∀ x ∈ acc, ∃ q : Nat, q < vs.length ∧ x = (q : Int))
      (fun acc w' k h hf => h.1.foot_lt k hf) (fun acc wa wb h1 h2 => ⟨⟨h1.1.step h2, h1.2⟩, fun k hf => h1.1.foot_step h2 k hf⟩) (fun q w => by kernel_rfl)
      (fun q acc wa hq h1 => (look_read A' m c' w1.heap.size (w.heap.size + 1) q vs acc w1 wa B HM.out hs' hq (by omega) (by omega) hbox2 HI1.out h1.1 (by have := firsts_bd acc vs.length h1.2; omega)).mono
        fun e wb ⟨he, hI, hF⟩ => ⟨he, ⟨hI, fun x hx => by
          rcases List.mem_append.mp hx with h4 | h4
          · exact h1.2 x h4
          · simp at h4; exact ⟨q, hq, h4⟩⟩, hF⟩) t)
    have HIR := Lib.hid hIR
    clear hb2 hIR
    go_wp2_with fail
    rw [← HT.out]
    refine (HEV.out [] _ HOK.out ⟨HIR.out, fun x hx => by cases hx⟩).mono ?_
    rintro e w3 ⟨rfl, ⟨hI3, _⟩, _⟩
    obtain ⟨v, hv, ho⟩ := hI3.cell
    obtain ⟨A3, c3, rfl⟩ := own_form ho
    simp only [List.nil_append] at hv ho
    have HO := Lib.hid ho
    have HB3 := Lib.hid hI3.bel
    have hs3 := hI3.lt
    clear ho hI3
    go_wp2
    go_ret
    exact ⟨_, rfl, own_mono HO.out (by omega), hB1.trans (HB3.out.mono (by omega))⟩
end Go.Proofs.YtlcpgbbpjnkihaaGreat

namespace Go.Proofs.YtlcpgbbpjnkihaaGreat
set_option linter.unusedSimpArgs false
set_option linter.unusedVariables false
open Go.RowKit
set_option maxHeartbeats 800000 in
theorem slices_Equal (A A' : Option Addr) (n n' c c' : Nat) (a b : List Int) (w : World) (B : Nat) (hB : B ≤ w.heap.size) (hn : n = a.length) (hn' : n' = b.length) (h : IS w B A a) (h' : IS w B A' b) (hs : n ≤ 2000000) (hs' : n' ≤ 2000000) :
    Calls Tryz.prog 109 #[.slice A n c, .slice A' n' c'] w fun e w' => e = .returned (.bool (decide (a = b))) ∧ Below w.heap.size w w' := by
  by_cases hl : n = n'
  · have hne : ((n : Int) != (n' : Int)) = false := by simp [hl]
    have HL := Lib.hid hl
    have HN := Lib.hid hn
    have HN' := Lib.hid hn'
    have H := Lib.hid h
    have H' := Lib.hid h'
    clear hl hn hn' h h'
    go_enter Tryz.func109, Tryz.ntmps109
    go_wp2
    go_loopw [13] (fun i wr => ∃ k : Nat, k ≤ n ∧ i = .int .i64 k ∧ Hid (∀ j, j < k → a.getD j 0 = b.getD j 0) ∧ Below w.heap.size w wr) (fun i _ => n - (intOf i).toNat)
    case atStart => exact ⟨0, Nat.zero_le _, rfl, fun j hj => by omega, Below.refl _ _⟩
    case round =>
      obtain ⟨k, hk, rfl, HT, hb⟩ := hrel
      by_cases hlt : k < n
      · have hlt' : k < n' := by have := HL.out; omega
        obtain ⟨b1, off, rfl, hbB, hc⟩ := H.out (by have := HN.out; omega)
        obtain ⟨b2, off', rfl, hbB', hc'⟩ := H'.out (by have := HN'.out; omega)
        have d1 := hc k (by have := HN.out; omega)
        have d2 := hc' k (by have := HN'.out; omega)
        have e1 := (hb.cell (p := ⟨b1, off + k, none⟩) (by simp; omega)).trans d1
        have e2 := (hb.cell (p := ⟨b2, off' + k, none⟩) (by simp; omega)).trans d2
        clear hc hc' d1 d2 H H'
        have HNE : Hid (a.getD k 0 ≠ b.getD k 0 → decide (a = b) = false) := fun hh => by rw [decide_eq_false_iff_not]; rintro rfl; exact hh rfl
        have HEQ : Hid (a.getD k 0 = b.getD k 0 → ∀ j, j < k + 1 → a.getD j 0 = b.getD j 0) := fun hh j hj => by
          rcases Nat.lt_or_ge j k with h1 | h1
          · exact HT.out j h1
          · obtain rfl : j = k := by omega
            exact hh
        generalize a.getD k 0 = x at *
        generalize b.getD k 0 = y at *
        cases hxy : (x == y)
        · have hne2 : (x != y) = true := by simp [bne, hxy]
          have HF := Lib.hid (HNE.out (by simpa using hxy))
          clear hxy
          go_wp2
          go_region
          go_wp2
          go_ret
          exact ⟨ret_b HF.out.symm, hb.drew⟩
        · have hne2 : (x != y) = false := by simp [bne, hxy]
          have HF := Lib.hid (HEQ.out (by simpa using hxy))
          clear hxy
          go_wp2
          go_region
          go_wp2
          go_roundw
          case rel => exact ⟨k + 1, by omega, by go_num, HF.out, hb.drew⟩
          case measure => simp [intOf]; omega
      · obtain rfl : k = n := by omega
        go_wp2
        go_ret
        refine ⟨ret_b ?_, hb⟩
        symm
        apply decide_eq_true
        have h1 := HN.out
        have h2 := HN'.out
        have h3 := HL.out
        apply List.ext_getElem (by omega)
        intro j hj hj'
        have := HT.out j (by omega)
        simpa [List.getD, hj, hj'] using this
  · have hne : ((n : Int) != (n' : Int)) = true := by simp; omega
    have hf : decide (a = b) = false := by rw [decide_eq_false_iff_not]; rintro rfl; omega
    rw [hf]
    clear hl hn hn' h h' hf
    go_enter Tryz.func109, Tryz.ntmps109
    go_wp2
    go_ret
    exact ⟨rfl, Below.refl _ _⟩
end Go.Proofs.YtlcpgbbpjnkihaaGreat

namespace Go.Proofs.YtlcpgbbpjnkihaaGreat
set_option linter.unusedSimpArgs false
set_option linter.unusedVariables false
open Go.RowKit
/-- Returns a number and a fresh list of numbers. -/
def RetVI (w : World) (x : Int) (xs : List Int) (e : Ending) (w' : World) : Prop := ∃ v, e = .returned (.tuple #[.int .i64 x, v]) ∧ OwnI w' w.heap.size v xs ∧ Below w.heap.size w w'
set_option maxRecDepth 100000 in
set_option maxHeartbeats 1600000 in
theorem impl_runOf (A A' : Option Addr) (n c m c' : Nat) (gs : List Nd) (vs : List Int) (i : Nat) (w : World) (B : Nat) (hB : B ≤ w.heap.size) (hn : n = gs.length) (hm : m = vs.length) (h : GS w B A gs) (h' : IS w B A' vs) (hvg : validG gs = true) (hl : vs.length = gs.length) (hr : allR vs 0 999 = true) (hi : i < n) :
    Calls Tryz.prog 108 #[.agg #[.slice A n c], .slice A' m c', .int .i64 i] w fun e w' => RetVI w (valE gs vs i) (depF gs vs i) e w' := by
  have hn10 : n ≤ 10 := by rw [hn]; exact (validG_parts gs hvg).1

  have hvl : valE gs vs i = if (gs.getD i default).k == 0 then vs.getD i 0 else (whole (gs.getD i default).ps).ev vs := rfl
  have hdl : depF gs vs i = if (gs.getD i default).k == 0 then [] else firsts ((whole (gs.getD i default).ps).rds vs) := rfl
  have hce := eager_canEv gs vs i hvg hl hr (by omega)
  obtain ⟨b, off, rfl, hbB, c0, A1, n1, c1, c2, hn1', hps⟩ := h.at_ i (by omega)
  have him : i < m := by omega
  obtain ⟨b2, off2, rfl, hbB2, hcx⟩ := h' (by omega)
  have d0 := hcx i (by omega)
  have HI := Lib.hid h'
  have HPS := Lib.hid hps
  have z2 : b < w.heap.size := by omega
  have z3 : b2 < w.heap.size := by omega
  rw [hvl, hdl]
  clear hvl hdl h hcx hps hn hvg hl hr h'
  generalize gs.getD i default = d at *
  generalize vs.getD i 0 = x at *
  cases hd : (d.k == 0)
  · have hce' := hce hd
    obtain ⟨hv1, hvo, hl10, hea⟩ := canEv_parts d.ps vs hce'
    obtain ⟨hg, h1, h12⟩ := validF_good d.ps hv1
    have hvf : valF d.ps vs = (whole d.ps).ev vs := by unfold valF; rw [hce']; rfl
    have hrf : readF d.ps vs = firsts ((whole d.ps).rds vs) := by unfold readF; rw [hce']; rfl
    have HVAL := Lib.hid fun (w' : World) (hB : B ≤ w'.heap.size) (h : PS w' B A1 d.ps) (h' : IS w' B (some ⟨b2, off2, none⟩) vs) => impl_ValueOf A1 (some ⟨b2, off2, none⟩) n1 c1 m c' d.ps vs B hn1' hm (by omega) (by omega) w' hB h h'
    have HRD := Lib.hid fun (w' : World) (hB : B ≤ w'.heap.size) (h : PS w' B A1 d.ps) (h' : IS w' B (some ⟨b2, off2, none⟩) vs) => impl_ReadsOf A1 (some ⟨b2, off2, none⟩) n1 c1 m c' d.ps vs B hn1' hm (by omega) (by omega) w' hB h h'
    rw [hvf, hce'] at HVAL
    rw [hrf] at HRD
    simp only [Bool.false_eq_true, if_false]
    generalize (whole d.ps).ev vs = X at *
    generalize firsts ((whole d.ps).rds vs) = F at *
    clear hce hce' hv1 hvo hl10 hea hg h1 h12 hvf hrf hn1' hm
    go_enter Tryz.func108, Tryz.ntmps108
    go_wp2_with fail
    refine (HVAL.out _ (by simp; omega) ((HPS.out.alloc hB _).alloc (by simp; omega) _) ((HI.out.alloc hB _).alloc (by simp; omega) _)).mono ?_
    rintro e w1 ⟨rfl, hb⟩
    have q1 : w1.cell? ⟨w.heap.size + 1, 1, none⟩ = some (.slice A1 n1 c1) := (hb.cell (p := ⟨w.heap.size + 1, 1, none⟩) (by simp)).trans (by go_simp)
    have hB1 : Below w.heap.size w w1 := (((Below.refl _ _).alloc (Nat.le_refl _) _).alloc (by simp) _).trans (hb.mono (by simp; omega))
    have HPS1 := Lib.hid (HPS.out.below hB1 hB)
    have HI1 := Lib.hid (HI.out.below hB1 hB)
    have hl1 : w.heap.size + 2 ≤ w1.heap.size := by have := hb.size; simp at this; omega
    clear hb HPS HI HVAL
    go_wp2_with fail
    refine (HRD.out _ (by omega) HPS1.out HI1.out).mono ?_
    rintro e w2 ⟨v, rfl, ho, hb2⟩
    go_wp2
    go_ret2
    exact ⟨v, rfl, own_mono ho (by omega), hB1.trans (hb2.mono (by omega))⟩
  · simp only [if_true]
    clear hce hn1' hm HI HPS
    go_enter Tryz.func108, Tryz.ntmps108
    go_wp2
    go_ret2
    exact ⟨_, rfl, World.ownsRow_nil _ _ _ _, ((Below.refl _ _).alloc (Nat.le_refl _) _).alloc (by simp) _⟩
end Go.Proofs.YtlcpgbbpjnkihaaGreat

namespace Go.Proofs.YtlcpgbbpjnkihaaGreat
set_option linter.unusedSimpArgs false
set_option linter.unusedVariables false
open Go.RowKit
set_option maxHeartbeats 800000 in
theorem impl_hasNode (A : Option Addr) (n c : Nat) (gs : List Nd) (x : Int) (w : World) (B : Nat) (hB : B ≤ w.heap.size) (hn : n = gs.length) (hnc : n ≤ c) (h : GS w B A gs) (hs : GB gs) :
    Calls Tryz.prog 52 #[.agg #[.slice A n c], .int .i64 x] w fun e w' => e = .returned (.bool (validG gs && hasN gs x)) ∧ Below w.heap.size w w' := by
  have hr : hasN gs x = rng x 0 ((n : Int) - 1) := by rw [hn]; rfl
  have hn1 : n ≤ 1048576 := by rw [hn]; exact hs.1
  rw [hr]
  have H := Lib.hid h
  have HVG := Lib.hid fun (w' : World) (hB : B ≤ w'.heap.size) (h : GS w' B A gs) => impl_ValidGraph A n c gs w' B hB hn h hs hnc
  clear h hn hs hr
  cases hv : validG gs
  all_goals
    rw [hv] at HVG
    clear hv
    go_enter Tryz.func52, Tryz.ntmps52
    go_wp2_with fail
    refine (HVG.out _ (by simp; omega) (H.out.alloc hB _)).mono ?_
    rintro e w1 ⟨rfl, hb⟩
    have q : w1.cell? ⟨w.heap.size, 0, none⟩ = some (.slice A n c) := (hb.cell (p := ⟨w.heap.size, 0, none⟩) (by simp)).trans (by go_simp)
    go_wp2_with (go_at_call 43; refine (impl_inRange _ _ _).mono ?_; rintro e w' ⟨rfl, rfl⟩)
    go_ret
    exact ⟨ret_b (by simp), ((Below.refl _ _).alloc (Nat.le_refl _) _).trans (hb.mono (by simp))⟩
/-- Returns a fresh slice of numbers and a bool, or nothing. -/
theorem RetIB.nil {w w' : World} (hb : Below w.heap.size w w') : RetIB w [] false (.returned (.tuple #[.slice none 0 0, .bool false])) w' := ⟨_, rfl, World.ownsRow_nil _ _ _ _, hb⟩
end Go.Proofs.YtlcpgbbpjnkihaaGreat

namespace Go.Proofs.YtlcpgbbpjnkihaaGreat
set_option linter.unusedSimpArgs false
set_option linter.unusedVariables false
/-- The number at i is in b, and not ahead of i. -/
def difL (l b : List Int) (i : Nat) : Bool := decide (l.getD i 0 ∈ b) && !decide (l.getD i 0 ∈ l.take i)
theorem dif_bad (l b : List Int) (i : Nat) (hi : i < l.length) (h : difL l b i = false) : (apartL l && inL l b) = false := by
  rw [Bool.eq_false_iff]
  intro hh
  rw [Bool.and_eq_true] at hh
  have h1 := of_decide_eq_true hh.1 i hi
  have h2 := (List.all_eq_true.1 hh.2) (l.getD i 0) (by simp [List.getD, hi])
  unfold difL at h
  rw [h2, decide_eq_false h1] at h
  cases h
theorem dif_fin (l b : List Int) (h : ∀ i, i < l.length → difL l b i = true) : (apartL l && inL l b) = true := by
  rw [Bool.and_eq_true]
  refine ⟨decide_eq_true fun i hi => ?_, List.all_eq_true.2 fun x hx => ?_⟩
  · have := h i hi
    unfold difL at this
    rw [Bool.and_eq_true] at this
    simpa using this.2
  · obtain ⟨i, hi, rfl⟩ := List.mem_iff_getElem.1 hx
    have := h i hi
    unfold difL at this
    rw [Bool.and_eq_true] at this
    simpa [List.getD, hi] using this.1
end Go.Proofs.YtlcpgbbpjnkihaaGreat

namespace Go.Proofs.YtlcpgbbpjnkihaaGreat
set_option linter.unusedSimpArgs false
set_option linter.unusedVariables false
def fitF (gs : List Nd) (st : Lz) (i : Nat) : Bool :=
  if st.cs.getD i 0 == 0 then asRun gs st i && cleanR st.cs (st.rs.getD i [])
  else if st.cs.getD i 0 == 1 then !((gs.getD i default).k == 0) && asRun gs st i
  else if st.cs.getD i 0 == 2 then !((gs.getD i default).k == 0) && (apartL (st.rs.getD i []) && inL (st.rs.getD i []) (mayF (gs.getD i default).ps))
  else false
def allF (gs : List Nd) (st : Lz) : Bool := decide (∀ i, i < gs.length → fitF gs st i = true)
theorem allF_bad (gs : List Nd) (st : Lz) (i : Nat) (hi : i < gs.length) (h : fitF gs st i = false) : allF gs st = false := by
  unfold allF
  rw [decide_eq_false_iff_not]
  intro hh
  rw [hh i hi] at h
  cases h
theorem allF_fin (gs : List Nd) (st : Lz) (h : ∀ i, i < gs.length → fitF gs st i = true) : allF gs st = true := by
  unfold allF
  exact decide_eq_true h
theorem fitF_col (gs : List Nd) (st : Lz) (i : Nat) (hg : validG gs = true) (hi : i < gs.length) : fitF gs st i = (rng (st.cs.getD i 0) 0 2 && colOK gs st i) := by
  have hn := (validG_parts gs hg).2 i hi
  unfold fitF colOK
  cases hk : ((gs.getD i default).k == 0)
  · have hmf : mayF (gs.getD i default).ps = mayR (gs.getD i default).ps := by
      unfold mayF
      rw [(nodeOK_formula gs i hn hk).1]; rfl
    rw [hmf]
    by_cases h0 : st.cs.getD i 0 = 0
    · rw [h0]; simp [rng]
    · by_cases h1 : st.cs.getD i 0 = 1
      · rw [h1]; simp [rng]
      · by_cases h2 : st.cs.getD i 0 = 2
        · rw [h2]; simp [rng]
        · have hr : rng (st.cs.getD i 0) 0 2 = false := by
            unfold rng
            rw [decide_eq_false_iff_not]; omega
          have e0 : (st.cs.getD i 0 == 0) = false := by simpa using h0
          have e1 : (st.cs.getD i 0 == 1) = false := by simpa using h1
          have e2 : (st.cs.getD i 0 == 2) = false := by simpa using h2
          rw [hr, e0, e1, e2]; simp
  · have ha : asRun gs st i = decide ((st.rs.getD i []).length = 0) := by
      unfold asRun valE depF
      rw [hk]
      simp only [if_true, beq_self_eq_true, Bool.true_and]
      rw [decide_eq_decide]
      constructor
      · intro e; rw [← e]; rfl
      · intro e; exact (List.eq_nil_of_length_eq_zero e).symm
    rw [ha]
    simp only [if_true]
    by_cases h0 : st.cs.getD i 0 = 0
    · rw [h0]
      by_cases hl : (st.rs.getD i []).length = 0
      · rw [List.eq_nil_of_length_eq_zero hl]; simp [rng, cleanR]
      · rw [decide_eq_false hl]; simp
    · have e0 : (st.cs.getD i 0 == 0) = false := by simpa using h0
      rw [e0]; simp
theorem allF_eq (gs : List Nd) (st : Lz) (hg : validG gs = true) (hl : st.cs.length = gs.length) : allF gs st = (allR st.cs 0 2 && allL gs st) := by
  by_cases h : ∀ i, i < gs.length → fitF gs st i = true
  · rw [allF_fin gs st h]
    have hh : ∀ i, i < gs.length → rng (st.cs.getD i 0) 0 2 = true ∧ colOK gs st i = true := fun i hi => by
      have := h i hi
      rw [fitF_col gs st i hg hi, Bool.and_eq_true] at this
      exact this
    rw [allR_true st.cs 0 2 fun k hk => (hh k (by omega)).1, allL_fin gs st fun i hi => (hh i hi).2]; rfl
  · have : ∃ i, i < gs.length ∧ fitF gs st i = false := by
      apply Classical.byContradiction
      intro hc
      apply h
      intro i hi
      cases hf : fitF gs st i
      · exact absurd ⟨i, hi, hf⟩ hc
      · rfl
    obtain ⟨i, hi, hf⟩ := this
    rw [allF_bad gs st i hi hf]
    rw [fitF_col gs st i hg hi, Bool.and_eq_false_iff] at hf
    rcases hf with hf | hf
    · have : allR st.cs 0 2 = false := by
        unfold allR
        exact all_bad st.cs _ i (by omega) hf
      rw [this]; rfl
    · rw [allL_bad gs st i hi hf, Bool.and_false]
/-- What a node reads is what its run reads, if it is as if it had run. -/
theorem asRun_reads (gs : List Nd) (st : Lz) (i : Nat) (h : asRun gs st i = true) : st.rs.getD i [] = depF gs st.vs i := by
  unfold asRun at h
  rw [Bool.and_eq_true] at h
  exact (of_decide_eq_true h.2).symm
end Go.Proofs.YtlcpgbbpjnkihaaGreat

namespace Go.Proofs.YtlcpgbbpjnkihaaGreat
set_option linter.unusedSimpArgs false
set_option linter.unusedVariables false
open Go.RowKit
set_option maxRecDepth 100000 in
set_option maxHeartbeats 1600000 in
theorem impl_areDifferentOf (A A' : Option Addr) (n c m c' : Nat) (a b : List Int) (w : World) (B : Nat) (hB : B ≤ w.heap.size) (hn : n = a.length) (hm : m = b.length) (h : IS w B A a) (h' : IS w B A' b) (hs : n ≤ 2000000) (hs' : m ≤ 2000000) (hcap : m ≤ c') :
    Calls Tryz.prog 92 #[.slice A n c, .slice A' m c'] w fun e w' => e = .returned (.bool (apartL b && inL b a)) ∧ w = w' := by
  have H := Lib.hid h
  have H' := Lib.hid h'
  have HN := Lib.hid hn
  have HM := Lib.hid hm
  have HBAD := Lib.hid (dif_bad b a)
  have HFIN := Lib.hid (dif_fin b a)
  clear hn h hm h'
  go_enter Tryz.func92, Tryz.ntmps92
  go_wp2
  go_loop [9] (fun i => ∃ k : Nat, k ≤ m ∧ i = .int .i64 k ∧ Hid (∀ i, i < k → difL b a i = true)) (fun i => m - (intOf i).toNat)
  case atStart => exact ⟨0, Nat.zero_le _, rfl, fun i hi => by omega⟩
  case round =>
    obtain ⟨k, hk, rfl, HT⟩ := hrel
    by_cases hlt : k < m
    · obtain ⟨b1, off1, rfl, hb1, hc1⟩ := H'.out (by have := HM.out; omega)
      have c1 := hc1 k (by have := HM.out; omega)
      have HTK := Lib.hid (show IS w B (some ⟨b1, off1, none⟩) (b.take k) from fun hn => ⟨b1, off1, rfl, hb1, fun j hj => by
        rw [List.length_take] at hj
        rw [show (b.take k).getD j 0 = b.getD j 0 by simp only [List.getD, List.getElem?_take, if_pos (show j < k by omega)]]
        exact hc1 j (by omega)⟩)
      clear hc1
      have hd : difL b a k = (decide (b.getD k 0 ∈ a) && !decide (b.getD k 0 ∈ b.take k)) := rfl
      have HBK := Lib.hid (HBAD.out k (by have := HM.out; omega))
      have HNT : Hid (difL b a k = true → ∀ i, i < k + 1 → difL b a i = true) := fun hh j hj => by
        rcases Nat.lt_or_ge j k with h1 | h1
        · exact HT.out j h1
        · obtain rfl : j = k := by omega
          exact hh
      have HC1 := Lib.hid (slices_Contains A n c a (b.getD k 0) w B hB HN.out H.out hs)
      have HC2 := Lib.hid (slices_Contains (some ⟨b1, off1, none⟩) k c' (b.take k) (b.getD k 0) w B hB (by rw [List.length_take]; have := HM.out; omega) HTK.out (by omega))
      have hkc : k ≤ c' := by omega
      generalize b.getD k 0 = x at *
      generalize decide (x ∈ a) = r1 at *
      generalize decide (x ∈ b.take k) = r2 at *
      clear HTK
      cases r1
      · have HF := Lib.hid (HBK.out (by rw [hd]; rfl))
        clear hd
        go_wp2_with fail
        refine HC1.out.mono ?_
        rintro e w' ⟨rfl, rfl⟩
        go_wp2
        go_ret
        exact ⟨ret_b HF.out.symm, rfl⟩
      · cases r2
        · have HF := Lib.hid (HNT.out (by rw [hd]; rfl))
          clear hd
          go_wp2_with fail
          refine HC1.out.mono ?_
          rintro e w' ⟨rfl, rfl⟩
          go_wp2_with fail
          refine HC2.out.mono ?_
          rintro e w' ⟨rfl, rfl⟩
          go_wp2
          go_round
          case rel => exact ⟨k + 1, by omega, by go_num, HF.out⟩
          case measure => simp [intOf]; omega
        · have HF := Lib.hid (HBK.out (by rw [hd]; rfl))
          clear hd
          go_wp2_with fail
          refine HC1.out.mono ?_
          rintro e w' ⟨rfl, rfl⟩
          go_wp2_with fail
          refine HC2.out.mono ?_
          rintro e w' ⟨rfl, rfl⟩
          go_wp2
          go_ret
          exact ⟨ret_b HF.out.symm, rfl⟩
    · obtain rfl : k = m := by omega
      go_wp2
      go_ret
      exact ⟨ret_b (HFIN.out fun i hi => HT.out i (by have := HM.out; omega)).symm, rfl⟩
set_option maxRecDepth 100000 in
set_option maxHeartbeats 1600000 in
theorem impl_hasCleanReads (A E C : Option Addr) (n c en ec m d : Nat) (st : Lz) (i : Nat) (w : World) (B : Nat) (hB : B ≤ w.heap.size) (he : en = st.rs.length) (hm : m = st.cs.length) (h : LS3 w B A E C st) (hi : i < en) (hs : (st.rs.getD i []).length ≤ 2000000) (hr : ∀ j, j < (st.rs.getD i []).length → ∃ q : Nat, q < m ∧ (st.rs.getD i []).getD j 0 = (q : Int)) :
    Calls Tryz.prog 91 #[.agg #[.slice A n c, .slice E en ec, .slice C m d], .int .i64 i] w fun e w' => e = .returned (.bool (cleanR st.cs (st.rs.getD i []))) ∧ Below w.heap.size w w' := by
  obtain ⟨b3, off3, rfl, hbB3, A3, n3, c3, d1, hn3, hls⟩ := h.2.1.at_ i (by omega)
  have HLS := Lib.hid (hls.alloc hB (.cells #[.slice A n c, .slice (some ⟨b3, off3, none⟩) en ec, .slice C m d] 31))
  have HCS := Lib.hid (h.2.2.alloc hB (.cells #[.slice A n c, .slice (some ⟨b3, off3, none⟩) en ec, .slice C m d] 31))
  have HN3 := Lib.hid hn3
  have HM := Lib.hid hm
  have HR := Lib.hid hr
  have HBAD := Lib.hid (cleanR_bad st.cs (st.rs.getD i []))
  have HFIN := Lib.hid (cleanR_fin st.cs (st.rs.getD i []))
  have hn3b : n3 ≤ 2000000 := by omega
  have z3 : b3 < w.heap.size := by omega
  clear h hls he hm hr hs hn3
  generalize st.rs.getD i [] = L at *
  generalize st.cs = cs at *
  go_enter Tryz.func91, Tryz.ntmps91
  go_wp2
  go_loop [13] (fun u => ∃ k : Nat, k ≤ n3 ∧ u = .int .i64 k ∧ Hid (∀ j, j < k → (cs.getD (L.getD j 0).toNat 0 == 0) = true)) (fun u => n3 - (intOf u).toNat)
  case atStart => exact ⟨0, Nat.zero_le _, rfl, fun i hi => by omega⟩
  case round =>
    obtain ⟨k, hk, rfl, HT⟩ := hrel
    by_cases hlt : k < n3
    · obtain ⟨b1, off1, rfl, hb1, hc1⟩ := HLS.out (by have := HN3.out; omega)
      have c1 := hc1 k (by have := HN3.out; omega)
      obtain ⟨q, hq, hqe⟩ := HR.out k (by have := HN3.out; omega)
      obtain ⟨b2, off2, rfl, hb2, hc2⟩ := HCS.out (by have := HM.out; omega)
      have c2 := hc2 q (by have := HM.out; omega)
      have HBK := Lib.hid (HBAD.out k (by have := HN3.out; omega))
      have HNT : Hid ((cs.getD (L.getD k 0).toNat 0 == 0) = true → ∀ j, j < k + 1 → (cs.getD (L.getD j 0).toNat 0 == 0) = true) := fun hh j hj => by
        rcases Nat.lt_or_ge j k with h1 | h1
        · exact HT.out j h1
        · obtain rfl : j = k := by omega
          exact hh
      rw [hqe, Int.toNat_natCast] at HBK HNT
      rw [hqe] at c1
      clear hqe hc1 hc2
      generalize cs.getD q 0 = y at *
      cases hy : (y == 0)
      · have hy' : (y != 0) = true := by simp [bne, hy]
        have HF := Lib.hid (HBK.out hy)
        clear hy
        go_wp2
        go_ret
        exact ⟨ret_b HF.out.symm, (Below.refl _ _).alloc (Nat.le_refl _) _⟩
      · have hy' : (y != 0) = false := by simp [bne, hy]
        have HF := Lib.hid (HNT.out hy)
        clear hy
        go_wp2
        go_round
        case rel => exact ⟨k + 1, by omega, by go_num, HF.out⟩
        case measure => simp [intOf]; omega
    · obtain rfl : k = n3 := by omega
      go_wp2
      go_ret
      exact ⟨ret_b (HFIN.out fun i hi => HT.out i (by have := HN3.out; omega)).symm, (Below.refl _ _).alloc (Nat.le_refl _) _⟩
set_option maxRecDepth 100000 in
set_option maxHeartbeats 1600000 in
theorem impl_isAsRun (A A' E C : Option Addr) (n c m c' en ec q qc : Nat) (gs : List Nd) (st : Lz) (i : Nat) (w : World) (B : Nat) (hB : B ≤ w.heap.size) (hn : n = gs.length) (hm : m = st.vs.length) (he : en = st.rs.length) (h : GS w B A gs) (h' : LS3 w B A' E C st) (hvg : validG gs = true) (hl : st.vs.length = gs.length) (hl2 : st.rs.length = gs.length) (hr : allR st.vs 0 999 = true) (hi : i < n) (hs : (st.rs.getD i []).length ≤ 2000000) :
    Calls Tryz.prog 90 #[.agg #[.slice A n c], .agg #[.slice A' m c', .slice E en ec, .slice C q qc], .int .i64 i] w fun e w' => e = .returned (.bool (asRun gs st i)) ∧ Below w.heap.size w w' := by
  have HB0 := Lib.hid (((Below.refl w.heap.size w).alloc (Nat.le_refl _) (.cells #[.slice A n c] 36)).alloc (by simp) (.cells #[.slice A' m c', .slice E en ec, .slice C q qc] 31))
  have hB2 : w.heap.size + 2 ≤ ((w.alloc (.cells #[.slice A n c] 36)).alloc (.cells #[.slice A' m c', .slice E en ec, .slice C q qc] 31)).heap.size := by simp
  have HRUN := Lib.hid (impl_runOf A A' n c m c' gs st.vs i _ B (by omega) hn hm (h.below HB0.out hB) (h'.1.below HB0.out hB) hvg hl hr hi)
  have hfb := eager_depF_bd gs st.vs hvg hl i (by omega)
  obtain ⟨b2, off2, rfl, hbB2, hcx⟩ := h'.1 (by omega)
  have d0 := hcx i (by omega)
  obtain ⟨b3, off3, rfl, hbB3, A3, n3, c3, d1, hn3, hls⟩ := h'.2.1.at_ i (by omega)
  have har : asRun gs st i = ((valE gs st.vs i == st.vs.getD i 0) && decide (depF gs st.vs i = st.rs.getD i [])) := rfl
  have HLS := Lib.hid (hls.below HB0.out hB)
  have HN3 := Lib.hid hn3
  have hn3b : n3 ≤ 2000000 := by omega
  have him : i < m := by omega
  have hie : i < en := by omega
  clear h h' hcx hls hn hm he hvg hl hl2 hr hs hn3
  generalize asRun gs st i = r at *
  generalize valE gs st.vs i = X at *
  generalize depF gs st.vs i = F at *
  generalize st.vs.getD i 0 = x at *
  generalize st.rs.getD i [] = L at *
  go_enter Tryz.func90, Tryz.ntmps90
  go_wp2_with fail
  refine HRUN.out.mono ?_
  rintro e w5 ⟨v5, rfl, ho, hb5⟩
  obtain ⟨A5, c5, rfl, hI5⟩ := ho.form
  have hs5 := Nat.le_trans hB2 hb5.size
  have u1 := (hb5.cell (p := ⟨w.heap.size + 1, 0, none⟩) (by simp)).trans (show _ = some (Value.slice (some ⟨b2, off2, none⟩) m c') by go_simp)
  have u2 := (hb5.cell (p := ⟨w.heap.size + 1, 1, none⟩) (by simp)).trans (show _ = some (Value.slice (some ⟨b3, off3, none⟩) en ec) by go_simp)
  have HB5 := Lib.hid (HB0.out.trans (hb5.mono (by omega)))
  have u3 := (HB5.out.cell (p := ⟨b2, off2 + i, none⟩) (by show b2 < w.heap.size; omega)).trans d0
  have u4 := (HB5.out.cell (p := ⟨b3, off3 + i, none⟩) (by show b3 < w.heap.size; omega)).trans d1
  have HLS5 := Lib.hid ((HLS.out.below hb5 (by omega)).more (B' := w5.heap.size) (by omega))
  have HSI := Lib.hid (slices_Equal A3 A5 n3 F.length c3 c5 L F w5 w5.heap.size (Nat.le_refl _) HN3.out rfl HLS5.out hI5 (by omega) (by omega))
  generalize F.length = fl at *
  clear ho hb5 d0 d1 hI5 HRUN hB2
  cases hx : (X == x)
  · have hx' : (x == X) = false := by simp at hx ⊢; exact fun e => hx e.symm
    have HNF := Lib.hid (show r = false by rw [har, hx]; rfl)
    clear hx har
    go_wp2
    go_ret
    exact ⟨ret_b HNF.out.symm, HB5.out⟩
  · have hx' : (x == X) = true := by simp at hx ⊢; exact hx.symm
    rw [hx, Bool.true_and] at har
    have hsy : decide (F = L) = decide (L = F) := decide_eq_decide.mpr ⟨Eq.symm, Eq.symm⟩
    rw [hsy] at har
    rw [← har] at HSI
    clear hx har hsy
    go_wp2_with fail
    refine HSI.out.mono ?_
    rintro e w6 ⟨rfl, hb6⟩
    go_wp2
    go_ret
    exact ⟨rfl, HB5.out.trans (hb6.mono (by omega))⟩
end Go.Proofs.YtlcpgbbpjnkihaaGreat

namespace Go.Proofs.YtlcpgbbpjnkihaaGreat
set_option linter.unusedSimpArgs false
set_option linter.unusedVariables false
open Go.RowKit
set_option maxRecDepth 100000 in
set_option maxHeartbeats 6400000 in
theorem impl_fitsColour (A A' E C : Option Addr) (n c m c' p ec q qc : Nat) (gs : List Nd) (st : Lz) (i : Nat) (w : World) (B : Nat) (hB : B ≤ w.heap.size) (hn : n = gs.length) (hm : m = st.vs.length) (hp : p = st.rs.length) (hq : q = st.cs.length) (h : GS w B A gs) (h' : LS4 w B A' E C st) (hs : GB gs) (hb0 : LB st) (hvg : validG gs = true) (hl1 : st.vs.length = gs.length) (hl2 : st.rs.length = gs.length) (hl3 : st.cs.length = gs.length) (hr : allR st.vs 0 999 = true) (hi : i < n) :
    Calls Tryz.prog 67 #[.agg #[.slice A n c], .agg #[.slice A' m c', .slice E p ec, .slice C q qc], .int .i64 i] w fun e w' => e = .returned (.bool (fitF gs st i)) ∧ Below w.heap.size w w' := by
  have hn10 : n ≤ 10 := by rw [hn]; exact (validG_parts gs hvg).1
  have hfd : fitF gs st i = if st.cs.getD i 0 == 0 then asRun gs st i && cleanR st.cs (st.rs.getD i []) else if st.cs.getD i 0 == 1 then !((gs.getD i default).k == 0) && asRun gs st i else if st.cs.getD i 0 == 2 then !((gs.getD i default).k == 0) && (apartL (st.rs.getD i []) && inL (st.rs.getD i []) (mayF (gs.getD i default).ps)) else false := rfl
  have HAS := Lib.hid fun (w' : World) (B' : Nat) (hB : B' ≤ w'.heap.size) (h : GS w' B' A gs) (h' : LS3 w' B' A' E C st) => impl_isAsRun A A' E C n c m c' p ec q qc gs st i w' B' hB hn hm hp h h' hvg hl1 hl2 hr hi (by have := hb0.2.1.2 i; omega)
  have HCR := Lib.hid fun (w' : World) (B' : Nat) (hB : B' ≤ w'.heap.size) (h' : LS3 w' B' A' E C st) (ha : asRun gs st i = true) => impl_hasCleanReads A' E C m c' p ec q qc st i w' B' hB hp hq h' (by omega) (by have := hb0.2.1.2 i; omega) (by
    rw [asRun_reads gs st i ha]
    intro j hj
    obtain ⟨y, hy, e⟩ := depF_range gs st.vs hvg hl1 i (by omega) j hj
    exact ⟨y, by omega, e⟩)
  have HG := Lib.hid h
  have HL := Lib.hid h'
  obtain ⟨b, off, rfl, hbB, c0, A1, n1, c1, c2, hn1', hps⟩ := h.at_ i (by omega)
  obtain ⟨b3, off3, rfl, hbB3, A3, n3, c3, d1, hn3, hls⟩ := h'.1.2.1.at_ i (by omega)
  have hcap := h'.2 b3 off3 rfl i (by omega) A3 n3 c3 d1
  obtain ⟨b4, off4, rfl, hbB4, hcy⟩ := h'.1.2.2 (by omega)
  have d2 := hcy i (by omega)
  have z0 : b < w.heap.size := by omega
  have z3 : b3 < w.heap.size := by omega
  have z4 : b4 < w.heap.size := by omega
  have z0' : b < w.heap.size + 1 := by omega
  have z3' : b3 < w.heap.size + 1 := by omega
  have z4' : b4 < w.heap.size + 1 := by omega
  have z0'' : b < w.heap.size + 1 + 1 := by omega
  have z3'' : b3 < w.heap.size + 1 + 1 := by omega
  have z4'' : b4 < w.heap.size + 1 + 1 := by omega
  have hn3b : n3 ≤ 1048576 := by rw [hn3]; exact hb0.2.1.2 i
  have hn1b : n1 ≤ 1048576 := by rw [hn1']; exact hs.2 i
  have HN1 := Lib.hid hn1'
  have HN3 := Lib.hid hn3
  have hiq : i < q := by omega
  have hip : i < p := by omega
  have HPS := Lib.hid hps
  have HLS := Lib.hid hls
  clear h h' hcy hps hls hn hm hp hq hs hb0 hvg hl1 hl2 hl3 hr hn1' hn3
  generalize fitF gs st i = r at *
  generalize asRun gs st i = ra at *
  generalize gs.getD i default = d at *
  generalize st.rs.getD i [] = L at *
  generalize st.cs.getD i 0 = cc at *
  have HB3 := Lib.hid ((((Below.refl w.heap.size w).alloc (Nat.le_refl _) (.cells #[.slice (some ⟨b, off, none⟩) n c] 36)).alloc (by simp) (.cells #[.slice A' m c', .slice (some ⟨b3, off3, none⟩) p ec, .slice (some ⟨b4, off4, none⟩) q qc] 31)).alloc (by simp; omega) (.cells #[.int .i64 d.k, .slice A1 n1 c1] 79))
  cases hc0 : (cc == 0)
  case true =>
    rw [hc0] at hfd
    simp only [if_true] at hfd
    go_enter Tryz.func67, Tryz.ntmps67
    go_wp2_with fail
    refine (HAS.out _ B (by simp; omega) (HG.out.below HB3.out hB) (HL.out.1.below HB3.out hB)).mono ?_
    rintro e w5 ⟨rfl, hb5⟩
    cases ra
    · have HF := Lib.hid (show r = false by rw [hfd]; rfl)
      clear hfd
      go_wp2
      go_ret
      exact ⟨ret_b HF.out.symm, HB3.out.trans (hb5.mono (by simp; omega))⟩
    · rw [Bool.true_and] at hfd
      have HB5 := Lib.hid (HB3.out.trans (hb5.mono (by simp; omega)))
      have HC2 := Lib.hid (HCR.out w5 B (Nat.le_trans hB HB5.out.size) (HL.out.1.below HB5.out hB) rfl)
      have q0 : w5.cell? ⟨w.heap.size + 1, 0, none⟩ = some (.slice A' m c') := (hb5.cell (p := ⟨w.heap.size + 1, 0, none⟩) (by simp)).trans (by go_simp)
      have q1 : w5.cell? ⟨w.heap.size + 1, 1, none⟩ = some (.slice (some ⟨b3, off3, none⟩) p ec) := (hb5.cell (p := ⟨w.heap.size + 1, 1, none⟩) (by simp)).trans (by go_simp)
      have q2 : w5.cell? ⟨w.heap.size + 1, 2, none⟩ = some (.slice (some ⟨b4, off4, none⟩) q qc) := (hb5.cell (p := ⟨w.heap.size + 1, 2, none⟩) (by simp)).trans (by go_simp)
      have HF := Lib.hid hfd
      clear hfd hb5 HCR HAS
      go_wp2_with fail
      refine HC2.out.mono ?_
      rintro e w6 ⟨rfl, hb6⟩
      go_wp2
      go_ret
      exact ⟨ret_b HF.out.symm, HB5.out.trans (hb6.mono HB5.out.size)⟩
  rw [hc0] at hfd
  simp only [Bool.false_eq_true, if_false] at hfd
  cases hc1 : (cc == 1)
  case true =>
    rw [hc1] at hfd
    simp only [if_true] at hfd
    cases hd : (d.k == 0)
    · have hd' : (d.k != 0) = true := by simp [bne, hd]
      rw [hd, Bool.not_false, Bool.true_and] at hfd
      have HF := Lib.hid hfd
      clear hfd hd
      go_enter Tryz.func67, Tryz.ntmps67
      go_wp2_with fail
      refine (HAS.out _ B (by simp; omega) (HG.out.below HB3.out hB) (HL.out.1.below HB3.out hB)).mono ?_
      rintro e w5 ⟨rfl, hb5⟩
      go_wp2
      go_ret
      exact ⟨ret_b HF.out.symm, HB3.out.trans (hb5.mono (by simp; omega))⟩
    · have hd' : (d.k != 0) = false := by simp [bne, hd]
      rw [hd] at hfd
      have HF := Lib.hid (show r = false by rw [hfd]; rfl)
      clear hfd hd
      go_enter Tryz.func67, Tryz.ntmps67
      go_wp2
      go_ret
      exact ⟨ret_b HF.out.symm, HB3.out⟩
  rw [hc1] at hfd
  simp only [Bool.false_eq_true, if_false] at hfd
  cases hc2 : (cc == 2)
  case false =>
    rw [hc2] at hfd
    have HF := Lib.hid (show r = false by rw [hfd]; rfl)
    clear hfd
    go_enter Tryz.func67, Tryz.ntmps67
    go_wp2
    go_ret
    exact ⟨ret_b HF.out.symm, HB3.out⟩
  rw [hc2] at hfd
  simp only [if_true] at hfd
  obtain ⟨W3, hW3⟩ : ∃ W3, W3 = ((w.alloc (.cells #[.slice (some ⟨b, off, none⟩) n c] 36)).alloc (.cells #[.slice A' m c', .slice (some ⟨b3, off3, none⟩) p ec, .slice (some ⟨b4, off4, none⟩) q qc] 31)).alloc (.cells #[.int .i64 d.k, .slice A1 n1 c1] 79) := ⟨_, rfl⟩
  rw [← hW3] at HB3
  have hB3 : w.heap.size + 3 ≤ W3.heap.size := by rw [hW3]; simp
  have HT : Hid (W3.cell? ⟨w.heap.size + 1, 1, none⟩ = some (.slice (some ⟨b3, off3, none⟩) p ec) ∧ W3.cell? ⟨w.heap.size + 1 + 1, 0, none⟩ = some (.int .i64 d.k) ∧ W3.cell? ⟨w.heap.size + 1 + 1, 1, none⟩ = some (.slice A1 n1 c1)) := by
    rw [hW3]; exact ⟨by go_simp, by go_simp, by go_simp⟩
  have HT2 := Lib.hid ((HB3.out.cell (p := ⟨b3, off3 + i, none⟩) z3).trans d1)
  have HPS3 := Lib.hid (HPS.out.below HB3.out hB)
  have HLS3 := Lib.hid (HLS.out.below HB3.out hB)
  have HW3 := Lib.hid hW3
  have HMR := Lib.hid fun (w' : World) (hB' : B ≤ w'.heap.size) (h : PS w' B A1 d.ps) => impl_MayRead A1 n1 c1 d.ps w' B hB' HN1.out h (by omega)
  have hmb : (mayF d.ps).length ≤ 10 := by
    unfold mayF
    split
    · exact mayR_len _ 10
    · exact Nat.zero_le _
  generalize mayF d.ps = M at *
  generalize hri : (apartL L && inL L M) = ri at *
  have HRI := Lib.hid hri
  clear hW3 hri HAS HCR HPS HLS
  cases hd : (d.k == 0)
  · have hd' : (d.k != 0) = true := by simp [bne, hd]
    rw [hd, Bool.not_false, Bool.true_and] at hfd
    have HF := Lib.hid hfd
    clear hfd
    go_enter Tryz.func67, Tryz.ntmps67
    go_wp2
    rw [← HW3.out]
    obtain ⟨s1, s2, s3⟩ := HT.out
    have t1 := HT2.out
    refine wp_region_held_drew (S := fun w' => w'.cell? ⟨w.heap.size + 1, 1, none⟩ = some (.slice (some ⟨b3, off3, none⟩) p ec) ∧ w'.cell? ⟨w.heap.size + 1 + 1, 0, none⟩ = some (.int .i64 d.k) ∧ w'.cell? ⟨w.heap.size + 1 + 1, 1, none⟩ = some (.slice A1 n1 c1) ∧ w'.cell? ⟨b3, off3 + i, none⟩ = some (.slice A3 n3 c3)) (by kernel_rfl) ⟨s1, s2, s3, t1⟩ (fun hHeld => ?_)
    refine wpAnyH_take (i := 0) (oi := ⟨some 42, _, _, _, _, _⟩) (v := ?_) rfl (by kernel_rfl) (by kernel_rfl) (by kernel_rfl) (fun _ _ _ h => h) (Or.inl ⟨by rfl, ?_⟩) (by assumption) ?_; rotate_left; (focus (intro w hSw; (try dsimp only at hSw); go_simp; (try with_reducible rfl))); (try simp only [Act.put, List.setIfInBounds_toArray]); (try dsimp only [List.set_cons_zero, List.set_cons_succ])
    refine wpAnyH_take (i := 1) (oi := ⟨some 43, _, _, _, _, _⟩) (v := ?_) rfl (by kernel_rfl) (by kernel_rfl) (by kernel_rfl) (fun _ _ _ h => h) (Or.inl ⟨by rfl, ?_⟩) (by assumption) ?_; rotate_left; (focus (intro w hSw; (try dsimp only at hSw); go_simp; (try with_reducible rfl))); (try simp only [Act.put, List.setIfInBounds_toArray]); (try dsimp only [List.set_cons_zero, List.set_cons_succ])
    refine wpAnyH_take (i := 2) (oi := ⟨some 44, _, _, _, _, _⟩) (v := ?_) rfl (by kernel_rfl) (by kernel_rfl) (by kernel_rfl) (fun _ _ _ h => h) (Or.inl ⟨by rfl, ?_⟩) (by assumption) ?_; rotate_left; (focus (intro w hSw; (try dsimp only at hSw); go_simp; (try with_reducible rfl))); (try simp only [Act.put, List.setIfInBounds_toArray]); (try dsimp only [List.set_cons_zero, List.set_cons_succ])
    refine wpAnyH_take (i := 3) (oi := ⟨some 45, _, _, _, _, _⟩) (v := ?_) rfl (by kernel_rfl) (by kernel_rfl) (by kernel_rfl) (fun _ _ _ h => h) (Or.inl ⟨by rfl, ?_⟩) (by assumption) ?_; rotate_left; (focus (intro w hSw; (try dsimp only at hSw); go_simp; (try with_reducible rfl))); (try simp only [Act.put, List.setIfInBounds_toArray]); (try dsimp only [List.set_cons_zero, List.set_cons_succ])
    refine wpAnyH_take (i := 4) (oi := ⟨some 46, _, _, _, _, _⟩) (v := ?_) rfl (by kernel_rfl) (by kernel_rfl) (by kernel_rfl) (fun _ _ _ h => h) (Or.inl ⟨by rfl, ?_⟩) (by assumption) ?_; rotate_left; (focus (intro w hSw; (try dsimp only at hSw); go_simp; (try with_reducible rfl))); (try simp only [Act.put, List.setIfInBounds_toArray]); (try dsimp only [List.set_cons_zero, List.set_cons_succ])
    refine wpAnyH_take (i := 5) (oi := ⟨some 47, _, _, _, _, _⟩) (v := ?_) rfl (by kernel_rfl) (by kernel_rfl) (by kernel_rfl) (fun _ _ _ h => h) (Or.inl ⟨by rfl, ?_⟩) (by assumption) ?_; rotate_left; (focus (intro w hSw; (try dsimp only at hSw); go_simp; (try with_reducible rfl))); (try simp only [Act.put, List.setIfInBounds_toArray]); (try dsimp only [List.set_cons_zero, List.set_cons_succ])
    refine wpAnyH_take (i := 7) (oi := ⟨some 49, _, _, _, _, _⟩) (v := ?_) rfl (by kernel_rfl) (by kernel_rfl) (by kernel_rfl) (fun _ _ _ h => h) (Or.inl ⟨by rfl, ?_⟩) (by assumption) ?_; rotate_left; (focus (intro w hSw; (try dsimp only at hSw); go_simp; (try with_reducible rfl))); (try simp only [Act.put, List.setIfInBounds_toArray]); (try dsimp only [List.set_cons_zero, List.set_cons_succ])
    refine wpAnyH_take (i := 8) (oi := ⟨some 50, _, _, _, _, _⟩) (v := ?_) rfl (by kernel_rfl) (by kernel_rfl) (by kernel_rfl) (fun _ _ _ h => h) (Or.inl ⟨by rfl, ?_⟩) (by assumption) ?_; rotate_left; (focus (intro w hSw; (try dsimp only at hSw); go_simp; (try with_reducible rfl))); (try simp only [Act.put, List.setIfInBounds_toArray]); (try dsimp only [List.set_cons_zero, List.set_cons_succ])
    refine wpAnyH_take (i := 9) (oi := ⟨some 51, _, _, _, _, _⟩) (v := ?_) rfl (by kernel_rfl) (by kernel_rfl) (by kernel_rfl) (fun _ _ _ h => h) (Or.inl ⟨by rfl, ?_⟩) (by assumption) ?_; rotate_left; (focus (intro w hSw; (try dsimp only at hSw); go_simp; (try with_reducible rfl))); (try simp only [Act.put, List.setIfInBounds_toArray]); (try dsimp only [List.set_cons_zero, List.set_cons_succ])
    refine wpAnyH_take (i := 10) (oi := ⟨some 52, _, _, _, _, _⟩) (v := ?_) rfl (by kernel_rfl) (by kernel_rfl) (by kernel_rfl) (fun _ _ _ h => h) (Or.inl ⟨by rfl, ?_⟩) (by assumption) ?_; rotate_left; (focus (intro w hSw; (try dsimp only at hSw); go_simp; (try with_reducible rfl))); (try simp only [Act.put, List.setIfInBounds_toArray]); (try dsimp only [List.set_cons_zero, List.set_cons_succ])
    refine wpAnyH_take (i := 11) (oi := ⟨some 53, _, _, _, _, _⟩) (v := ?_) rfl (by kernel_rfl) (by kernel_rfl) (by kernel_rfl) (fun _ _ _ h => h) (Or.inl ⟨by rfl, ?_⟩) (by assumption) ?_; rotate_left; (focus (intro w hSw; (try dsimp only at hSw); go_simp; (try with_reducible rfl))); (try simp only [Act.put, List.setIfInBounds_toArray]); (try dsimp only [List.set_cons_zero, List.set_cons_succ])
    refine wpAnyH_ready (rs := [6]) (by kernel_rfl) (by simp) ?_; refine AllReadyH.cons (o := ⟨some 48, _, _, _, _, _⟩) rfl (fun K hK => ?_) AllReadyH.nil; go_simp
    go_at_call 93
    refine (HMR.out W3.drew (show B ≤ W3.heap.size by omega) HPS3.out).mono ?_
    rintro e w5 ⟨v5, rfl, ho, hb5'⟩
    obtain ⟨A5, c5, rfl, hI5⟩ := OwnI.form ho
    have hb5 : Below W3.heap.size W3 w5 := below_of_drew hb5'
    have hs5 : W3.heap.size ≤ w5.heap.size := hb5.size
    have u1 := (hb5.cell (p := ⟨w.heap.size + 1, 1, none⟩) (by show w.heap.size + 1 < W3.heap.size; omega)).trans s1
    have u2 := (hb5.cell (p := ⟨w.heap.size + 1 + 1, 0, none⟩) (by show w.heap.size + 1 + 1 < W3.heap.size; omega)).trans s2
    have u3 := (hb5.cell (p := ⟨w.heap.size + 1 + 1, 1, none⟩) (by show w.heap.size + 1 + 1 < W3.heap.size; omega)).trans s3
    have u4 := (hb5.cell (p := ⟨b3, off3 + i, none⟩) (by show b3 < W3.heap.size; omega)).trans t1
    have HLS5 := Lib.hid ((HLS3.out.below hb5 (by omega)).more (B' := w5.heap.size) (by omega))
    have HC := Lib.hid (impl_areDifferentOf A5 A3 M.length c5 n3 c3 M L w5 w5.heap.size (Nat.le_refl _) rfl HN3.out hI5 HLS5.out (by omega) (by omega) hcap)
    rw [HRI.out] at HC
    refine hK.out _ _ ⟨u1, u2, u3, u4⟩ (fun hHeld => ?_)
    clear hK K
    (try simp only [Act.put, List.setIfInBounds_toArray, List.set_cons_zero, List.set_cons_succ])
    refine wpAnyH_ready (rs := [12]) (by kernel_rfl) (by simp) ?_; refine AllReadyH.cons (o := ⟨some 54, _, _, _, _, _⟩) rfl (fun K hK => ?_) AllReadyH.nil; go_simp
    go_at_call 92
    refine HC.out.mono ?_
    rintro e w6 ⟨rfl, rfl⟩
    refine hK.out _ _ ⟨u1, u2, u3, u4⟩ (fun hHeld => ?_)
    clear hK K
    (try simp only [Act.put, List.setIfInBounds_toArray, List.set_cons_zero, List.set_cons_succ])
    refine wpAnyH_take (i := 13) (oi := ⟨some 55, _, _, _, _, _⟩) (v := ?_) rfl (by kernel_rfl) (by kernel_rfl) (by kernel_rfl) (fun _ _ _ h => h) (Or.inl ⟨by rfl, ?_⟩) (by assumption) ?_; rotate_left; (focus (intro w hSw; (try dsimp only at hSw); go_simp; (try with_reducible rfl))); (try simp only [Act.put, List.setIfInBounds_toArray]); (try dsimp only [List.set_cons_zero, List.set_cons_succ])
    refine wpAnyH_take (i := 14) (oi := ⟨some 6, _, _, _, _, _⟩) (v := ?_) rfl (by kernel_rfl) (by kernel_rfl) (by kernel_rfl) (fun _ _ _ h => h) (Or.inl ⟨by rfl, ?_⟩) (by assumption) ?_; rotate_left; (focus (intro w hSw; (try dsimp only at hSw); go_simp; (try with_reducible rfl))); (try simp only [Act.put, List.setIfInBounds_toArray]); (try dsimp only [List.set_cons_zero, List.set_cons_succ])
    refine wpAnyH_done (by kernel_rfl) ?_ _
    clear ho hI5
    go_wp2
    go_ret
    exact ⟨ret_b HF.out.symm, HB3.out.trans (hb5.mono (by omega))⟩
  · have hd' : (d.k != 0) = false := by simp [bne, hd]
    rw [hd] at hfd
    have HF := Lib.hid (show r = false by rw [hfd]; rfl)
    clear hfd
    go_enter Tryz.func67, Tryz.ntmps67
    go_wp2
    rw [← HW3.out]
    obtain ⟨s1, s2, s3⟩ := HT.out
    refine wp_region_held_drew (S := fun w' => w'.cell? ⟨w.heap.size + 1 + 1, 0, none⟩ = some (.int .i64 d.k)) (by kernel_rfl) s2 (fun hHeld => ?_)
    refine wpAnyH_take (i := 0) (oi := ⟨some 42, _, _, _, _, _⟩) (v := ?_) rfl (by kernel_rfl) (by kernel_rfl) (by kernel_rfl) (fun _ _ _ h => h) (Or.inl ⟨by rfl, ?_⟩) (by assumption) ?_; rotate_left; (focus (intro w hSw; (try dsimp only at hSw); go_simp; (try with_reducible rfl))); (try simp only [Act.put, List.setIfInBounds_toArray]); (try dsimp only [List.set_cons_zero, List.set_cons_succ])
    refine wpAnyH_take (i := 1) (oi := ⟨some 43, _, _, _, _, _⟩) (v := ?_) rfl (by kernel_rfl) (by kernel_rfl) (by kernel_rfl) (fun _ _ _ h => h) (Or.inl ⟨by rfl, ?_⟩) (by assumption) ?_; rotate_left; (focus (intro w hSw; (try dsimp only at hSw); go_simp; (try with_reducible rfl))); (try simp only [Act.put, List.setIfInBounds_toArray]); (try dsimp only [List.set_cons_zero, List.set_cons_succ])
    refine wpAnyH_take (i := 2) (oi := ⟨some 44, _, _, _, _, _⟩) (v := ?_) rfl (by kernel_rfl) (by kernel_rfl) (by kernel_rfl) (fun _ _ _ h => h) (Or.inl ⟨by rfl, ?_⟩) (by assumption) ?_; rotate_left; (focus (intro w hSw; (try dsimp only at hSw); go_simp; (try with_reducible rfl))); (try simp only [Act.put, List.setIfInBounds_toArray]); (try dsimp only [List.set_cons_zero, List.set_cons_succ])
    refine wpAnyH_take (i := 3) (oi := ⟨some 45, _, _, _, _, _⟩) (v := ?_) rfl (by kernel_rfl) (by kernel_rfl) (by kernel_rfl) (fun _ _ _ h => h) (Or.inl ⟨by rfl, ?_⟩) (by assumption) ?_; rotate_left; (focus (intro w hSw; (try dsimp only at hSw); go_simp; (try with_reducible rfl))); (try simp only [Act.put, List.setIfInBounds_toArray]); (try dsimp only [List.set_cons_zero, List.set_cons_succ])
    refine wpAnyH_take (i := 4) (oi := ⟨some 46, _, _, _, _, _⟩) (v := undef) rfl (by kernel_rfl) (by kernel_rfl) (by kernel_rfl) (fun _ _ _ h => h) (Or.inr ⟨by rfl, rfl⟩) (by assumption) ?_; (try simp only [Act.put, List.setIfInBounds_toArray]); (try dsimp only [List.set_cons_zero, List.set_cons_succ])
    refine wpAnyH_take (i := 5) (oi := ⟨some 47, _, _, _, _, _⟩) (v := undef) rfl (by kernel_rfl) (by kernel_rfl) (by kernel_rfl) (fun _ _ _ h => h) (Or.inr ⟨by rfl, rfl⟩) (by assumption) ?_; (try simp only [Act.put, List.setIfInBounds_toArray]); (try dsimp only [List.set_cons_zero, List.set_cons_succ])
    refine wpAnyH_take (i := 6) (oi := ⟨some 48, _, _, _, _, _⟩) (v := undef) rfl (by kernel_rfl) (by kernel_rfl) (by kernel_rfl) (fun _ _ _ h => h) (Or.inr ⟨by rfl, rfl⟩) (by assumption) ?_; (try simp only [Act.put, List.setIfInBounds_toArray]); (try dsimp only [List.set_cons_zero, List.set_cons_succ])
    refine wpAnyH_take (i := 7) (oi := ⟨some 49, _, _, _, _, _⟩) (v := undef) rfl (by kernel_rfl) (by kernel_rfl) (by kernel_rfl) (fun _ _ _ h => h) (Or.inr ⟨by rfl, rfl⟩) (by assumption) ?_; (try simp only [Act.put, List.setIfInBounds_toArray]); (try dsimp only [List.set_cons_zero, List.set_cons_succ])
    refine wpAnyH_take (i := 8) (oi := ⟨some 50, _, _, _, _, _⟩) (v := undef) rfl (by kernel_rfl) (by kernel_rfl) (by kernel_rfl) (fun _ _ _ h => h) (Or.inr ⟨by rfl, rfl⟩) (by assumption) ?_; (try simp only [Act.put, List.setIfInBounds_toArray]); (try dsimp only [List.set_cons_zero, List.set_cons_succ])
    refine wpAnyH_take (i := 9) (oi := ⟨some 51, _, _, _, _, _⟩) (v := undef) rfl (by kernel_rfl) (by kernel_rfl) (by kernel_rfl) (fun _ _ _ h => h) (Or.inr ⟨by rfl, rfl⟩) (by assumption) ?_; (try simp only [Act.put, List.setIfInBounds_toArray]); (try dsimp only [List.set_cons_zero, List.set_cons_succ])
    refine wpAnyH_take (i := 10) (oi := ⟨some 52, _, _, _, _, _⟩) (v := undef) rfl (by kernel_rfl) (by kernel_rfl) (by kernel_rfl) (fun _ _ _ h => h) (Or.inr ⟨by rfl, rfl⟩) (by assumption) ?_; (try simp only [Act.put, List.setIfInBounds_toArray]); (try dsimp only [List.set_cons_zero, List.set_cons_succ])
    refine wpAnyH_take (i := 11) (oi := ⟨some 53, _, _, _, _, _⟩) (v := undef) rfl (by kernel_rfl) (by kernel_rfl) (by kernel_rfl) (fun _ _ _ h => h) (Or.inr ⟨by rfl, rfl⟩) (by assumption) ?_; (try simp only [Act.put, List.setIfInBounds_toArray]); (try dsimp only [List.set_cons_zero, List.set_cons_succ])
    refine wpAnyH_take (i := 12) (oi := ⟨some 54, _, _, _, _, _⟩) (v := undef) rfl (by kernel_rfl) (by kernel_rfl) (by kernel_rfl) (fun _ _ _ h => h) (Or.inr ⟨by rfl, rfl⟩) (by assumption) ?_; (try simp only [Act.put, List.setIfInBounds_toArray]); (try dsimp only [List.set_cons_zero, List.set_cons_succ])
    refine wpAnyH_take (i := 13) (oi := ⟨some 55, _, _, _, _, _⟩) (v := ?_) rfl (by kernel_rfl) (by kernel_rfl) (by kernel_rfl) (fun _ _ _ h => h) (Or.inl ⟨by rfl, ?_⟩) (by assumption) ?_; rotate_left; (focus (intro w hSw; (try dsimp only at hSw); go_simp; (try with_reducible rfl))); (try simp only [Act.put, List.setIfInBounds_toArray]); (try dsimp only [List.set_cons_zero, List.set_cons_succ])
    refine wpAnyH_take (i := 14) (oi := ⟨some 6, _, _, _, _, _⟩) (v := ?_) rfl (by kernel_rfl) (by kernel_rfl) (by kernel_rfl) (fun _ _ _ h => h) (Or.inl ⟨by rfl, ?_⟩) (by assumption) ?_; rotate_left; (focus (intro w hSw; (try dsimp only at hSw); go_simp; (try with_reducible rfl))); (try simp only [Act.put, List.setIfInBounds_toArray]); (try dsimp only [List.set_cons_zero, List.set_cons_succ])
    refine wpAnyH_done (by kernel_rfl) ?_ _
    go_wp2
    go_ret
    exact ⟨ret_b HF.out.symm, HB3.out.drew⟩
set_option maxRecDepth 100000 in
set_option maxHeartbeats 3200000 in
theorem impl_ValidLazy (A A' E C : Option Addr) (n c m c' p ec q qc : Nat) (gs : List Nd) (st : Lz) (w : World) (B : Nat) (hB : B ≤ w.heap.size) (hn : n = gs.length) (hnc : n ≤ c) (hm : m = st.vs.length) (hp : p = st.rs.length) (hq : q = st.cs.length) (h : GS w B A gs) (h' : LS4 w B A' E C st) (hs : GB gs) (hb0 : LB st) :
    Calls Tryz.prog 41 #[.agg #[.slice A n c], .agg #[.slice A' m c', .slice E p ec, .slice C q qc]] w fun e w' => e = .returned (.bool (validL gs st)) ∧ Below w.heap.size w w' := by
  have HC := Lib.hid fun (w' : World) (hB : B ≤ w'.heap.size) (h : GS w' B A gs) => impl_ValidGraph A n c gs w' B hB hn h hs hnc
  have hm1 : m ≤ 1048576 := by rw [hm]; exact hb0.1
  have hp1 : p ≤ 1048576 := by rw [hp]; exact hb0.2.1.1
  have hq1 : q ≤ 1048576 := by rw [hq]; exact hb0.2.2.2.2.2
  have hn1 : n ≤ 1048576 := by rw [hn]; exact hs.1
  have hve : validL gs st = (validG gs && (decide (st.vs.length = gs.length) && (decide (st.rs.length = gs.length) && (decide (st.cs.length = gs.length) && (allR st.vs 0 999 && (allR st.cs 0 2 && allL gs st)))))) := rfl
  rw [← hn, ← hm, ← hp, ← hq] at hve
  have H := Lib.hid h
  have H' := Lib.hid h'
  have HN := Lib.hid hn
  have HM := Lib.hid hm
  have HP := Lib.hid hp
  have HQ := Lib.hid hq
  cases hvg : validG gs
  · have hf : validL gs st = false := by rw [hve, hvg]; rfl
    rw [hf]
    rw [hvg] at HC
    clear hf hve hvg h h' hn hm hp hq hs hb0
    go_enter Tryz.func41, Tryz.ntmps41
    go_wp2_with fail
    refine (HC.out _ (by simp; omega) ((H.out.alloc hB _).alloc (by simp; omega) _)).mono ?_
    rintro e w1 ⟨rfl, hb⟩
    go_wp2
    go_ret
    exact ⟨rfl, (((Below.refl _ _).alloc (Nat.le_refl _) _).alloc (by simp) _).trans (hb.mono (by simp; omega))⟩
  rw [hvg] at HC
  by_cases hl : m = n ∧ p = n ∧ q = n
  case neg =>
    have hf : validL gs st = false := by
      rw [hve]
      by_cases h1 : m = n
      · by_cases h2 : p = n
        · rw [decide_eq_false (p := q = n) (fun e => hl ⟨h1, h2, e⟩)]; simp
        · rw [decide_eq_false (p := p = n) h2]; simp
      · rw [decide_eq_false (p := m = n) h1]; simp
    rw [hf]
    have hcs := ne_cases n m p q hl
    clear hf hve hvg h h' hn hm hp hq hs hb0 hl
    rcases hcs with h1 | ⟨h1, h2⟩ | ⟨h1, h2, h3⟩
    all_goals
      go_enter Tryz.func41, Tryz.ntmps41
      go_wp2_with fail
      refine (HC.out _ (by simp; omega) ((H.out.alloc hB _).alloc (by simp; omega) _)).mono ?_
      rintro e w1 ⟨rfl, hb⟩
      have q0 : w1.cell? ⟨w.heap.size, 0, none⟩ = some (.slice A n c) := (hb.cell (p := ⟨w.heap.size, 0, none⟩) (by simp; omega)).trans (by go_simp)
      have q1 : w1.cell? ⟨w.heap.size + 1, 0, none⟩ = some (.slice A' m c') := (hb.cell (p := ⟨w.heap.size + 1, 0, none⟩) (by simp)).trans (by go_simp)
      have q2 : w1.cell? ⟨w.heap.size + 1, 1, none⟩ = some (.slice E p ec) := (hb.cell (p := ⟨w.heap.size + 1, 1, none⟩) (by simp)).trans (by go_simp)
      have q3 : w1.cell? ⟨w.heap.size + 1, 2, none⟩ = some (.slice C q qc) := (hb.cell (p := ⟨w.heap.size + 1, 2, none⟩) (by simp)).trans (by go_simp)
      have hB1 : Below w.heap.size w w1 := (((Below.refl _ _).alloc (Nat.le_refl _) _).alloc (by simp) _).trans (hb.mono (by simp; omega))
      have hl1 : w.heap.size + 2 ≤ w1.heap.size := by have := hb.size; simp at this; omega
      go_wp2
      go_ret
      exact ⟨rfl, hB1⟩
  obtain ⟨hl1, hl2, hl3⟩ := hl
  have hne1 : ((m : Int) != (n : Int)) = false := by simp [hl1]
  have hne2 : ((p : Int) != (n : Int)) = false := by simp [hl2]
  have hne3 : ((q : Int) != (n : Int)) = false := by simp [hl3]
  have HAR := Lib.hid fun (w' : World) (hB : B ≤ w'.heap.size) (h : IS w' B A' st.vs) => impl_allInRange A' m c' st.vs 999 w' B hB hm h (by omega)
  have hn10 : n ≤ 10 := by rw [hn]; exact (validG_parts gs hvg).1
  have h10 : decide (st.vs.length ≤ 10) = true := decide_eq_true (by omega)
  rw [h10, Bool.true_and] at HAR
  cases hr : allR st.vs 0 999
  · have hf : validL gs st = false := by rw [hve, hr]; simp
    rw [hf]
    rw [hr] at HAR
    clear hf hve hvg h h' hn hm hp hq hs hb0 hl1 hl2 hl3 hr h10
    go_enter Tryz.func41, Tryz.ntmps41
    go_wp2_with fail
    refine (HC.out _ (by simp; omega) ((H.out.alloc hB _).alloc (by simp; omega) _)).mono ?_
    rintro e w1 ⟨rfl, hb⟩
    have q0 : w1.cell? ⟨w.heap.size, 0, none⟩ = some (.slice A n c) := (hb.cell (p := ⟨w.heap.size, 0, none⟩) (by simp; omega)).trans (by go_simp)
    have q1 : w1.cell? ⟨w.heap.size + 1, 0, none⟩ = some (.slice A' m c') := (hb.cell (p := ⟨w.heap.size + 1, 0, none⟩) (by simp)).trans (by go_simp)
    have q2 : w1.cell? ⟨w.heap.size + 1, 1, none⟩ = some (.slice E p ec) := (hb.cell (p := ⟨w.heap.size + 1, 1, none⟩) (by simp)).trans (by go_simp)
    have q3 : w1.cell? ⟨w.heap.size + 1, 2, none⟩ = some (.slice C q qc) := (hb.cell (p := ⟨w.heap.size + 1, 2, none⟩) (by simp)).trans (by go_simp)
    have hB1 : Below w.heap.size w w1 := (((Below.refl _ _).alloc (Nat.le_refl _) _).alloc (by simp) _).trans (hb.mono (by simp; omega))
    have hl1 : w.heap.size + 2 ≤ w1.heap.size := by have := hb.size; simp at this; omega
    go_wp2_with fail
    refine (HAR.out _ (by omega) (((H'.out.1.1.alloc hB _).alloc (by simp; omega) _).below hb (by simp; omega))).mono ?_
    rintro e w' ⟨rfl, rfl⟩
    go_wp2
    go_ret
    exact ⟨rfl, hB1⟩
  rw [hr] at HAR
  have hf : validL gs st = allF gs st := by rw [hve, hvg, decide_eq_true hl1, decide_eq_true hl2, decide_eq_true hl3, hr, allF_eq gs st hvg (by omega)]; simp
  rw [hf]
  have HGC := Lib.hid fun (i : Nat) (hi : i < n) (w' : World) (B1 : Nat) (hB : B1 ≤ w'.heap.size) (h : GS w' B1 A gs) (h' : LS4 w' B1 A' E C st) =>
    impl_fitsColour A A' E C n c m c' p ec q qc gs st i w' B1 hB hn hm hp hq h h' hs hb0 hvg (by omega) (by omega) (by omega) hr hi
  have HBAD := Lib.hid fun (i : Nat) (hi : i < gs.length) => allF_bad gs st i hi
  have HFIN := Lib.hid (allF_fin gs st)
  clear hf hve hvg h h' hn hm hp hq hs hb0 hl1 hl2 hl3 hr h10
  go_enter Tryz.func41, Tryz.ntmps41
  go_wp2_with fail
  refine (HC.out _ (by simp; omega) ((H.out.alloc hB _).alloc (by simp; omega) _)).mono ?_
  rintro e w1 ⟨rfl, hb⟩
  have q0 : w1.cell? ⟨w.heap.size, 0, none⟩ = some (.slice A n c) := (hb.cell (p := ⟨w.heap.size, 0, none⟩) (by simp; omega)).trans (by go_simp)
  have q1 : w1.cell? ⟨w.heap.size + 1, 0, none⟩ = some (.slice A' m c') := (hb.cell (p := ⟨w.heap.size + 1, 0, none⟩) (by simp)).trans (by go_simp)
  have q2 : w1.cell? ⟨w.heap.size + 1, 1, none⟩ = some (.slice E p ec) := (hb.cell (p := ⟨w.heap.size + 1, 1, none⟩) (by simp)).trans (by go_simp)
  have q3 : w1.cell? ⟨w.heap.size + 1, 2, none⟩ = some (.slice C q qc) := (hb.cell (p := ⟨w.heap.size + 1, 2, none⟩) (by simp)).trans (by go_simp)
  have hB1 : Below w.heap.size w w1 := (((Below.refl _ _).alloc (Nat.le_refl _) _).alloc (by simp) _).trans (hb.mono (by simp; omega))
  have hl1 : w.heap.size + 2 ≤ w1.heap.size := by have := hb.size; simp at this; omega
  have HG1 := Lib.hid (((H.out.alloc hB (.cells #[.slice A n c] 36)).alloc (by simp; omega) (.cells #[.slice A' m c', .slice E p ec, .slice C q qc] 31)).below hb (by simp; omega))
  have HE1 := Lib.hid (((H'.out.alloc hB (.cells #[.slice A n c] 36)).alloc (by simp; omega) (.cells #[.slice A' m c', .slice E p ec, .slice C q qc] 31)).below hb (by simp; omega))
  clear hb H H' HC
  go_wp2_with fail
  refine (HAR.out _ (by omega) HE1.out.1.1).mono ?_
  rintro e w' ⟨rfl, rfl⟩
  clear HAR
  go_wp2
  go_loopw [41] (fun u wr => ∃ k : Nat, k ≤ n ∧ u = .int .i64 k ∧ Hid (∀ i, i < k → fitF gs st i = true) ∧ Hid (Below w1.heap.size w1 wr) ∧ w1.heap.size ≤ wr.heap.size) (fun u _ => n - (intOf u).toNat)
  case atStart => exact ⟨0, Nat.zero_le _, rfl, fun i hi => by omega, Below.refl _ _, Nat.le_refl _⟩
  case round =>
    obtain ⟨k, hk, rfl, HK, HB, hwr⟩ := hrel
    have r0 := (HB.out.cell (p := ⟨w.heap.size, 0, none⟩) (by show w.heap.size < w1.heap.size; omega)).trans q0
    have r1 := (HB.out.cell (p := ⟨w.heap.size + 1, 0, none⟩) (by show w.heap.size + 1 < w1.heap.size; omega)).trans q1
    have r2 := (HB.out.cell (p := ⟨w.heap.size + 1, 1, none⟩) (by show w.heap.size + 1 < w1.heap.size; omega)).trans q2
    have r3 := (HB.out.cell (p := ⟨w.heap.size + 1, 2, none⟩) (by show w.heap.size + 1 < w1.heap.size; omega)).trans q3
    by_cases hlt : k < n
    · have hkg : k < gs.length := by have := HN.out; omega
      have HCALL := Lib.hid (HGC.out k hlt wr w1.heap.size hwr ((HG1.out.below HB.out (by omega)).more (by omega)) ((HE1.out.below HB.out (by omega)).more (by omega)))
      have HNK := Lib.hid (HBAD.out k hkg)
      have HNT : Hid (fitF gs st k = true → ∀ i, i < k + 1 → fitF gs st i = true) := fun h j hj => by
        rcases Nat.lt_or_ge j k with h1 | h1
        · exact HK.out j h1
        · obtain rfl : j = k := by omega
          exact h
      generalize fitF gs st k = r at *
      go_wp2_with fail
      refine HCALL.out.mono ?_
      rintro e w6 ⟨rfl, hb6⟩
      have HB6 := Lib.hid (HB.out.trans (hb6.mono HB.out.size))
      cases r
      · go_wp2
        go_ret
        exact ⟨ret_b (HNK.out (by first | rfl | trivial)).symm, hB1.trans (HB6.out.mono (by omega))⟩
      · go_wp2
        go_roundw
        case rel => exact ⟨k + 1, by omega, by go_num, HNT.out (by first | rfl | trivial), HB6.out, HB6.out.size⟩
        case measure => simp [intOf]; omega
    · obtain rfl : k = n := by omega
      go_wp2
      go_ret
      exact ⟨ret_b (HFIN.out fun i hi => HK.out i (by have := HN.out; omega)).symm, hB1.trans (HB.out.mono (by omega))⟩
end Go.Proofs.YtlcpgbbpjnkihaaGreat

namespace Go.Proofs.YtlcpgbbpjnkihaaGreat
set_option linter.unusedSimpArgs false
set_option linter.unusedVariables false
open Go.RowKit
theorem nodup_take_step (xs : List Int) (k : Nat) (h : k < xs.length) (hn : (xs.take k).Nodup) (hx : xs.getD k 0 ∉ xs.take k) : (xs.take (k + 1)).Nodup := by
  have hg : xs[k] = xs.getD k 0 := by simp [List.getD, h]
  rw [List.take_succ_eq_append_getElem h, hg, List.nodup_append]
  refine ⟨hn, by simp, ?_⟩
  intro a ha b hb e
  simp at hb
  subst hb; subst e
  exact hx ha
theorem nodup_take_no (xs : List Int) (k : Nat) (h : k < xs.length) (hx : xs.getD k 0 ∈ xs.take k) : ¬ xs.Nodup := by
  intro hn
  have h1 := (List.take_sublist (k + 1) xs).nodup hn
  have hg : xs[k] = xs.getD k 0 := by simp [List.getD, h]
  rw [List.take_succ_eq_append_getElem h, hg, List.nodup_append] at h1
  exact h1.2.2 _ hx _ (by simp) rfl
end Go.Proofs.YtlcpgbbpjnkihaaGreat

namespace Go.Proofs.YtlcpgbbpjnkihaaGreat
set_option linter.unusedSimpArgs false
set_option linter.unusedVariables false
open Go.RowKit
/-- Different cells of a graph. -/
def wrB (gs : List Nd) (xs : List Int) : Bool := decide (∀ k, k < xs.length → isC gs (xs.getD k 0) = true) && decide xs.Nodup
theorem wrB_cell_no (gs : List Nd) (xs : List Int) (k : Nat) (hk : k < xs.length) (h : isC gs (xs.getD k 0) = false) : wrB gs xs = false := by
  unfold wrB; rw [decide_eq_false (fun hc => by rw [hc k hk] at h; cases h)]; rfl
theorem wrB_dup_no (gs : List Nd) (xs : List Int) (h : ¬ xs.Nodup) : wrB gs xs = false := by unfold wrB; rw [decide_eq_false h]; simp
theorem wrB_yes (gs : List Nd) (xs : List Int) (h : ∀ k, k < xs.length → isC gs (xs.getD k 0) = true) (h2 : xs.Nodup) : wrB gs xs = true := by unfold wrB; rw [decide_eq_true h, decide_eq_true h2]; rfl
end Go.Proofs.YtlcpgbbpjnkihaaGreat

namespace Go.Proofs.YtlcpgbbpjnkihaaGreat
set_option linter.unusedSimpArgs false
set_option linter.unusedVariables false
open Go.RowKit
theorem Bx.low {b C : Nat} {vs : List Value} {w w' : World} (h : Bx b vs w) (hb : Below C w w') (hC : b < C) : Bx b vs w' := h.below hb hC
end Go.Proofs.YtlcpgbbpjnkihaaGreat

namespace Go.Proofs.YtlcpgbbpjnkihaaGreat
set_option linter.unusedSimpArgs false
set_option linter.unusedVariables false
open Go.RowKit
set_option maxRecDepth 100000 in
set_option maxHeartbeats 6400000 in
theorem impl_areCells (A1 E1 : Option Addr) (n1 c1 m1 d1 : Nat) (gs : List Nd) (xs : List Int) (w1 : World) (hn : n1 = gs.length) (h10 : n1 ≤ 10) (hm1 : m1 = xs.length) (hms : m1 ≤ 1048576) (h : GS w1 w1.heap.size A1 gs) (h1 : IS w1 w1.heap.size E1 xs) :
    Calls Tryz.prog 42 #[.agg #[.slice A1 n1 c1], .slice E1 m1 d1] w1 fun e w' => e = .returned (.bool (wrB gs xs)) ∧ Below w1.heap.size w1 w' := by
  have HN1 := Lib.hid hn
  have HM1 := Lib.hid hm1
  have P_1 := Lib.hid (h)
  have I_1 := Lib.hid (h1)
  have B_1 := Lib.hid (Below.refl w1.heap.size w1)
  clear hn hm1 h h1
  go_enter Tryz.func42, Tryz.ntmps42
  go_wp2
  obtain ⟨w2, hw2⟩ : ∃ W, W = w1.alloc (.cells #[.slice A1 n1 c1] 36) := ⟨_, rfl⟩
  have hb : Below w1.heap.size w1 w2 := by rw [hw2]; exact (Below.refl _ _).alloc (Nat.le_refl _) _
  have P_2 := Lib.hid (P_1.out.step hb)
  clear P_1
  have I_2 := Lib.hid (I_1.out.step hb)
  clear I_1
  have B_2 := Lib.hid (B_1.out.trans (hb.mono B_1.out.size))
  clear B_1
  have F_2 : Hid (As w1.heap.size (w1.heap.size + 1) (fun w' => w'.cell? ⟨w1.heap.size, 0, none⟩ = some (.slice A1 n1 c1)) w2) := by rw [hw2]; exact box_new _ _ _
  clear hb
  rw [← hw2]
  have hs2 : w1.heap.size + 1 = w2.heap.size := by rw [hw2]; simp
  clear hw2
  rw [hs2]
  obtain ⟨w3, hw3⟩ : ∃ W, W = w2.alloc (.cells #[.bool false, .bool false, .bool false, .bool false, .bool false, .bool false, .bool false, .bool false, .bool false, .bool false] 98) := ⟨_, rfl⟩
  rw [← hw3]
  have HU0 : Hid (∀ j : Nat, j < 10 → w3.cell? ⟨w2.heap.size, j, none⟩ = some (.bool (decide ((j : Int) ∈ xs.take 0)))) := by
    intro j hj
    rw [hw3]
    have : j = 0 ∨ j = 1 ∨ j = 2 ∨ j = 3 ∨ j = 4 ∨ j = 5 ∨ j = 6 ∨ j = 7 ∨ j = 8 ∨ j = 9 := by omega
    rcases this with rfl | rfl | rfl | rfl | rfl | rfl | rfl | rfl | rfl | rfl <;> simp [go_sem]
  have HZ0 : Hid (∀ j : Nat, j < 10 → w3.frozen? ⟨w2.heap.size, j, none⟩ = false) := by
    intro j hj
    rw [hw3]
    have : j = 0 ∨ j = 1 ∨ j = 2 ∨ j = 3 ∨ j = 4 ∨ j = 5 ∨ j = 6 ∨ j = 7 ∨ j = 8 ∨ j = 9 := by omega
    rcases this with rfl | rfl | rfl | rfl | rfl | rfl | rfl | rfl | rfl | rfl <;> simp [go_sem]
  have HB0 : Hid (Below w2.heap.size w2 w3) := by rw [hw3]; exact (Below.refl _ _).alloc (Nat.le_refl _) _
  have hs3 : w2.heap.size < w3.heap.size := by rw [hw3]; simp
  clear hw3 hs2
  have FW := F_2
  have PW := P_2
  have IW := I_2
  have BW := B_2
  go_loopw [10] (fun u wr => ∃ k : Nat, k ≤ m1 ∧ u = .int .i64 k ∧ Hid ((xs.take k).Nodup) ∧ Hid (∀ j, j < k → isC gs (xs.getD j 0) = true) ∧ Hid (∀ j : Nat, j < 10 → wr.cell? ⟨w2.heap.size, j, none⟩ = some (.bool (decide ((j : Int) ∈ xs.take k)))) ∧ Hid (∀ j : Nat, j < 10 → wr.frozen? ⟨w2.heap.size, j, none⟩ = false) ∧ Hid (Below w2.heap.size w2 wr) ∧ w3.heap.size ≤ wr.heap.size) (fun u _ => m1 - (intOf u).toNat)
  case atStart => exact ⟨0, Nat.zero_le _, rfl, by simp [Hid], fun j hj => by omega, HU0, HZ0, HB0, Nat.le_refl _⟩
  case round =>
    obtain ⟨k, hk, rfl, HD, HA, HU, HZ, HB, hwr⟩ := hrel
    obtain ⟨w4, hwK⟩ : ∃ W, W = wr := ⟨_, rfl⟩
    rw [← hwK]
    rw [← hwK] at HU HZ HB hwr
    clear hwK HU0 HZ0 HB0
    have F_4 := Lib.hid (FW.out.step HB.out)
    have P_4 := Lib.hid (PW.out.step HB.out)
    have I_4 := Lib.hid (IW.out.step HB.out)
    have BR := Lib.hid (BW.out.trans (HB.out.mono BW.out.size))
    by_cases hlt : k < m1
    · have hkx : k < xs.length := by have := HM1.out; omega
      obtain ⟨b6, o6, rfl, hb6, e6⟩ := I_4.out (by omega)
      have x6 := e6 k hkx
      clear e6
      have HY := Lib.hid (nodup_take_step xs k hkx)
      have HNO := Lib.hid (nodup_take_no xs k hkx)
      have HCN := Lib.hid (wrB_cell_no gs xs k hkx)
      have HTK : Hid (xs.take (k + 1) = xs.take k ++ [xs.getD k 0]) := by show _ = _; rw [List.take_succ_eq_append_getElem hkx]; simp [List.getD, hkx]
      have HAS : Hid (isC gs (xs.getD k 0) = true → ∀ j, j < k + 1 → isC gs (xs.getD j 0) = true) := fun h j hj => by
        rcases Nat.lt_or_ge j k with h1 | h1
        · exact HA.out j h1
        · obtain rfl : j = k := by omega
          exact h
      generalize xs.getD k 0 = x at *
      have q0 := F_4.out.it
      have hwn : IntKind.i64.wrap ((n1 : Int) - 1) = (n1 : Int) - 1 := by rw [IntKind.wrap_i64]; omega
      have HR := Lib.hid (impl_inRange x ((n1 : Int) - 1) w4)
      have hkm : (k : Int) < (m1 : Int) := by omega
      have hic : isC gs x = (rng x 0 ((n1 : Int) - 1) && ((gs.getD x.toNat default).k == 0)) := by rw [HN1.out]; rfl
      have HHN := Lib.hid fun (hr : rng x 0 ((n1 : Int) - 1) = true) => hasN_nat gs x (by unfold hasN; rw [← HN1.out]; exact hr)
      generalize rng x 0 ((n1 : Int) - 1) = r at *
      cases r
      · have HF2 := Lib.hid (HCN.out (by rw [hic]; rfl))
        clear hic HY HNO HCN HAS HTK HHN
        go_wp2_with fail
        refine HR.out.mono ?_
        rintro e w9 ⟨rfl, rfl⟩
        go_wp2
        go_ret
        exact ⟨ret_b HF2.out.symm, BR.out⟩
      · obtain ⟨q, rfl, hqg⟩ := HHN.out rfl
        have hqn : q < n1 := by have := HN1.out; omega
        have hqn2 : (q : Int) < (n1 : Int) := by omega
        have hq10 : (q : Int) < 10 := by omega
        obtain ⟨b, off, rfl, hbB, d0, A6, n6, c6, d1, hn6, hps⟩ := P_4.out.at_ q (by have := HN1.out; omega)
        clear d1 hn6 hps
        rw [Int.toNat_natCast] at hic
        generalize (gs.getD q default).k = kd at *
        cases hk0 : (kd == 0)
        · have HF2 := Lib.hid (HCN.out (by rw [hic, hk0]; rfl))
          have hk1 : (kd != 0) = true := by rw [bne, hk0]; rfl
          clear hic HY HNO HCN HAS HTK HHN
          go_wp2_with fail
          refine HR.out.mono ?_
          rintro e w9 ⟨rfl, rfl⟩
          go_wp2
          go_ret
          exact ⟨ret_b HF2.out.symm, BR.out⟩
        · have HAS2 := Lib.hid (HAS.out (by rw [hic, hk0]; rfl))
          have hk1 : (kd != 0) = false := by rw [bne, hk0]; rfl
          have u0 := HU.out q (by omega)
          clear hic HAS HCN HHN
          by_cases hm : (q : Int) ∈ xs.take k
          · rw [decide_eq_true hm] at u0
            have HF2 := Lib.hid (wrB_dup_no gs xs (HNO.out hm))
            clear hm HY HNO HTK
            go_wp2_with fail
            refine HR.out.mono ?_
            rintro e w9 ⟨rfl, rfl⟩
            go_wp2
            go_ret
            exact ⟨ret_b HF2.out.symm, BR.out⟩
          · rw [decide_eq_false hm] at u0
            have HT2 := Lib.hid (HY.out HD.out hm)
            have f0 := HZ.out q (by omega)
            have HU2 : Hid (∀ j : Nat, j < 10 → (w4.setCell ⟨w2.heap.size, q, none⟩ (.bool true)).cell? ⟨w2.heap.size, j, none⟩ = some (.bool (decide ((j : Int) ∈ xs.take (k + 1))))) := by
              intro j hj
              rw [HTK.out]
              by_cases e : j = q
              · subst e
                rw [World.cell?_setCell_same _ _ _ u0]; simp
              · rw [World.cell?_setCell_other _ _ _ _ (by intro e2; have := congrArg Addr.off e2; simp at this; omega), HU.out j hj]
                have : ((j : Int) ∈ xs.take k ++ [(q : Int)]) ↔ (j : Int) ∈ xs.take k := by simp; omega
                simp only [this]
            have HZ2 : Hid (∀ j : Nat, j < 10 → (w4.setCell ⟨w2.heap.size, q, none⟩ (.bool true)).frozen? ⟨w2.heap.size, j, none⟩ = false) := fun j hj => by rw [World.frozen?_setCell]; exact HZ.out j hj
            have HB2 := Lib.hid (HB.out.setCell (p := ⟨w2.heap.size, q, none⟩) (Nat.le_refl _) (.bool true))
            clear hm HY HNO HTK
            go_wp2_with fail
            refine HR.out.mono ?_
            rintro e w9 ⟨rfl, rfl⟩
            go_wp2
            go_roundw
            case rel => exact ⟨k + 1, by omega, by go_num, HT2.out, HAS2.out, HU2.out, HZ2.out, HB2.out, by simpa [World.setCell] using hwr⟩
            case measure => simp [intOf]; omega
    · obtain rfl : m1 = k := by omega
      have HF2 := Lib.hid (wrB_yes gs xs (fun j hj => HA.out j (by have := HM1.out; omega)) (by have := HD.out; rwa [HM1.out, List.take_of_length_le (Nat.le_refl _)] at this))
      go_wp2
      go_ret
      exact ⟨ret_b HF2.out.symm, BR.out⟩
end Go.Proofs.YtlcpgbbpjnkihaaGreat
