/- Words and contracts for memory that the texts behind use. -/
import Derived.Test.YtgakgmkonmgblaaGreatA0
import Derived.Test.YtgakgmkonmgblaaGreatA1
import Derived.Test.YtgakgmkonmgblaaGreatA2
import Derived.Test.YtgakgmkonmgblaaGreatA3
import Derived.Test.YtgakgmkonmgblaaGreatA4
import Derived.WalkKit
import Derived.Laws.OwnMore
import Derived.Deep.Draws
import Derived.Test.YtgakgmkonmgblaaGreatProg
import Derived.WalkSpells
import Derived.WalkLawsBesides
import Derived.Outline
import Derived.Lib.Hide
import Derived.BigQuiet
import Derived.Deep.QuietTactic
import Derived.StillTailTactics
import Derived.Deep.LoopGhost
import Derived.Laws.MakeOwn
import Derived.WalkSmall
import Derived.RegionTactic
import Derived.BigRegion
import Derived.Deep.RegionWith
import Derived.Deep.RegionHeld3
import Derived.Maps.AppendAt
import Derived.Laws.CopyOwn
import Derived.Deep.Cut
import Derived.Laws.Entries
import Derived.Laws.Bits64
import Derived.IntWalk
import Derived.Deep.RegionLaw
import Derived.Deep.AppendLies
import Derived.Deep.DeepCutAuto
import Derived.Maps.Own
import Derived.Maps.Views
import Derived.ChangeAlike

namespace Go.Proofs.YtgakgmkonmgblaaGreat
set_option linter.unusedSimpArgs false
set_option linter.unusedVariables false
open Go.RowKit
set_option maxHeartbeats 400000 in
theorem spec_inRange (n l m : Int) (w : World) :
    Calls Tryz.prog 105 #[.int .i64 n, .int .i64 l, .int .i64 m] w fun e w' => e = .returned (.bool (rng n l m)) ∧ w = w' := by
  go_enter Tryz.func105, Tryz.ntmps105
  go_wp2
  all_goals
    go_ret
    exact ⟨ret_b (by unfold rng; simp; try omega), rfl⟩
set_option maxHeartbeats 800000 in
theorem spec_arity (k : Int) (w : World) :
    Calls Tryz.prog 138 #[.int .i64 k] w fun e w' => e = .returned (.int .i64 (ar k)) ∧ w = w' := by
  go_enter Tryz.func138, Tryz.ntmps138
  go_wp2
  all_goals
    go_ret
    refine ⟨ret_i ?_, rfl⟩
    simp only [beq_iff_eq, beq_eq_false_iff_ne, ne_eq] at *
    unfold ar
    try simp
    omega
end Go.Proofs.YtgakgmkonmgblaaGreat

namespace Go.Proofs.YtgakgmkonmgblaaGreat
set_option linter.unusedSimpArgs false
set_option linter.unusedVariables false
open Go.RowKit
theorem bcell {W w1 : World} (hb : Below W.heap.size W w1) : (∀ b o, b < W.heap.size → w1.cell? ⟨b, o, none⟩ = W.cell? ⟨b, o, none⟩) ∧ (∀ b o, b < W.heap.size → w1.frozen? ⟨b, o, none⟩ = W.frozen? ⟨b, o, none⟩) :=
  ⟨fun b o h => hb.cell (p := ⟨b, o, none⟩) h, fun b o h => hb.frozen (p := ⟨b, o, none⟩) h⟩
end Go.Proofs.YtgakgmkonmgblaaGreat

namespace Go.Proofs.YtgakgmkonmgblaaGreat
set_option linter.unusedSimpArgs false
set_option linter.unusedVariables false
open Go.RowKit
/-- Returns a fresh slice of numbers. -/
def RetI (w : World) (xs : List Int) (e : Ending) (w' : World) : Prop := ∃ v, e = .returned v ∧ OwnI w' w.heap.size v xs ∧ Below w.heap.size w w'
theorem retI_lit {w w1 : World} (hb : Below w.heap.size w w1) (xs : List Int) (cs : Array Value) (n : Nat) (hn : n = xs.length) (hm : n ≤ maxLen) (hc : cs.toList = xs.map (Value.int .i64)) (e : Ending)
    (he : e = .returned (.slice (some ⟨w1.heap.size, 0, none⟩) n n)) : RetI w xs e (w1.alloc (.cells cs 3)) := by
  subst hn
  refine ⟨_, he, ?_, hb.alloc hb.size _⟩
  have h := World.ownsRow_lit (e := 3) (size := 1) w1 cs xs.length hb.size hm (by rw [← Array.length_toList, hc]; simp)
  rw [hc] at h
  exact h
set_option maxHeartbeats 800000 in
theorem spec_below (p : Pt) (w : World) :
    Calls Tryz.prog 126 #[.agg #[.int .i64 p.k, .int .i64 p.a, .int .i64 p.b, .int .i64 p.c, .int .i64 p.n]] w fun e w' => RetI w (bel p) e w' := by
  obtain ⟨k, a, b, c, n⟩ := p
  have hm : 3 ≤ maxLen := by unfold maxLen; omega
  have HM := Lib.hid hm
  clear hm
  by_cases h2 : ar k = 2
  · have h2' : (ar k == 2) = true := by simp [h2]
    have H : bel ⟨k, a, b, c, n⟩ = [a, b] := by simp [bel, h2]
    rw [H]
    clear H h2
    go_enter Tryz.func126, Tryz.ntmps126
    go_wp2_with (go_at_call 138; refine (spec_arity _ _).mono ?_; rintro e w' ⟨rfl, rfl⟩)
    go_ret
    exact retI_lit ((Below.refl _ _).alloc (Nat.le_refl _) _) _ _ 2 rfl (by have := HM.out; omega) rfl _ (by simp)
  · have h2' : (ar k == 2) = false := by simp [h2]
    by_cases h3 : ar k = 3
    · have h3' : (ar k == 3) = true := by simp [h3]
      have H : bel ⟨k, a, b, c, n⟩ = [a, b, c] := by simp [bel, h3]
      rw [H]
      clear H h2 h3
      go_enter Tryz.func126, Tryz.ntmps126
      go_wp2_with (go_at_call 138; refine (spec_arity _ _).mono ?_; rintro e w' ⟨rfl, rfl⟩)
      go_ret
      exact retI_lit ((Below.refl _ _).alloc (Nat.le_refl _) _) _ _ 3 rfl (by have := HM.out; omega) rfl _ (by simp)
    · have h3' : (ar k == 3) = false := by simp [h3]
      have H : bel ⟨k, a, b, c, n⟩ = [] := by simp [bel, h3, h2]
      rw [H]
      clear H h2 h3
      go_enter Tryz.func126, Tryz.ntmps126
      go_wp2_with (go_at_call 138; refine (spec_arity _ _).mono ?_; rintro e w' ⟨rfl, rfl⟩)
      go_ret
      exact retI_lit ((Below.refl _ _).alloc (Nat.le_refl _) _) _ _ 0 rfl (by have := HM.out; omega) rfl _ (by simp)
set_option maxHeartbeats 1600000 in
theorem spec_goodPart (p : Pt) (i : Nat) (hi : i ≤ 2000000) (w : World) :
    Calls Tryz.prog 125 #[.agg #[.int .i64 p.k, .int .i64 p.a, .int .i64 p.b, .int .i64 p.c, .int .i64 p.n], .int .i64 i] w fun e w' => e = .returned (.bool (goodPt p i)) ∧ Below w.heap.size w w' := by
  obtain ⟨k, a, b, c, n⟩ := p
  go_enter Tryz.func125, Tryz.ntmps125
  go_wp2_with (first | (go_at_call 138; refine (spec_arity _ _).mono ?_; rintro e w' ⟨rfl, rfl⟩) | (go_at_call 105; refine (spec_inRange _ _ _ _).mono ?_; rintro e w' ⟨rfl, rfl⟩))
  all_goals
    go_ret
    refine ⟨ret_b ?_, (Below.refl _ _).alloc (Nat.le_refl _) _⟩
    simp [goodPt, *]
end Go.Proofs.YtgakgmkonmgblaaGreat

namespace Go.Proofs.YtgakgmkonmgblaaGreat
set_option linter.unusedSimpArgs false
set_option linter.unusedVariables false
open Go.RowKit
set_option maxHeartbeats 400000 in
theorem spec_allIn (A : Option Addr) (n c : Nat) (xs : List Int) (lo hi : Int) (w : World) (B : Nat) (hB : B ≤ w.heap.size) (hn : n = xs.length) (h : IS w B A xs) (hs : n ≤ 2000000) :
    Calls Tryz.prog 81 #[.slice A n c, .int .i64 lo, .int .i64 hi] w fun e w' => e = .returned (.bool (allR xs lo hi)) ∧ w = w' := by
  have H := Lib.hid h
  have HN := Lib.hid hn
  clear hn h
  go_enter Tryz.func81, Tryz.ntmps81
  go_wp2
  go_loop [7] (fun i => ∃ k : Nat, k ≤ n ∧ i = .int .i64 k ∧ Hid (∀ j, j < k → rng (xs.getD j 0) lo hi = true)) (fun i => n - (intOf i).toNat)
  case atStart => exact ⟨0, Nat.zero_le _, rfl, fun j hj => by omega⟩
  case round =>
    obtain ⟨k, hk, rfl, HA⟩ := hrel
    by_cases hlt : k < n
    · obtain ⟨b, off, rfl, hbB, hc⟩ := H.out (by have := HN.out; omega)
      have c0 := hc k (by have := HN.out; omega)
      clear hc H
      generalize hp : xs.getD k 0 = p at *
      have HP := Lib.hid hp
      clear hp
      cases hr : rng p lo hi
      · go_wp2_with (go_at_call 105; refine (spec_inRange _ _ _ _).mono ?_; rintro e w' ⟨rfl, rfl⟩)
        go_ret
        refine ⟨ret_b ?_, rfl⟩
        rw [allR_false xs lo hi k (by have := HN.out; omega) (by rw [HP.out]; exact hr)]
        try rfl
      · have HR := Lib.hid hr
        go_wp2_with (go_at_call 105; refine (spec_inRange _ _ _ _).mono ?_; rintro e w' ⟨rfl, rfl⟩)
        go_round
        case rel => exact ⟨k + 1, by omega, by go_num, fun j hj => by
          rcases Nat.lt_or_ge j k with h1 | h1
          · exact HA.out j h1
          · obtain rfl : j = k := by omega
            rw [HP.out]; exact HR.out⟩
        case measure => simp [intOf]; omega
    · go_wp2
      go_ret
      refine ⟨ret_b ?_, rfl⟩
      rw [allR_true xs lo hi fun j hj => HA.out j (by have := HN.out; omega)]
      try rfl
end Go.Proofs.YtgakgmkonmgblaaGreat

namespace Go.Proofs.YtgakgmkonmgblaaGreat
set_option linter.unusedSimpArgs false
set_option linter.unusedVariables false
open Go.RowKit
theorem bel_len (p : Pt) : (bel p).length ≤ 3 := by
  unfold bel
  split
  · simp
  · split <;> simp
theorem take_flat (ps : List Pt) (k : Nat) (h : k < ps.length) : (ps.take (k + 1)).flatMap bel = (ps.take k).flatMap bel ++ bel (ps.getD k default) := by
  rw [show ps.take (k + 1) = ps.take k ++ [ps.getD k default] by rw [List.take_succ_eq_append_getElem h]; simp [List.getD, h]]
  simp
theorem flat_len (ps : List Pt) : (ps.flatMap bel).length ≤ ps.length * 3 := by
  induction ps with
  | nil => simp
  | cons p l ih => have := bel_len p; simp only [List.flatMap_cons, List.length_append, List.length_cons]; omega
theorem validF_bad (ps : List Pt) (k : Nat) (h : k < ps.length) (hg : goodPt (ps.getD k default) k = false) : validF ps = false := by
  unfold validF
  have : decide (∀ i, i < ps.length → goodPt (ps.getD i default) i = true) = false := by
    rw [decide_eq_false_iff_not]; intro H; rw [H k h] at hg; cases hg
  rw [this]; rfl
theorem validF_cnt (ps : List Pt) (k : Nat) (h : k + 1 < ps.length) (hg : (ps.flatMap bel).count (k : Int) ≠ 1) : validF ps = false := by
  unfold validF
  have : decide (∀ i, i < ps.length - 1 → (ps.flatMap bel).count (i : Int) = 1) = false := by
    rw [decide_eq_false_iff_not]; intro H; exact hg (H k (by omega))
  rw [this]; simp
theorem validF_fin (ps : List Pt) (h : ∀ i, i < ps.length → goodPt (ps.getD i default) i = true) (hc : ∀ i, i + 1 < ps.length → (ps.flatMap bel).count (i : Int) = 1) : validF ps = rng ps.length 1 12 := by
  unfold validF
  rw [decide_eq_true h, decide_eq_true fun i hi => hc i (by omega)]; rfl
theorem count_step (L M : List Int) (m t : Nat) (h : m < M.length) (ht : M.getD m 0 = (t : Int)) (j : Nat) : ((L ++ M.take (m + 1)).count (j : Int) : Int) = ((L ++ M.take m).count (j : Int) : Int) + if j = t then 1 else 0 := by
  rw [show M.take (m + 1) = M.take m ++ [M.getD m 0] by rw [List.take_succ_eq_append_getElem h]; simp [List.getD, h]]
  rw [ht, ← List.append_assoc, List.count_append]
  by_cases e : j = t
  · subst e; simp
  · rw [if_neg e, List.count_cons_of_ne (by omega)]; simp
theorem count_le (ps : List Pt) (M : List Int) (m k : Nat) (hk : k ≤ 2000000) (hM : M.length ≤ 3) (x : Int) : ((ps.take k).flatMap bel ++ M.take m).count x ≤ 6000003 := by
  have h1 := List.count_le_length (a := x) (l := (ps.take k).flatMap bel ++ M.take m)
  have h2 := flat_len (ps.take k)
  have h3 : (ps.take k).length ≤ k := List.length_take_le _ _
  have h4 : (M.take m).length ≤ M.length := List.length_take_le' _ _
  rw [List.length_append] at h1
  omega
end Go.Proofs.YtgakgmkonmgblaaGreat

namespace Go.Proofs.YtgakgmkonmgblaaGreat
set_option linter.unusedSimpArgs false
set_option linter.unusedVariables false
open Go.RowKit
theorem mayR_step (ps : List Pt) (m : Nat) : (((List.range (m + 1)).filter (hasNode ps)).map fun m : Nat => (m : Int)) = (((List.range m).filter (hasNode ps)).map fun m : Nat => (m : Int)) ++ (if hasNode ps m then [(m : Int)] else []) := by
  rw [List.range_succ, List.filter_append, List.map_append]
  congr 1
  cases h : hasNode ps m <;> simp [h]
theorem mayR_len (ps : List Pt) (m : Nat) : (((List.range m).filter (hasNode ps)).map fun m : Nat => (m : Int)).length ≤ m := by
  rw [List.length_map]
  have := List.length_filter_le (hasNode ps) (List.range m)
  simpa using this
set_option maxRecDepth 100000 in
set_option maxHeartbeats 1600000 in
theorem spec_mayRead (A : Option Addr) (n c : Nat) (ps : List Pt) (w : World) (B : Nat) (hB : B ≤ w.heap.size) (hn : n = ps.length) (h : PS w B A ps) (hs : n ≤ 2000000) :
    Calls Tryz.prog 127 #[.agg #[.slice A n c]] w fun e w' => RetN w (mayR ps) e w' := by
  obtain ⟨i0, hi, hz0, hz1, hz2⟩ := info_parts info_int
  have H := Lib.hid h
  have HN := Lib.hid hn
  clear hn h
  go_enter Tryz.func127, Tryz.ntmps127
  go_wp2
  go_loopw [3, 4] (fun v i wr => ∃ m : Nat, m ≤ 10 ∧ i = .int .i64 m ∧ Hid (OwnN wr (w.heap.size + 1) v (((List.range m).filter (hasNode ps)).map fun m : Nat => (m : Int))) ∧ Below (w.heap.size + 1) (w.alloc (.cells #[.slice A n c] 78)) wr) (fun _ i _ => 10 - (intOf i).toNat)
  case atStart =>
    refine ⟨0, by omega, rfl, ⟨?_, by simp⟩, (Below.refl _ _).alloc (by simp) _⟩
    have := World.ownsRow_lit (e := 3) (size := 1) (base := w.heap.size + 1) (w.alloc (.cells #[.slice A n c] 78)) #[] 0 (by simp) (by unfold maxLen; omega) rfl
    simpa using this
  case round =>
    obtain ⟨m, hm, rfl, HO, hb⟩ := hrel
    have hbox : wr.cell? ⟨w.heap.size, 0, none⟩ = some (.slice A n c) := (hb.cell (p := ⟨w.heap.size, 0, none⟩) (by simp)).trans (by go_simp)
    have hwr : w.heap.size + 1 ≤ wr.heap.size := by have := hb.size; simpa using this
    by_cases hlt : m < 10
    · have HST := Lib.hid (mayR_step ps m)
      have hml := mayR_len ps m
      generalize hF : (((List.range m).filter (hasNode ps)).map fun m : Nat => (m : Int)) = F at *
      clear hF
      go_wp2
      obtain ⟨wo, hwo⟩ : ∃ wo : World, wo = wr := ⟨_, rfl⟩
      go_loopw [3, 5] (fun v j wi => ∃ k : Nat, k ≤ n ∧ j = .int .i64 k ∧ Hid (OwnN wi (w.heap.size + 1) v F) ∧ Hid ((ps.take k).any (fun p => p.k == 1 && p.n == (m : Int)) = false) ∧ Below (w.heap.size + 1) (w.alloc (.cells #[.slice A n c] 78)) wi) (fun _ j _ => n - (intOf j).toNat)
      case atStart => exact ⟨0, Nat.zero_le _, rfl, HO.out, by simp [Hid], hb⟩
      case round =>
        clear hb hbox hwr hwo HO
        obtain ⟨k, hk, rfl, HO, HA, hb⟩ := hrel
        have hbox : wr.cell? ⟨w.heap.size, 0, none⟩ = some (.slice A n c) := (hb.cell (p := ⟨w.heap.size, 0, none⟩) (by simp)).trans (by go_simp)
        have hwr : w.heap.size + 1 ≤ wr.heap.size := by have := hb.size; simpa using this
        by_cases hkn : k < n
        · obtain ⟨b, off, rfl, hbB, hc⟩ := H.out (by have := HN.out; omega)
          obtain ⟨c0, c1, c2, c3, c4⟩ := hc k (by have := HN.out; omega)
          clear hc
          have hbw : b < w.heap.size := by omega
          have b0 := ((hb.cell (p := ⟨b, off + k * 5, none⟩) (by simp; omega)).trans (World.cell?_alloc_lt _ _ _ (by simpa using hbw))).trans c0
          have b4 := ((hb.cell (p := ⟨b, off + k * 5 + 4, none⟩) (by simp; omega)).trans (World.cell?_alloc_lt _ _ _ (by simpa using hbw))).trans c4
          clear c0 c1 c2 c3 c4
          generalize hp : ps.getD k default = p at *
          have HP := Lib.hid hp
          clear hp
          cases h1 : (p.k == 1)
          · have H1 := Lib.hid h1
            go_wp2
            go_roundw
            case rel =>
              refine ⟨k + 1, by omega, by go_num, HO.out, ?_, hb⟩
              rw [take_succ_getD ps k (by have := HN.out; omega), HP.out, List.any_append, HA.out]
              simp [Hid, show p.k ≠ 1 by simpa using H1.out]
            case measure => simp [intOf]; omega
          · cases h2 : (p.n == (m : Int))
            · have H2 := Lib.hid h2
              go_wp2
              go_roundw
              case rel =>
                refine ⟨k + 1, by omega, by go_num, HO.out, ?_, hb⟩
                rw [take_succ_getD ps k (by have := HN.out; omega), HP.out, List.any_append, HA.out]
                simp [Hid, show p.n ≠ (m : Int) by simpa using H2.out]
              case measure => simp [intOf]; omega
            · have H2 := Lib.hid (show p.n = (m : Int) by simpa using h2)
              have H1 := Lib.hid (show p.k = 1 by simpa using h1)
              obtain ⟨g, cc, rfl, hbg, hgs⟩ := HO.out.form
              go_wp2_with (at_builtin; refine wpList_append_own _ rfl _ _ 26 rfl (w.heap.size + 1) 3 i0 (.int .i64 0) 1 8 Tryz.underlying26 hi hz0 hz1 hz2 rfl (by decide) _ _ _ rfl (HO.out.1.alloc _) ⟨wr.heap.size, 0, none⟩ 1 1 [.int .i64 m] rfl rfl (cell_one_new _ _ _) ?c2 ?c3 ?c4 ?c5 ?_)
              case c2 => intro u hu; simp at hu; subst hu; rfl
              case c3 => unfold maxLen; omega
              case c4 => omega
              case c5 => simp; omega
              intro v' w1 hown' hgrow hnil
              have HO' : Hid (OwnN w1 (w.heap.size + 1) v' (((List.range (m + 1)).filter (hasNode ps)).map fun m : Nat => (m : Int))) := by
                have hh : hasNode ps m = true := by
                  unfold hasNode
                  rw [List.any_eq_true]
                  have hk' : k < ps.length := by have := HN.out; omega
                  refine ⟨ps.getD k default, by simp [List.getD, hk'], ?_⟩
                  rw [HP.out, H2.out, H1.out]
                  simp
                rw [HST.out, hh]
                refine ⟨?_, by first | exact hnil | (intro e; simp [e] at hnil)⟩
                simpa using hown'
              have hb' := (hb.alloc (by omega) (.cells #[.int .i64 m] 3)).grown hgrow (by simp; omega) (by intro q hq; simp [Value.ownBlock] at hq; omega)
              clear hown' hgrow hnil
              go_wp2
              go_roundw
              case rel => exact ⟨m + 1, by omega, by go_num, HO'.out, hb'⟩
              case measure => simp [intOf]; omega
        · go_wp2
          go_roundw
          case rel =>
            have hh : hasNode ps m = false := by
              have := HA.out
              rwa [List.take_of_length_le (by have := HN.out; omega)] at this
            exact ⟨m + 1, by omega, by go_num, by rw [HST.out, hh]; simpa [Hid] using HO.out, hb⟩
          case measure => simp [intOf]; omega
    · go_wp2
      go_ret
      obtain rfl : m = 10 := by omega
      refine ⟨_, rfl, ?_, ((Below.refl _ _).alloc (Nat.le_refl _) _).trans (hb.mono (by omega))⟩
      exact ⟨own_mono HO.out.1 (by omega), HO.out.2⟩
end Go.Proofs.YtgakgmkonmgblaaGreat

namespace Go.Proofs.YtgakgmkonmgblaaGreat
set_option linter.unusedSimpArgs false
set_option linter.unusedVariables false
open Go.RowKit
/-- The counts stand in the block. -/
def Cnt (w : World) (base g n : Nat) (L : List Int) : Prop :=
  ∃ us : List Int, w.ownsRow base 3 1 (.slice (some ⟨g, 0, none⟩) n n) n (us.map (Value.int .i64)) ∧ us.length = n ∧ ∀ j, j < n → us.getD j 0 = (L.count (j : Int) : Int)
theorem Cnt.at_ {w : World} {base g n : Nat} {L : List Int} (h : Cnt w base g n L) (t : Nat) (ht : t < n) : w.cell? ⟨g, t, none⟩ = some (.int .i64 (L.count (t : Int) : Int)) ∧ w.frozen? ⟨g, t, none⟩ = false := by
  obtain ⟨us, h1, h2, h3⟩ := h
  refine ⟨?_, h1.frozenAt t⟩
  rw [h1.cellAt t (by omega), ← h3 t ht]
  simp [List.getD, h2, ht]
theorem Cnt.step {w : World} {base g n : Nat} {L L' : List Int} (h : Cnt w base g n L) (t : Nat) (ht : t < n) (x : Int) (hx : x = (L'.count (t : Int) : Int)) (hL : ∀ j : Nat, (L'.count (j : Int) : Int) = (L.count (j : Int) : Int) + if j = t then 1 else 0) : Cnt (w.setCell ⟨g, t, none⟩ (.int .i64 x)) base g n L' := by
  obtain ⟨us, h1, h2, h3⟩ := h
  refine ⟨us.set t x, ?_, by simpa using h2, fun j hj => ?_⟩
  · have := (h1.stored t (.int .i64 x)).1
    rwa [← List.map_set] at this
  · by_cases e : j = t
    · subst e; simp [List.getD, h2, ht, hx]
    · have := h3 j hj
      rw [hL j, if_neg e]
      simp [List.getD, List.getElem?_set, show ¬ t = j by omega] at this ⊢
      exact this
theorem Cnt.drew {w : World} {base g n : Nat} {L : List Int} (h : Cnt w base g n L) : Cnt w.drew base g n L := h
theorem Cnt.lt {w : World} {base g n : Nat} {L : List Int} (h : Cnt w base g n L) : g < w.heap.size := by
  obtain ⟨us, h1, _⟩ := h
  exact (h1.lt g rfl).2
set_option maxRecDepth 100000 in
set_option maxHeartbeats 1600000 in
theorem spec_validFormula (A : Option Addr) (n c : Nat) (ps : List Pt) (w : World) (B : Nat) (hB : B ≤ w.heap.size) (hn : n = ps.length) (h : PS w B A ps) (hs : n ≤ 2000000) :
    Calls Tryz.prog 103 #[.agg #[.slice A n c]] w fun e w' => e = .returned (.bool (validF ps)) ∧ Below w.heap.size w w' := by
  obtain ⟨i0, hi, hz0, hz1, hz2⟩ := info_parts info_int
  obtain ⟨w0, hmk, hown0, hgr0⟩ := run_make_full (P := Tryz.prog) (w.alloc (.cells #[.slice A n c] 78)) (w.heap.size + 1) 26 3 i0 _ 1 Tryz.underlying26 hi hz0 hz1 .i64 .i64 n (by rw [hz2]; omega) (by unfold maxLen; omega) (by simp)
  simp only [World.size_alloc] at hmk hown0
  have hcn : Cnt w0 (w.heap.size + 1) (w.heap.size + 1) n [] := by
    refine ⟨List.replicate n 0, ?_, by simp, fun j hj => by simp [List.getD, hj]⟩
    simpa [Value.cells, toList_madeCells_one] using hown0
  have hb0 : Below (w.heap.size + 1) (w.alloc (.cells #[.slice A n c] 78)) w0 := ⟨hgr0.os, hgr0.tape, hgr0.output, hgr0.size, fun k hk => hgr0.block k (by simpa using hk) (by simp)⟩
  have H := Lib.hid h
  have HN := Lib.hid hn
  have HC := Lib.hid hcn
  clear hn h hown0 hcn hgr0 hi hz0 hz1 hz2
  go_enter Tryz.func103, Tryz.ntmps103
  go_wp2
  go_loopw [4] (fun i wr => ∃ k : Nat, k ≤ n ∧ i = .int .i64 k ∧ Hid (Cnt wr (w.heap.size + 1) (w.heap.size + 1) n ((ps.take k).flatMap bel)) ∧ Hid (∀ j, j < k → goodPt (ps.getD j default) j = true) ∧ Below (w.heap.size + 1) (w.alloc (.cells #[.slice A n c] 78)) wr) (fun i _ => n - (intOf i).toNat)
  case atStart => exact ⟨0, Nat.zero_le _, rfl, HC.out, by intro j hj; omega, hb0⟩
  case round =>
    obtain ⟨k, hk, rfl, HU, HG, hb⟩ := hrel
    clear hmk hb0 HC
    have hbox : wr.cell? ⟨w.heap.size, 0, none⟩ = some (.slice A n c) := (hb.cell (p := ⟨w.heap.size, 0, none⟩) (by simp)).trans (by go_simp)
    have hwr : w.heap.size + 1 ≤ wr.heap.size := by have := hb.size; simpa using this
    by_cases hlt : k < n
    · obtain ⟨b, off, rfl, hbB, hc⟩ := H.out (by have := HN.out; omega)
      obtain ⟨c0, c1, c2, c3, c4⟩ := hc k (by have := HN.out; omega)
      clear hc
      have hbw : b < w.heap.size := by omega
      have b0 := ((hb.cell (p := ⟨b, off + k * 5, none⟩) (by simp; omega)).trans (World.cell?_alloc_lt _ _ _ (by simpa using hbw))).trans c0
      have b1 := ((hb.cell (p := ⟨b, off + k * 5 + 1, none⟩) (by simp; omega)).trans (World.cell?_alloc_lt _ _ _ (by simpa using hbw))).trans c1
      have b2 := ((hb.cell (p := ⟨b, off + k * 5 + 2, none⟩) (by simp; omega)).trans (World.cell?_alloc_lt _ _ _ (by simpa using hbw))).trans c2
      have b3 := ((hb.cell (p := ⟨b, off + k * 5 + 3, none⟩) (by simp; omega)).trans (World.cell?_alloc_lt _ _ _ (by simpa using hbw))).trans c3
      have b4 := ((hb.cell (p := ⟨b, off + k * 5 + 4, none⟩) (by simp; omega)).trans (World.cell?_alloc_lt _ _ _ (by simpa using hbw))).trans c4
      clear c0 c1 c2 c3 c4 H
      generalize hp : ps.getD k default = p at *
      have HP := Lib.hid hp
      clear hp
      have hws : w.heap.size < wr.heap.size := by omega
      have hbr : b < wr.heap.size := by omega
      clear hwr
      cases hg : goodPt p k
      · go_wp2_with (go_at_call 125; refine (spec_goodPart p k (by omega) _).mono ?_; rintro e w1 ⟨rfl, hb1⟩)
        go_ret
        refine ⟨ret_b ?_, ((Below.refl _ _).alloc (Nat.le_refl _) _).trans ((hb.trans (hb1.mono (by omega))).mono (by omega))⟩
        simp [validF_bad ps k (by have := HN.out; omega) (by rw [HP.out]; exact hg)]
      · go_wp2_with (first | (go_at_call 125; refine (spec_goodPart p k (by omega) _).mono ?_; rintro e w1 ⟨rfl, hb1⟩; obtain ⟨hc1, hf1⟩ := bcell hb1) | (go_at_call 126; refine (spec_below p _).mono ?_; rintro e w2 ⟨v, rfl, hown, hb2⟩; obtain ⟨A2, c2, rfl, hI⟩ := hown.form))
        have hG1 := Lib.hid hg
        clear hc1 hf1 hg hbox b0 b1 b2 b3 b4
        have hb12 : Below wr.heap.size wr w2 := hb1.trans (hb2.mono hb1.size)
        have hbw2 := hb.trans (hb12.mono (by omega))
        have HU2 : Hid (Cnt w2 (w.heap.size + 1) (w.heap.size + 1) n ((ps.take k).flatMap bel ++ (bel p).take 0)) := by
          obtain ⟨us, h1, h2, h3⟩ := HU.out
          exact ⟨us, own_below h1 hb12, h2, by simpa using h3⟩
        have hwg : w.heap.size + 1 < w1.heap.size := by have := HU.out.lt; have := hb1.size; omega
        have HO := Lib.hid hown
        clear hI hb1 hb2 hb12 HU hb hws hbr hown
        generalize hL : (bel p).length = L at *
        have HL := Lib.hid hL
        have hL3 : L ≤ 3 := by rw [← hL]; exact bel_len p
        clear hL
        go_wp2
        go_loopw [6] (fun i wi => ∃ m : Nat, m ≤ L ∧ i = .int .i64 m ∧ Hid (Cnt wi (w.heap.size + 1) (w.heap.size + 1) n ((ps.take k).flatMap bel ++ (bel p).take m)) ∧ Hid (wi.ownsRow w1.heap.size 3 1 (.slice A2 L c2) L ((bel p).map (Value.int .i64))) ∧ Hid (Below (w.heap.size + 1) w2 wi)) (fun i _ => L - (intOf i).toNat)
        case atStart => exact ⟨0, Nat.zero_le _, rfl, HU2.out, by have := HO.out; rw [OwnI, HL.out] at this; exact this, Below.refl _ _⟩
        case round =>
          clear HU2 HO
          obtain ⟨m, hm, rfl, HU, HO, HB⟩ := hrel
          by_cases hml : m < L
          · obtain ⟨b2, off2, rfl, hb2, hc2⟩ := (IS.of_own HO.out) (by have := HL.out; omega)
            have hx := hc2 m (by have := HL.out; omega)
            clear hc2
            obtain ⟨t, ht⟩ : ∃ t : Nat, (bel p).getD m 0 = (t : Int) ∧ t < n := by
              have hmem : (bel p).getD m 0 ∈ bel p := by
                have hl : m < (bel p).length := by have := HL.out; omega
                simp [List.getD, hl]
              have := good_bel p k hG1.out _ hmem
              exact ⟨((bel p).getD m 0).toNat, by omega, by omega⟩
            obtain ⟨ht1, ht2⟩ := ht
            rw [ht1] at hx
            have HT := Lib.hid ht1
            clear ht1
            obtain ⟨hu1, hu2⟩ := HU.out.at_ t ht2
            have hcl := count_le ps (bel p) m k (by omega) (by have := HL.out; omega) (t : Int)
            generalize hcn : (((ps.take k).flatMap bel ++ (bel p).take m).count (t : Int)) = cn at *
            have HCN := Lib.hid hcn
            clear hcn
            go_wp2
            go_region
            go_wp2
            go_roundw
            case rel =>
              have hst := count_step ((ps.take k).flatMap bel) (bel p) m t (by have := HL.out; omega) HT.out
              have hn1 := (HU.out.step t ht2 ((cn : Int) + 1) (by rw [hst t, if_pos rfl, HCN.out]) hst).drew
              have hn2 : (wr.setCell ⟨w.heap.size + 1, t, none⟩ (.int .i64 ((cn : Int) + 1))).drew.ownsRow w1.heap.size 3 1 (.slice (some ⟨b2, off2, none⟩) L c2) L ((bel p).map (Value.int .i64)) :=
                ownsRow_setCell_below HO.out (a := ⟨w.heap.size + 1, t, none⟩) (by simpa using hwg) _
              exact ⟨m + 1, by omega, by go_num, hn1, hn2, (HB.out.setCell (p := ⟨w.heap.size + 1, t, none⟩) (by simp) _).drew⟩
            case measure => simp [intOf]; omega
          · go_wp2
            go_roundw
            case rel =>
              have hkl : k < ps.length := by have := HN.out; omega
              have hf := take_flat ps k hkl
              rw [HP.out] at hf
              have hU : Cnt wr (w.heap.size + 1) (w.heap.size + 1) n ((ps.take (k + 1)).flatMap bel) := by
                rw [hf]
                have := HU.out
                rwa [show (bel p).take m = bel p from List.take_of_length_le (by have := HL.out; omega)] at this
              exact ⟨k + 1, by omega, by go_num, hU, fun j hj => by
                rcases Nat.lt_or_ge j k with h1 | h1
                · exact HG.out j h1
                · obtain rfl : j = k := by omega
                  rw [HP.out]; exact hG1.out, hbw2.trans HB.out⟩
            case measure => simp [intOf]; omega
    · obtain rfl : k = n := by omega
      rw [List.take_of_length_le (by have := HN.out; omega)] at HU
      clear hlt hk H
      go_wp2
      go_loopw [7] (fun i wi => ∃ m : Nat, m ≤ k ∧ i = .int .i64 m ∧ Hid (∀ j, j < m → j + 1 < k → (ps.flatMap bel).count (j : Int) = 1) ∧ wi = wr) (fun i _ => k - (intOf i).toNat)
      case atStart => exact ⟨0, Nat.zero_le _, rfl, by intro j hj; omega, rfl⟩
      case round =>
        obtain ⟨m, hm, rfl, HQ, rfl⟩ := hrel
        by_cases hmk : m + 1 < k
        · obtain ⟨hu1, _⟩ := HU.out.at_ m (by omega)
          cases hcn : ((ps.flatMap bel).count (m : Int) == 1)
          · have hne : (((ps.flatMap bel).count (m : Int) : Int) != 1) = true := by simp at hcn ⊢; omega
            have HNE := Lib.hid hcn
            clear hcn
            go_wp2
            go_ret
            refine ⟨ret_b ?_, ((Below.refl _ _).alloc (Nat.le_refl _) _).trans (hb.mono (by omega))⟩
            have := validF_cnt ps m (by have := HN.out; omega) (by have := HNE.out; simpa using this)
            simp [this]
          · have hne : (((ps.flatMap bel).count (m : Int) : Int) != 1) = false := by simp at hcn ⊢; omega
            have HNE := Lib.hid hcn
            clear hcn
            go_wp2
            go_roundw
            case rel =>
              exact ⟨m + 1, by omega, by go_num, fun j hj hjk => by
                rcases Nat.lt_or_ge j m with h1 | h1
                · exact HQ.out j h1 hjk
                · obtain rfl : j = m := by omega
                  have := HNE.out
                  simpa using this, by first | rfl | trivial⟩
            case measure => simp [intOf]; omega
        · go_wp2_with (go_at_call 105; refine (spec_inRange _ _ _ _).mono ?_; rintro e w' ⟨rfl, rfl⟩)
          go_ret
          refine ⟨ret_b ?_, ((Below.refl _ _).alloc (Nat.le_refl _) _).trans (hb.mono (by omega))⟩
          have hkn := HN.out
          have := validF_fin ps (fun i hi => HG.out i (by omega)) (fun i hi => HQ.out i (by omega) (by omega))
          rw [this, ← hkn]
          try simp
end Go.Proofs.YtgakgmkonmgblaaGreat

namespace Go.Proofs.YtgakgmkonmgblaaGreat
set_option linter.unusedSimpArgs false
set_option linter.unusedVariables false
open Go.RowKit
/-- P holds, of blocks lo to hi - 1. -/
structure As (lo hi : Nat) (P : World → Prop) (w : World) : Prop where
  it : P w
  le : hi ≤ w.heap.size
  loc : Loc lo hi P
section
variable {lo hi a b : Nat} {P : World → Prop} {w w' : World}
theorem As.step (h : As lo hi P w) (hb : Below w.heap.size w w') : As lo hi P w' :=
  ⟨h.loc _ _ h.it fun k _ hk => hb.block k (Nat.lt_of_lt_of_le hk h.le), Nat.le_trans h.le hb.size, h.loc⟩
theorem As.alloc (h : As lo hi P w) (o : Obj) : As lo hi P (w.alloc o) := h.step ((Below.refl _ _).alloc (Nat.le_refl _) o)
theorem As.keep (h : As lo hi P w) (hk : ∀ k, lo ≤ k → k < hi → w'.heap[k]? = w.heap[k]?) (hs : w.heap.size ≤ w'.heap.size) : As lo hi P w' :=
  ⟨h.loc _ _ h.it hk, Nat.le_trans h.le hs, h.loc⟩
end
/-- A box of the call's own. -/
theorem box_loc (g : Nat) (v : Value) : Loc g (g + 1) fun w => w.cell? ⟨g, 0, none⟩ = some v :=
  fun w w' h hk => (World.cell?_of_block (a := ⟨g, 0, none⟩) (hk g (Nat.le_refl _) (Nat.lt_succ_self _))).trans h
theorem box_new (w : World) (v : Value) (t : TypeId) : As w.heap.size (w.heap.size + 1) (fun w' => w'.cell? ⟨w.heap.size, 0, none⟩ = some v) (w.alloc (.cells #[v] t)) :=
  ⟨by go_simp, by simp, box_loc _ _⟩
end Go.Proofs.YtgakgmkonmgblaaGreat

namespace Go.Proofs.YtgakgmkonmgblaaGreat
set_option linter.unusedSimpArgs false
set_option linter.unusedVariables false
open Go.RowKit
/-- No more nodes, and no node with more parts, than a million. -/
def GB (gs : List Nd) : Prop := gs.length ≤ 1048576 ∧ ∀ j, (gs.getD j default).ps.length ≤ 1048576
end Go.Proofs.YtgakgmkonmgblaaGreat

namespace Go.Proofs.YtgakgmkonmgblaaGreat
set_option linter.unusedSimpArgs false
set_option linter.unusedVariables false
open Go.RowKit
theorem all_bad (l : List Int) (p : Int → Bool) (k : Nat) (h : k < l.length) (hp : p (l.getD k 0) = false) : l.all p = false := by
  rw [List.all_eq_false]
  exact ⟨l.getD k 0, by simp [List.getD, h], by rw [hp]; simp⟩
theorem all_good (l : List Int) (p : Int → Bool) (h : ∀ k, k < l.length → p (l.getD k 0) = true) : l.all p = true := by
  rw [List.all_eq_true]
  intro x hx
  obtain ⟨k, hk, rfl⟩ := List.mem_iff_getElem.1 hx
  have := h k hk
  simpa [List.getD, hk] using this
theorem validG_bad (gs : List Nd) (k : Nat) (h : k < gs.length) (hg : nodeOK gs k = false) : validG gs = false := by
  unfold validG
  rw [decide_eq_false]
  · rfl
  · intro H; rw [H k h] at hg; cases hg
theorem validG_fin (gs : List Nd) (h : ∀ i, i < gs.length → nodeOK gs i = true) : validG gs = decide (gs.length ≤ 10) := by
  unfold validG
  rw [decide_eq_true h, Bool.true_and]
theorem mayR_getD_bd (ps : List Pt) (j : Nat) (h : j < (mayR ps).length) : 0 ≤ (mayR ps).getD j 0 ∧ (mayR ps).getD j 0 < 10 :=
  mem_mayR_bd ps _ (by simp [List.getD, h])
theorem diffTo_step (a b : List Int) (k : Nat) : diffTo a b (k + 1) = diffTo a b k ++ (if a.getD k 0 == b.getD k 0 then [] else [(k : Int)]) := by
  unfold diffTo
  rw [List.range_succ, List.filter_append, List.map_append]
  congr 1
  cases h : (a.getD k 0 == b.getD k 0) <;> simp [h, -List.getD_eq_getElem?_getD]
theorem diffTo_len (a b : List Int) (k : Nat) : (diffTo a b k).length ≤ k := by
  unfold diffTo
  rw [List.length_map]
  have := List.length_filter_le (fun i => !(a.getD i 0 == b.getD i 0)) (List.range k)
  simpa using this
end Go.Proofs.YtgakgmkonmgblaaGreat

namespace Go.Proofs.YtgakgmkonmgblaaGreat
set_option linter.unusedSimpArgs false
set_option linter.unusedVariables false
open Go.RowKit
theorem mayR_below (ps : List Pt) : (((List.range 10).filter (hasNode ps)).map fun m : Nat => (m : Int)) = mayR ps := rfl
theorem plc_ge (l : List Int) (x : Int) : decide (0 ≤ plc l x) = decide (x ∈ l) := by
  unfold plc
  by_cases h : x ∈ l
  · simp [h]
  · simp [h]
end Go.Proofs.YtgakgmkonmgblaaGreat

namespace Go.Proofs.YtgakgmkonmgblaaGreat
set_option linter.unusedSimpArgs false
set_option linter.unusedVariables false
open Go.RowKit
theorem drewN_below {B n : Nat} {a w : World} (h : Below B a w) : Below B a (w.drewN n) := ⟨h.os, h.tape, h.output, h.size, h.block⟩
set_option maxRecDepth 100000 in
set_option maxHeartbeats 1600000 in
theorem spec_goodReads (A : Option Addr) (n c : Nat) (gs : List Nd) (i : Nat) (w : World) (B : Nat) (hB : B ≤ w.heap.size) (hn : n = gs.length) (h : GS w B A gs) (hs : GB gs) (hi : i < n) :
    Calls Tryz.prog 104 #[.agg #[.slice A n c], .int .i64 i] w fun e w' => e = .returned (.bool (goodRd gs i)) ∧ Below w.heap.size w w' := by
  have hn1 : n ≤ 1048576 := by rw [hn]; exact hs.1
  have hs1 := hs.2 i
  obtain ⟨b, off, rfl, hbB, hd⟩ := h.at_ i (by omega)
  obtain ⟨c0, A1, n1, c1, c2, hn1', hps⟩ := hd
  have hgr : goodRd gs i = (mayR (gs.getD i default).ps).all (rdOK gs i) := rfl
  rw [hgr]
  have hbd := mayR_getD_bd (gs.getD i default).ps
  generalize hp : gs.getD i default = d at *
  have hy1 : n1 ≤ 1999999 := by omega
  have H := Lib.hid h
  have HN := Lib.hid hn
  have HN1 := Lib.hid hn1'
  have HPS := Lib.hid hps
  have HBD := Lib.hid hbd
  have hbw : b < w.heap.size := by omega
  have HM := Lib.hid fun (w : World) (hB : B ≤ w.heap.size) (h : PS w B A1 d.ps) => spec_mayRead A1 n1 c1 d.ps w B hB hn1' h (by omega)
  have hml := mayR_len d.ps 10
  rw [mayR_below] at hml
  generalize mayR d.ps = L at *
  generalize hl : L.length = l at *
  have HL := Lib.hid hl
  clear h hn hn1' hps hp hgr hs hs1 hbd hl
  go_enter Tryz.func104, Tryz.ntmps104
  go_wp2_with fail
  refine (HM.out _ (by simp; omega) (HPS.out.alloc hB _)).mono ?_
  rintro e w1 ⟨v1, rfl, hown, hb1⟩
  obtain ⟨g, cL, hgv, hbg, hgw⟩ := hown.form
  rw [HL.out] at hgv
  subst hgv
  have hsz1 : w.heap.size < w1.heap.size := by simp at hbg; omega
  have hI : IS w1 w1.heap.size (some ⟨g, 0, none⟩) L := by have := hown.1; rw [HL.out] at this; exact IS.of_own this
  have HI := Lib.hid hI
  have HG := Lib.hid ((H.out.alloc hB (.cells #[.slice (some ⟨b, off, none⟩) n c] 25)).below hb1 (by simp; omega))
  have hbox : w1.cell? ⟨w.heap.size, 0, none⟩ = some (.slice (some ⟨b, off, none⟩) n c) := (hb1.cell (p := ⟨w.heap.size, 0, none⟩) (by simp)).trans (by go_simp)
  have hB1 : Below w.heap.size w w1 := ((Below.refl _ _).alloc (Nat.le_refl _) _).trans (hb1.mono (by simp))
  clear hown hb1 H HPS HM hI
  go_wp2
  go_loopw [6] (fun u wr => ∃ k : Nat, k ≤ l ∧ u = .int .i64 k ∧ Hid (∀ j, j < k → rdOK gs i (L.getD j 0) = true) ∧ Below w1.heap.size w1 wr) (fun u _ => l - (intOf u).toNat)
  case atStart => exact ⟨0, by omega, rfl, by intro j hj; omega, Below.refl _ _⟩
  case round =>
    obtain ⟨k, hk, rfl, HK, hbr⟩ := hrel
    by_cases hlt : k < l
    · obtain ⟨b', off', e', _, hc⟩ := HI.out (by have := HL.out; omega)
      cases e'
      have hx := hc k (by have := HL.out; omega)
      obtain ⟨hx0, hx1⟩ := HBD.out k (by have := HL.out; omega)
      clear hc
      generalize hxx : L.getD k 0 = x at *
      have HX := Lib.hid hxx
      clear hxx
      obtain ⟨t, rfl⟩ : ∃ t : Nat, x = (t : Int) := ⟨x.toNat, by omega⟩
      have e1 : wr.cell? ⟨g, 0 + k, none⟩ = some (.int .i64 t) := (hbr.cell (p := ⟨g, 0 + k, none⟩) hgw).trans hx
      rw [Nat.zero_add] at e1
      have e2 : wr.cell? ⟨w.heap.size, 0, none⟩ = some (.slice (some ⟨b, off, none⟩) n c) := (hbr.cell (p := ⟨w.heap.size, 0, none⟩) hsz1).trans hbox
      by_cases hti : t < i
      · obtain ⟨b', off', e', _, c3, _⟩ := HG.out.at_ t (by have := HN.out; omega)
        cases e'
        have e3 : wr.cell? ⟨b, off + t * 2, none⟩ = some (.int .i64 (gs.getD t default).k) := (hbr.cell (p := ⟨b, off + t * 2, none⟩) (by show b < w1.heap.size; omega)).trans c3
        have hro : rdOK gs i (t : Int) = !((gs.getD t default).k == 2) := by unfold rdOK; rw [decide_eq_true (by omega)]; simp
        clear c3
        generalize gs.getD t default = q at *
        have hd1 : decide ((i : Int) ≤ (t : Int)) = false := by simp; omega
        have htn : t < n := by omega
        cases hq : (q.k == 2)
        all_goals
          have HR := Lib.hid hro
          have HQ := Lib.hid hq
          clear hro
          go_wp2
          go_quiet (fail)
          go_wp2
        · go_roundw
          case rel => exact ⟨k + 1, by omega, by go_num, fun j hj => by
            rcases Nat.lt_or_ge j k with h1 | h1
            · exact HK.out j h1
            · obtain rfl : j = k := by omega
              rw [HX.out, HR.out, HQ.out]; rfl, drewN_below hbr⟩
          case measure => simp [intOf]; omega
        · go_ret
          refine ⟨ret_b ?_, hB1.trans ((drewN_below hbr).mono (by omega))⟩
          exact (all_bad L (rdOK gs i) k (by have := HL.out; omega) (by rw [HX.out, HR.out, HQ.out]; rfl)).symm
      · have hro : rdOK gs i (t : Int) = false := by unfold rdOK; rw [decide_eq_false (by omega)]; rfl
        have HR := Lib.hid hro
        have hd1 : decide ((i : Int) ≤ (t : Int)) = true := by simp; omega
        clear hro
        go_wp2
        go_quiet (fail)
        go_wp2
        go_ret
        refine ⟨ret_b ?_, hB1.trans ((drewN_below hbr).mono (by omega))⟩
        exact (all_bad L (rdOK gs i) k (by have := HL.out; omega) (by rw [HX.out, HR.out])).symm
    · go_wp2
      go_ret
      refine ⟨ret_b ?_, hB1.trans (hbr.mono (by omega))⟩
      exact (all_good L (rdOK gs i) fun j hj => HK.out j (by have := HL.out; omega)).symm
set_option maxRecDepth 100000 in
set_option maxHeartbeats 3200000 in
theorem spec_validGraph (A : Option Addr) (n c : Nat) (gs : List Nd) (w : World) (B : Nat) (hB : B ≤ w.heap.size) (hn : n = gs.length) (h : GS w B A gs) (hs : GB gs) :
    Calls Tryz.prog 73 #[.agg #[.slice A n c]] w fun e w' => e = .returned (.bool (validG gs)) ∧ Below w.heap.size w w' := by
  have hn1 : n ≤ 1048576 := by rw [hn]; exact hs.1
  have H := Lib.hid h
  have HN := Lib.hid hn
  have HS := Lib.hid hs
  clear h hn hs
  go_enter Tryz.func73, Tryz.ntmps73
  go_wp2
  go_loopw [3] (fun u wr => ∃ k : Nat, k ≤ n ∧ u = .int .i64 k ∧ Hid (∀ j, j < k → nodeOK gs j = true) ∧ Below (w.heap.size + 1) (w.alloc (.cells #[.slice A n c] 25)) wr) (fun u _ => n - (intOf u).toNat)
  case atStart => exact ⟨0, by omega, rfl, by intro j hj; omega, Below.refl _ _⟩
  case round =>
    obtain ⟨k, hk, rfl, HK, hbr⟩ := hrel
    have hbox : wr.cell? ⟨w.heap.size, 0, none⟩ = some (.slice A n c) := (hbr.cell (p := ⟨w.heap.size, 0, none⟩) (by simp)).trans (by go_simp)
    have hwr : w.heap.size + 1 ≤ wr.heap.size := by have := hbr.size; simpa using this
    by_cases hlt : k < n
    · obtain ⟨b, off, rfl, hbB, c0, A1, n1, c1, c2, hn1', hps⟩ := H.out.at_ k (by have := HN.out; omega)
      have hx := HS.out.2 k
      have b0 : wr.cell? ⟨b, off + k * 2, none⟩ = _ := ((hbr.cell (p := ⟨b, off + k * 2, none⟩) (by simp; omega)).trans (World.cell?_alloc_lt _ _ _ (by simp; omega))).trans c0
      have b1 : wr.cell? ⟨b, off + k * 2 + 1, none⟩ = _ := ((hbr.cell (p := ⟨b, off + k * 2 + 1, none⟩) (by simp; omega)).trans (World.cell?_alloc_lt _ _ _ (by simp; omega))).trans c2
      have HPS := Lib.hid ((hps.alloc hB (.cells #[.slice (some ⟨b, off, none⟩) n c] 25)).below hbr (by omega))
      have HGS := Lib.hid ((H.out.alloc hB (.cells #[.slice (some ⟨b, off, none⟩) n c] 25)).below hbr (by omega))
      have hok : nodeOK gs k = if (gs.getD k default).k == 0 then decide ((gs.getD k default).ps.length = 0) else if (gs.getD k default).k == 1 then validF (gs.getD k default).ps && goodRd gs k else if (gs.getD k default).k == 2 then validF (gs.getD k default).ps && goodRd gs k else false := rfl
      clear c0 c2 hps
      generalize gs.getD k default = d at *
      have hy1 : n1 ≤ 1999999 := by omega
      have HN1 := Lib.hid hn1'
      have HGR := Lib.hid fun (w : World) (hB : B ≤ w.heap.size) (h : GS w B (some ⟨b, off, none⟩) gs) => spec_goodReads (some ⟨b, off, none⟩) n c gs k w B hB HN.out h HS.out hlt
      have HVF := Lib.hid fun (w : World) (hB : B ≤ w.heap.size) (h : PS w B A1 d.ps) => spec_validFormula A1 n1 c1 d.ps w B hB HN1.out h (by omega)
      generalize goodRd gs k = r at *
      generalize validF d.ps = f at *
      have HOK := Lib.hid hok
      clear hok hx
      cases h0 : (d.k == 0)
      · cases h1 : (d.k == 1)
        · cases h2 : (d.k == 2)
          · clear hn1'
            have H0 := Lib.hid h0
            have H1 := Lib.hid h1
            have H2 := Lib.hid h2
            go_wp2
            go_ret
            refine ⟨ret_b ?_, ((Below.refl _ _).alloc (Nat.le_refl _) _).trans ((hbr.alloc (by omega) _).mono (by omega))⟩
            exact (validG_bad gs k (by have := HN.out; omega) (by rw [HOK.out, H0.out, H1.out, H2.out]; rfl)).symm
          · clear hn1'
            have H0 := Lib.hid h0
            have H1 := Lib.hid h1
            have H2 := Lib.hid h2
            cases f
            · go_wp2_with fail
              refine (HVF.out _ (by simp; omega) (HPS.out.alloc (by omega) _)).mono ?_
              rintro e w1 ⟨rfl, hb1⟩
              have HG1 := Lib.hid ((HGS.out.alloc (by omega) (.cells #[.int .i64 d.k, .slice A1 n1 c1] 80)).below hb1 (by simp; omega))
              have hz1 : w.heap.size + 1 < w1.heap.size := by have := hb1.size; simp at this; omega
              have hB1 := (hbr.alloc (by omega) (.cells #[.int .i64 d.k, .slice A1 n1 c1] 80)).trans (hb1.mono (by simp; omega))
              have hbox1 : w1.cell? ⟨w.heap.size, 0, none⟩ = some (.slice (some ⟨b, off, none⟩) n c) := (hB1.cell (p := ⟨w.heap.size, 0, none⟩) (by simp)).trans (by go_simp)
              go_wp2
              go_ret
              refine ⟨ret_b ?_, ((Below.refl _ _).alloc (Nat.le_refl _) _).trans (hB1.mono (by omega))⟩
              exact (validG_bad gs k (by have := HN.out; omega) (by rw [HOK.out, H0.out, H1.out, H2.out]; rfl)).symm
            · cases r
              · go_wp2_with fail
                refine (HVF.out _ (by simp; omega) (HPS.out.alloc (by omega) _)).mono ?_
                rintro e w1 ⟨rfl, hb1⟩
                have HG1 := Lib.hid ((HGS.out.alloc (by omega) (.cells #[.int .i64 d.k, .slice A1 n1 c1] 80)).below hb1 (by simp; omega))
                have hz1 : w.heap.size + 1 < w1.heap.size := by have := hb1.size; simp at this; omega
                have hB1 := (hbr.alloc (by omega) (.cells #[.int .i64 d.k, .slice A1 n1 c1] 80)).trans (hb1.mono (by simp; omega))
                have hbox1 : w1.cell? ⟨w.heap.size, 0, none⟩ = some (.slice (some ⟨b, off, none⟩) n c) := (hB1.cell (p := ⟨w.heap.size, 0, none⟩) (by simp)).trans (by go_simp)
                go_wp2_with fail
                refine (HGR.out _ (by omega) HG1.out).mono ?_
                rintro e w2 ⟨rfl, hb2⟩
                have hB2 := hB1.trans (hb2.mono (by omega))
                go_wp2
                go_ret
                refine ⟨ret_b ?_, ((Below.refl _ _).alloc (Nat.le_refl _) _).trans (hB2.mono (by omega))⟩
                exact (validG_bad gs k (by have := HN.out; omega) (by rw [HOK.out, H0.out, H1.out, H2.out]; rfl)).symm
              · go_wp2_with fail
                refine (HVF.out _ (by simp; omega) (HPS.out.alloc (by omega) _)).mono ?_
                rintro e w1 ⟨rfl, hb1⟩
                have HG1 := Lib.hid ((HGS.out.alloc (by omega) (.cells #[.int .i64 d.k, .slice A1 n1 c1] 80)).below hb1 (by simp; omega))
                have hz1 : w.heap.size + 1 < w1.heap.size := by have := hb1.size; simp at this; omega
                have hB1 := (hbr.alloc (by omega) (.cells #[.int .i64 d.k, .slice A1 n1 c1] 80)).trans (hb1.mono (by simp; omega))
                have hbox1 : w1.cell? ⟨w.heap.size, 0, none⟩ = some (.slice (some ⟨b, off, none⟩) n c) := (hB1.cell (p := ⟨w.heap.size, 0, none⟩) (by simp)).trans (by go_simp)
                go_wp2_with fail
                refine (HGR.out _ (by omega) HG1.out).mono ?_
                rintro e w2 ⟨rfl, hb2⟩
                have hB2 := hB1.trans (hb2.mono (by omega))
                go_wp2
                go_roundw
                case rel => exact ⟨k + 1, by omega, by go_num, fun j hj => by
                  rcases Nat.lt_or_ge j k with h1 | h1
                  · exact HK.out j h1
                  · obtain rfl : j = k := by omega
                    rw [HOK.out, H0.out, H1.out, H2.out]; rfl, hB2⟩
                case measure => simp [intOf]; omega
        · clear hn1'
          have H0 := Lib.hid h0
          have H1 := Lib.hid h1
          cases f
          · go_wp2_with fail
            refine (HVF.out _ (by simp; omega) (HPS.out.alloc (by omega) _)).mono ?_
            rintro e w1 ⟨rfl, hb1⟩
            have HG1 := Lib.hid ((HGS.out.alloc (by omega) (.cells #[.int .i64 d.k, .slice A1 n1 c1] 80)).below hb1 (by simp; omega))
            have hz1 : w.heap.size + 1 < w1.heap.size := by have := hb1.size; simp at this; omega
            have hB1 := (hbr.alloc (by omega) (.cells #[.int .i64 d.k, .slice A1 n1 c1] 80)).trans (hb1.mono (by simp; omega))
            have hbox1 : w1.cell? ⟨w.heap.size, 0, none⟩ = some (.slice (some ⟨b, off, none⟩) n c) := (hB1.cell (p := ⟨w.heap.size, 0, none⟩) (by simp)).trans (by go_simp)
            go_wp2
            go_ret
            refine ⟨ret_b ?_, ((Below.refl _ _).alloc (Nat.le_refl _) _).trans (hB1.mono (by omega))⟩
            exact (validG_bad gs k (by have := HN.out; omega) (by rw [HOK.out, H0.out, H1.out]; rfl)).symm
          · cases r
            · go_wp2_with fail
              refine (HVF.out _ (by simp; omega) (HPS.out.alloc (by omega) _)).mono ?_
              rintro e w1 ⟨rfl, hb1⟩
              have HG1 := Lib.hid ((HGS.out.alloc (by omega) (.cells #[.int .i64 d.k, .slice A1 n1 c1] 80)).below hb1 (by simp; omega))
              have hz1 : w.heap.size + 1 < w1.heap.size := by have := hb1.size; simp at this; omega
              have hB1 := (hbr.alloc (by omega) (.cells #[.int .i64 d.k, .slice A1 n1 c1] 80)).trans (hb1.mono (by simp; omega))
              have hbox1 : w1.cell? ⟨w.heap.size, 0, none⟩ = some (.slice (some ⟨b, off, none⟩) n c) := (hB1.cell (p := ⟨w.heap.size, 0, none⟩) (by simp)).trans (by go_simp)
              go_wp2_with fail
              refine (HGR.out _ (by omega) HG1.out).mono ?_
              rintro e w2 ⟨rfl, hb2⟩
              have hB2 := hB1.trans (hb2.mono (by omega))
              go_wp2
              go_ret
              refine ⟨ret_b ?_, ((Below.refl _ _).alloc (Nat.le_refl _) _).trans (hB2.mono (by omega))⟩
              exact (validG_bad gs k (by have := HN.out; omega) (by rw [HOK.out, H0.out, H1.out]; rfl)).symm
            · go_wp2_with fail
              refine (HVF.out _ (by simp; omega) (HPS.out.alloc (by omega) _)).mono ?_
              rintro e w1 ⟨rfl, hb1⟩
              have HG1 := Lib.hid ((HGS.out.alloc (by omega) (.cells #[.int .i64 d.k, .slice A1 n1 c1] 80)).below hb1 (by simp; omega))
              have hz1 : w.heap.size + 1 < w1.heap.size := by have := hb1.size; simp at this; omega
              have hB1 := (hbr.alloc (by omega) (.cells #[.int .i64 d.k, .slice A1 n1 c1] 80)).trans (hb1.mono (by simp; omega))
              have hbox1 : w1.cell? ⟨w.heap.size, 0, none⟩ = some (.slice (some ⟨b, off, none⟩) n c) := (hB1.cell (p := ⟨w.heap.size, 0, none⟩) (by simp)).trans (by go_simp)
              go_wp2_with fail
              refine (HGR.out _ (by omega) HG1.out).mono ?_
              rintro e w2 ⟨rfl, hb2⟩
              have hB2 := hB1.trans (hb2.mono (by omega))
              go_wp2
              go_roundw
              case rel => exact ⟨k + 1, by omega, by go_num, fun j hj => by
                rcases Nat.lt_or_ge j k with h1 | h1
                · exact HK.out j h1
                · obtain rfl : j = k := by omega
                  rw [HOK.out, H0.out, H1.out]; rfl, hB2⟩
              case measure => simp [intOf]; omega
      · have H0 := Lib.hid h0
        by_cases hz : 0 < n1
        · clear hn1'
          go_wp2
          go_ret
          refine ⟨ret_b ?_, ((Below.refl _ _).alloc (Nat.le_refl _) _).trans ((hbr.alloc (by omega) _).mono (by omega))⟩
          exact (validG_bad gs k (by have := HN.out; omega) (by rw [HOK.out, H0.out]; exact decide_eq_false (by have := HN1.out; omega))).symm
        · obtain rfl : n1 = 0 := by omega
          clear hn1'
          go_wp2
          go_roundw
          case rel => exact ⟨k + 1, by omega, by go_num, fun j hj => by
            rcases Nat.lt_or_ge j k with h1 | h1
            · exact HK.out j h1
            · obtain rfl : j = k := by omega
              rw [HOK.out, H0.out]; exact decide_eq_true (by have := HN1.out; omega), hbr.alloc (by omega) _⟩
          case measure => simp [intOf]; omega
    · go_wp2
      go_ret
      refine ⟨ret_b ?_, ((Below.refl _ _).alloc (Nat.le_refl _) _).trans (hbr.mono (by omega))⟩
      rw [validG_fin gs fun j hj => HK.out j (by have := HN.out; omega)]
      have := HN.out
      simp
      omega
end Go.Proofs.YtgakgmkonmgblaaGreat

namespace Go.Proofs.YtgakgmkonmgblaaGreat
set_option linter.unusedSimpArgs false
set_option linter.unusedVariables false
open Go.RowKit
theorem As.ints {lo hi n c : Nat} {A : Option Addr} {xs : List Int} {w : World} (h : As lo hi (OwR lo hi 3 1 (.slice A n c) n (xs.map (Value.int .i64))) w) : IS w w.heap.size A xs := h.it.ints.more h.le
theorem As.parts {lo hi n c : Nat} {A : Option Addr} {ps : List Pt} {w : World} (h : As lo hi (OwR lo hi 143 5 (.slice A n c) n (ps.flatMap Pt.cells)) w) : PS w w.heap.size A ps := h.it.parts.more h.le
end Go.Proofs.YtgakgmkonmgblaaGreat

namespace Go.Proofs.YtgakgmkonmgblaaGreat
set_option linter.unusedSimpArgs false
set_option linter.unusedVariables false
open Go.RowKit
theorem RetI.mono {w w0 w' : World} {xs : List Int} {e : Ending} (h : RetI w xs e w') (hb : Below w0.heap.size w0 w) : RetI w0 xs e w' := by
  obtain ⟨v, he, ho, hb'⟩ := h
  exact ⟨v, he, own_mono ho hb.size, hb.trans (hb'.mono hb.size)⟩
theorem RetI.nil {w w' : World} (hb : Below w.heap.size w w') : RetI w [] (.returned (.slice none 0 0)) w' := ⟨_, rfl, World.ownsRow_nil _ _ _ _, hb⟩
end Go.Proofs.YtgakgmkonmgblaaGreat

namespace Go.Proofs.YtgakgmkonmgblaaGreat
set_option linter.unusedSimpArgs false
set_option linter.unusedVariables false
open Go.RowKit
theorem As.lists {lo hi n c : Nat} {A : Option Addr} {xss : List (List Int)} {w : World} (h : As lo hi (OwSS lo hi (.slice A n c) n xss) w) : SS w w.heap.size A xss := h.it.lists.more h.le
end Go.Proofs.YtgakgmkonmgblaaGreat

namespace Go.Proofs.YtgakgmkonmgblaaGreat
set_option linter.unusedSimpArgs false
set_option linter.unusedVariables false
theorem allE_bad (gs : List Nd) (st : Eg) (i : Nat) (hi : i < gs.length) (h : okE gs st i = false) : allE gs st = false := by
  unfold allE
  rw [decide_eq_false_iff_not]
  intro hh
  rw [hh i hi] at h
  cases h
theorem allE_fin (gs : List Nd) (st : Eg) (h : ∀ i, i < gs.length → okE gs st i = true) : allE gs st = true := by
  unfold allE
  exact decide_eq_true h
theorem diffTo_same (a b : List Int) (n : Nat) (hn : n = a.length) (hm : n = b.length) : ((diffTo a b n).length == 0) = decide (a = b) := by
  by_cases h : a = b
  · subst h
    have : diffTo a a n = [] := by unfold diffTo; simp
    rw [this]; simp
  · have : ∃ k, k < n ∧ a.getD k 0 ≠ b.getD k 0 := by
      apply Classical.byContradiction
      intro hc
      apply h
      apply List.ext_getElem (by omega)
      intro k h1 h2
      apply Classical.byContradiction
      intro hne
      exact hc ⟨k, by omega, by simpa [List.getD, h1, h2] using hne⟩
    obtain ⟨k, hk, hne⟩ := this
    have hmem : (k : Int) ∈ diffTo a b n := by
      unfold diffTo
      exact List.mem_map.2 ⟨k, List.mem_filter.2 ⟨List.mem_range.2 hk, by simpa using hne⟩, rfl⟩
    have : (diffTo a b n).length ≠ 0 := by
      intro h0
      rw [List.eq_nil_of_length_eq_zero h0] at hmem
      simp at hmem
    simp [h, this]
end Go.Proofs.YtgakgmkonmgblaaGreat

namespace Go.Proofs.YtgakgmkonmgblaaGreat
set_option linter.unusedSimpArgs false
set_option linter.unusedVariables false
open Go.RowKit
set_option maxRecDepth 100000 in
set_option maxHeartbeats 1600000 in
theorem spec_differing (A A' : Option Addr) (n c c' : Nat) (a b : List Int) (w : World) (B : Nat) (hB : B ≤ w.heap.size) (hn : n = a.length) (hm : n = b.length) (h : IS w B A a) (h' : IS w B A' b) (hs : n ≤ 2000000) :
    Calls Tryz.prog 110 #[.slice A n c, .slice A' n c'] w fun e w' => RetI w (diffTo a b n) e w' := by
  obtain ⟨i0, hi, hz0, hz1, hz2⟩ := info_parts info_int
  have H := Lib.hid h
  have H' := Lib.hid h'
  have HN := Lib.hid hn
  have HM := Lib.hid hm
  clear hn h hm h'
  go_enter Tryz.func110, Tryz.ntmps110
  go_wp2
  go_loopw [5, 6] (fun v i wr => ∃ k : Nat, k ≤ n ∧ i = .int .i64 k ∧ Hid (OwnI wr w.heap.size v (diffTo a b k)) ∧ Below w.heap.size w wr) (fun _ i _ => n - (intOf i).toNat)
  case atStart =>
    refine ⟨0, Nat.zero_le _, rfl, ?_, (Below.refl _ _).alloc (Nat.le_refl _) _⟩
    have := World.ownsRow_lit (e := 3) (size := 1) (base := w.heap.size) w #[] 0 (Nat.le_refl _) (by unfold maxLen; omega) rfl
    simpa [OwnI, Hid, diffTo] using this
  case round =>
    obtain ⟨k, hk, rfl, HO, hb⟩ := hrel
    by_cases hlt : k < n
    · obtain ⟨b1, off1, rfl, hb1, hc1⟩ := H.out (by have := HN.out; omega)
      obtain ⟨b2, off2, rfl, hb2, hc2⟩ := H'.out (by have := HM.out; omega)
      have c1 := (hb.cell (p := ⟨b1, off1 + k, none⟩) (by simp; omega)).trans (hc1 k (by have := HN.out; omega))
      have c2 := (hb.cell (p := ⟨b2, off2 + k, none⟩) (by simp; omega)).trans (hc2 k (by have := HM.out; omega))
      clear hc1 hc2
      have HST := Lib.hid (diffTo_step a b k)
      have hdl := diffTo_len a b k
      generalize a.getD k 0 = x at *
      generalize b.getD k 0 = y at *
      generalize diffTo a b k = D at *
      have hwr : w.heap.size ≤ wr.heap.size := hb.size
      cases hxy : (x == y)
      · have hne : (x != y) = true := by simp [bne, hxy]
        rw [hxy] at HST
        clear hxy
        go_wp2
        go_region
        go_wp2_with (at_builtin; refine wpList_append_own _ rfl _ _ 26 rfl w.heap.size 3 i0 (.int .i64 0) 1 8 Tryz.underlying26 hi hz0 hz1 hz2 rfl (by decide) _ _ _ rfl (HO.out.drew.alloc _) ⟨_, 0, none⟩ 1 1 [.int .i64 k] rfl rfl (cell_one_new _ _ _) ?c2 ?c3 ?c4 ?c5 ?_)
        case c2 => first | rfl | (intro u hu; simp at hu; subst hu; rfl)
        case c3 => unfold maxLen; omega
        case c4 => omega
        case c5 => first | omega | (simp; omega)
        intro v' w3 hown' hgrow _
        have hpos := (HO.out.drew.alloc (.cells #[.int .i64 k] 3)).lt
        have HO' : Hid (OwnI w3 w.heap.size v' (diffTo a b (k + 1))) := by
          rw [HST.out]
          simpa [OwnI, Hid] using hown'
        have HB' := Lib.hid ((hb.drew.alloc hwr (.cells #[.int .i64 k] 3)).grown hgrow (by first | (simp; omega) | omega) (fun q hq => (hpos q hq).1))
        clear hown' hgrow hpos
        go_wp2
        go_roundw
        case rel => exact ⟨k + 1, by omega, by go_num, HO'.out, HB'.out⟩
        case measure => simp [intOf]; omega
      · have hne : (x != y) = false := by simp [bne, hxy]
        rw [hxy] at HST
        clear hxy
        go_wp2
        go_region
        go_wp2
        go_roundw
        case rel => exact ⟨k + 1, by omega, by go_num, by rw [HST.out]; have := HO.out.drew; simpa [OwnI, Hid] using this, hb.drew⟩
        case measure => simp [intOf]; omega
    · obtain rfl : k = n := by omega
      go_wp2
      go_ret
      exact ⟨_, rfl, HO.out, hb⟩
end Go.Proofs.YtgakgmkonmgblaaGreat

namespace Go.Proofs.YtgakgmkonmgblaaGreat
set_option linter.unusedSimpArgs false
set_option linter.unusedVariables false
open Go.RowKit
set_option maxHeartbeats 800000 in
theorem spec_sameInts (A A' : Option Addr) (n n' c c' : Nat) (a b : List Int) (w : World) (B : Nat) (hB : B ≤ w.heap.size) (hn : n = a.length) (hn' : n' = b.length) (h : IS w B A a) (h' : IS w B A' b) (hs : n ≤ 2000000) (hs' : n' ≤ 2000000) :
    Calls Tryz.prog 83 #[.slice A n c, .slice A' n' c'] w fun e w' => e = .returned (.bool (decide (a = b))) ∧ Below w.heap.size w w' := by
  by_cases hl : n = n'
  · have hne : ((n : Int) != (n' : Int)) = false := by simp [hl]
    subst hl
    have HC := Lib.hid (spec_differing A A' n c c' a b w B hB hn hn' h h' hs)
    have HD := Lib.hid (diffTo_same a b n hn hn')
    have hd0 := diffTo_len a b n
    generalize diffTo a b n = D at *
    generalize decide (a = b) = r at *
    clear hn hn' h h'
    go_enter Tryz.func83, Tryz.ntmps83
    go_wp2_with fail
    refine HC.out.mono ?_
    rintro e w1 ⟨v, rfl, ho, hb⟩
    obtain ⟨A1, c1, rfl, _⟩ := OwnI.form ho
    have hd := HD.out
    cases r
    · have h0 : ((D.length : Int) == 0) = false := by simp at hd ⊢; omega
      clear ho hd
      go_wp2
      go_ret
      exact ⟨rfl, hb⟩
    · have h0 : ((D.length : Int) == 0) = true := by simp at hd ⊢; omega
      clear ho hd
      go_wp2
      go_ret
      exact ⟨rfl, hb⟩
  · have hne : ((n : Int) != (n' : Int)) = true := by simp; omega
    have hf : decide (a = b) = false := by rw [decide_eq_false_iff_not]; rintro rfl; omega
    rw [hf]
    clear hl hn hn' h h' hf
    go_enter Tryz.func83, Tryz.ntmps83
    go_wp2
    go_ret
    exact ⟨rfl, Below.refl _ _⟩
set_option maxRecDepth 100000 in
set_option maxHeartbeats 3200000 in
theorem spec_validEager (A A' E : Option Addr) (n c m c' p ec : Nat) (gs : List Nd) (st : Eg) (w : World) (B : Nat) (hB : B ≤ w.heap.size) (hn : n = gs.length) (hm : m = st.vs.length) (hp : p = st.rs.length) (h : GS w B A gs) (h' : ES w B A' E st) (hs : GB gs) (hb0 : EB st) :
    Calls Tryz.prog 39 #[.agg #[.slice A n c], .agg #[.slice A' m c', .slice E p ec]] w fun e w' => e = .returned (.bool (validE gs st)) ∧ Below w.heap.size w w' := by
  have HC := Lib.hid fun (w' : World) (hB : B ≤ w'.heap.size) (h : GS w' B A gs) => spec_validGraph A n c gs w' B hB hn h hs
  have hm1 : m ≤ 1048576 := by rw [hm]; exact hb0.1
  have hp1 : p ≤ 1048576 := by rw [hp]; exact hb0.2.1.1
  have hn1 : n ≤ 1048576 := by rw [hn]; exact hs.1
  have hve : validE gs st = (validG gs && (decide (st.vs.length = gs.length) && (decide (st.rs.length = gs.length) && (allR st.vs 0 999 && allE gs st)))) := rfl
  rw [← hn, ← hm, ← hp] at hve
  have H := Lib.hid h
  have H' := Lib.hid h'
  have HN := Lib.hid hn
  have HM := Lib.hid hm
  have HP := Lib.hid hp
  have HSB := Lib.hid hb0.2.1
  cases hvg : validG gs
  · have hf : validE gs st = false := by rw [hve, hvg]; rfl
    rw [hf]
    rw [hvg] at HC
    clear hf hve hvg h h' hn hm hp hs hb0
    go_enter Tryz.func39, Tryz.ntmps39
    go_wp2_with fail
    refine (HC.out _ (by simp; omega) ((H.out.alloc hB _).alloc (by simp; omega) _)).mono ?_
    rintro e w1 ⟨rfl, hb⟩
    go_wp2
    go_ret
    exact ⟨rfl, (((Below.refl _ _).alloc (Nat.le_refl _) _).alloc (by simp) _).trans (hb.mono (by simp; omega))⟩
  rw [hvg] at HC
  by_cases hl1 : m = n
  case neg =>
    have hne : ((m : Int) != (n : Int)) = true := by simp; omega
    have hf : validE gs st = false := by rw [hve, decide_eq_false hl1]; simp
    rw [hf]
    clear hf hve hvg h h' hn hm hp hs hb0
    go_enter Tryz.func39, Tryz.ntmps39
    go_wp2_with fail
    refine (HC.out _ (by simp; omega) ((H.out.alloc hB _).alloc (by simp; omega) _)).mono ?_
    rintro e w1 ⟨rfl, hb⟩
    have q0 : w1.cell? ⟨w.heap.size, 0, none⟩ = some (.slice A n c) := (hb.cell (p := ⟨w.heap.size, 0, none⟩) (by simp; omega)).trans (by go_simp)
    have q1 : w1.cell? ⟨w.heap.size + 1, 0, none⟩ = some (.slice A' m c') := (hb.cell (p := ⟨w.heap.size + 1, 0, none⟩) (by simp)).trans (by go_simp)
    have q2 : w1.cell? ⟨w.heap.size + 1, 1, none⟩ = some (.slice E p ec) := (hb.cell (p := ⟨w.heap.size + 1, 1, none⟩) (by simp)).trans (by go_simp)
    have hB1 : Below w.heap.size w w1 := (((Below.refl _ _).alloc (Nat.le_refl _) _).alloc (by simp) _).trans (hb.mono (by simp; omega))
    have hl1 : w.heap.size + 2 ≤ w1.heap.size := by have := hb.size; simp at this; omega
    go_wp2
    go_ret
    exact ⟨rfl, hB1⟩
  have hne1 : ((m : Int) != (n : Int)) = false := by simp [hl1]
  by_cases hl2 : p = n
  case neg =>
    have hne : ((p : Int) != (n : Int)) = true := by simp; omega
    have hf : validE gs st = false := by rw [hve, decide_eq_false hl2]; simp
    rw [hf]
    clear hf hve hvg h h' hn hm hp hs hb0 hl1
    go_enter Tryz.func39, Tryz.ntmps39
    go_wp2_with fail
    refine (HC.out _ (by simp; omega) ((H.out.alloc hB _).alloc (by simp; omega) _)).mono ?_
    rintro e w1 ⟨rfl, hb⟩
    have q0 : w1.cell? ⟨w.heap.size, 0, none⟩ = some (.slice A n c) := (hb.cell (p := ⟨w.heap.size, 0, none⟩) (by simp; omega)).trans (by go_simp)
    have q1 : w1.cell? ⟨w.heap.size + 1, 0, none⟩ = some (.slice A' m c') := (hb.cell (p := ⟨w.heap.size + 1, 0, none⟩) (by simp)).trans (by go_simp)
    have q2 : w1.cell? ⟨w.heap.size + 1, 1, none⟩ = some (.slice E p ec) := (hb.cell (p := ⟨w.heap.size + 1, 1, none⟩) (by simp)).trans (by go_simp)
    have hB1 : Below w.heap.size w w1 := (((Below.refl _ _).alloc (Nat.le_refl _) _).alloc (by simp) _).trans (hb.mono (by simp; omega))
    have hl1 : w.heap.size + 2 ≤ w1.heap.size := by have := hb.size; simp at this; omega
    go_wp2
    go_ret
    exact ⟨rfl, hB1⟩
  have hne2 : ((p : Int) != (n : Int)) = false := by simp [hl2]
  have HAR := Lib.hid fun (w' : World) (hB : B ≤ w'.heap.size) (h : IS w' B A' st.vs) => spec_allIn A' m c' st.vs 0 999 w' B hB hm h (by omega)
  cases hr : allR st.vs 0 999
  · have hf : validE gs st = false := by rw [hve, hr]; simp
    rw [hf]
    rw [hr] at HAR
    clear hf hve hvg h h' hn hm hp hs hb0 hl1 hl2 hr
    go_enter Tryz.func39, Tryz.ntmps39
    go_wp2_with fail
    refine (HC.out _ (by simp; omega) ((H.out.alloc hB _).alloc (by simp; omega) _)).mono ?_
    rintro e w1 ⟨rfl, hb⟩
    have q0 : w1.cell? ⟨w.heap.size, 0, none⟩ = some (.slice A n c) := (hb.cell (p := ⟨w.heap.size, 0, none⟩) (by simp; omega)).trans (by go_simp)
    have q1 : w1.cell? ⟨w.heap.size + 1, 0, none⟩ = some (.slice A' m c') := (hb.cell (p := ⟨w.heap.size + 1, 0, none⟩) (by simp)).trans (by go_simp)
    have q2 : w1.cell? ⟨w.heap.size + 1, 1, none⟩ = some (.slice E p ec) := (hb.cell (p := ⟨w.heap.size + 1, 1, none⟩) (by simp)).trans (by go_simp)
    have hB1 : Below w.heap.size w w1 := (((Below.refl _ _).alloc (Nat.le_refl _) _).alloc (by simp) _).trans (hb.mono (by simp; omega))
    have hl1 : w.heap.size + 2 ≤ w1.heap.size := by have := hb.size; simp at this; omega
    go_wp2_with fail
    refine (HAR.out _ (by omega) (((H'.out.1.alloc hB _).alloc (by simp; omega) _).below hb (by simp; omega))).mono ?_
    rintro e w' ⟨rfl, rfl⟩
    go_wp2
    go_ret
    exact ⟨rfl, hB1⟩
  rw [hr] at HAR
  have hf : validE gs st = allE gs st := by rw [hve, hvg, decide_eq_true hl1, decide_eq_true hl2, hr]; simp
  rw [hf]
  have hvo : VOK st.vs := allR_VOK st.vs hr
  have hn10 : n ≤ 10 := by rw [hn]; exact (validG_parts gs hvg).1
  have HRUN := Lib.hid fun (i : Nat) (hi : i < gs.length) (hk : ((gs.getD i default).k == 0) = false) (A1 : Option Addr) (n1 c1 : Nat) (hn1 : n1 = (gs.getD i default).ps.length) (w' : World) (B1 : Nat) (hB : B1 ≤ w'.heap.size) (h : PS w' B1 A1 (gs.getD i default).ps) (h' : IS w' B1 A' st.vs) =>
    (show Calls _ _ _ _ _ from
      have hce := eager_canEv gs st.vs i hvg (by omega) hr hi hk
      have hcp := canEv_parts _ _ hce
      have hg := validF_good _ hcp.1
      spec_run A1 A' n1 c1 m c' (gs.getD i default).ps st.vs B1 hn1 hm hg.1 (by rw [hm]; exact hcp.2.2.2) hvo (by omega) (by omega) (by omega) w' hB h h')
  have HBAD := Lib.hid fun (i : Nat) (hi : i < gs.length) => allE_bad gs st i hi
  have HFBD := Lib.hid fun (i : Nat) (hi : i < gs.length) => eager_depF_bd gs st.vs hvg (by omega) i hi
  have HFIN := Lib.hid (allE_fin gs st)
  have HL1 := Lib.hid hl1
  have HL2 := Lib.hid hl2
  clear hf hve hvg h h' hn hm hp hs hb0 hl1 hl2 hr hvo
  go_enter Tryz.func39, Tryz.ntmps39
  go_wp2_with fail
  refine (HC.out _ (by simp; omega) ((H.out.alloc hB _).alloc (by simp; omega) _)).mono ?_
  rintro e w1 ⟨rfl, hb⟩
  have q0 : w1.cell? ⟨w.heap.size, 0, none⟩ = some (.slice A n c) := (hb.cell (p := ⟨w.heap.size, 0, none⟩) (by simp; omega)).trans (by go_simp)
  have q1 : w1.cell? ⟨w.heap.size + 1, 0, none⟩ = some (.slice A' m c') := (hb.cell (p := ⟨w.heap.size + 1, 0, none⟩) (by simp)).trans (by go_simp)
  have q2 : w1.cell? ⟨w.heap.size + 1, 1, none⟩ = some (.slice E p ec) := (hb.cell (p := ⟨w.heap.size + 1, 1, none⟩) (by simp)).trans (by go_simp)
  have hB1 : Below w.heap.size w w1 := (((Below.refl _ _).alloc (Nat.le_refl _) _).alloc (by simp) _).trans (hb.mono (by simp; omega))
  have hl1 : w.heap.size + 2 ≤ w1.heap.size := by have := hb.size; simp at this; omega
  have HG1 := Lib.hid (((H.out.alloc hB (.cells #[.slice A n c] 25)).alloc (by simp; omega) (.cells #[.slice A' m c', .slice E p ec] 29)).below hb (by simp; omega))
  have HE1 := Lib.hid (((H'.out.alloc hB (.cells #[.slice A n c] 25)).alloc (by simp; omega) (.cells #[.slice A' m c', .slice E p ec] 29)).below hb (by simp; omega))
  clear hb H H' HC
  go_wp2_with fail
  refine (HAR.out _ (by omega) HE1.out.1).mono ?_
  rintro e w' ⟨rfl, rfl⟩
  clear HAR
  go_wp2
  go_loopw [5] (fun u wr => ∃ k : Nat, k ≤ n ∧ u = .int .i64 k ∧ Hid (∀ i, i < k → okE gs st i = true) ∧ Hid (Below w1.heap.size w1 wr) ∧ w1.heap.size ≤ wr.heap.size) (fun u _ => n - (intOf u).toNat)
  case atStart => exact ⟨0, Nat.zero_le _, rfl, fun i hi => by omega, Below.refl _ _, Nat.le_refl _⟩
  case round =>
    obtain ⟨k, hk, rfl, HK, HB, hwr⟩ := hrel
    have r0 := (HB.out.cell (p := ⟨w.heap.size, 0, none⟩) (by simp; omega)).trans q0
    have r1 := (HB.out.cell (p := ⟨w.heap.size + 1, 0, none⟩) (by simp; omega)).trans q1
    have r2 := (HB.out.cell (p := ⟨w.heap.size + 1, 1, none⟩) (by simp; omega)).trans q2
    by_cases hlt : k < n
    · have hkg : k < gs.length := by have := HN.out; omega
      have hkm : k < m := by have := HL1.out; omega
      have hkp : k < p := by have := HL2.out; omega
      obtain ⟨b, off, hA, hbB, c0, A1, n1, c1, c2, hn1', hps⟩ := HG1.out.at_ k hkg
      obtain ⟨b2, off2, hA', hbB2, hcx⟩ := HE1.out.1 (by have := HM.out; omega)
      have d0 := hcx k (by have := HM.out; omega)
      obtain ⟨b3, off3, hE, hbB3, A3, n3, c3, d1, hn3, hls⟩ := HE1.out.2.at_ k (by have := HP.out; omega)
      have e0 := (HB.out.cell (p := ⟨b, off + k * 2, none⟩) (by simp; omega)).trans c0
      have e1 := (HB.out.cell (p := ⟨b, off + k * 2 + 1, none⟩) (by simp; omega)).trans c2
      have e2 := (HB.out.cell (p := ⟨b2, off2 + k, none⟩) (by simp; omega)).trans d0
      have e3 := (HB.out.cell (p := ⟨b3, off3 + k, none⟩) (by simp; omega)).trans d1
      have HPS := Lib.hid (hps.below HB.out (by omega))
      have HIS := Lib.hid (HE1.out.1.below HB.out (by omega))
      have HLS := Lib.hid (hls.below HB.out (by omega))
      have hn3b : n3 ≤ 1048576 := by rw [hn3]; exact HSB.out.2 k
      have HNK := Lib.hid (HBAD.out k hkg)
      have HNT : Hid (okE gs st k = true → ∀ i, i < k + 1 → okE gs st i = true) := fun h j hj => by
        rcases Nat.lt_or_ge j k with h1 | h1
        · exact HK.out j h1
        · obtain rfl : j = k := by omega
          exact h
      have hoe : okE gs st k = (valE gs st.vs k == st.vs.getD k 0 && decide (depF gs st.vs k = st.rs.getD k [])) := rfl
      have hvl : valE gs st.vs k = if (gs.getD k default).k == 0 then st.vs.getD k 0 else (whole (gs.getD k default).ps).ev st.vs := rfl
      have hdl : depF gs st.vs k = if (gs.getD k default).k == 0 then [] else firsts ((whole (gs.getD k default).ps).rds st.vs) := rfl
      have HRK := Lib.hid fun (hk : ((gs.getD k default).k == 0) = false) => HRUN.out k hkg hk A1 n1 c1 hn1'
      have HN3 := Lib.hid hn3
      have z0 : w.heap.size < wr.heap.size := by omega
      have z1 : w.heap.size + 1 < wr.heap.size := by omega
      have z2 : b < wr.heap.size := by omega
      have z3 : b2 < wr.heap.size := by omega
      have z4 : b3 < wr.heap.size := by omega
      clear c0 c2 d0 d1 hcx hps hls hn3 hn1' HK HBAD
      rw [hvl, hdl] at hoe
      have hfb := HFBD.out k hkg
      rw [hdl] at hfb
      clear hvl hdl HFBD
      generalize okE gs st k = r at *
      generalize gs.getD k default = d at *
      generalize st.vs.getD k 0 = x at *
      generalize st.rs.getD k [] = L at *
      cases hd : (d.k == 0)
      · have hd' : (d.k != 0) = true := by simp [bne, hd]
        have HR := Lib.hid (HRK.out hd)
        rw [hd] at hoe
        rw [hd] at hfb
        simp only [Bool.false_eq_true, if_false] at hoe hfb
        have HFB := Lib.hid hfb
        clear hfb
        generalize (whole d.ps).ev st.vs = X at *
        generalize firsts ((whole d.ps).rds st.vs) = F at *
        subst hA hA' hE
        clear hd HRK
        go_wp2
        obtain ⟨W2, hW2⟩ : ∃ W2, W2 = wr.alloc (.cells #[] 3) := ⟨_, rfl⟩
        have s0 : W2.cell? ⟨w.heap.size, 0, none⟩ = some (.slice (some ⟨b, off, none⟩) n c) := by rw [hW2]; exact (World.cell?_alloc_lt wr _ _ z0).trans r0
        have s1 : W2.cell? ⟨w.heap.size + 1, 0, none⟩ = some (.slice (some ⟨b2, off2, none⟩) m c') := by rw [hW2]; exact (World.cell?_alloc_lt wr _ _ z1).trans r1
        have s2 : W2.cell? ⟨w.heap.size + 1, 1, none⟩ = some (.slice (some ⟨b3, off3, none⟩) p ec) := by rw [hW2]; exact (World.cell?_alloc_lt wr _ _ z1).trans r2
        have t0 : W2.cell? ⟨b, off + k * 2, none⟩ = some (.int .i64 d.k) := by rw [hW2]; exact (World.cell?_alloc_lt wr _ _ z2).trans e0
        have t1 : W2.cell? ⟨b, off + k * 2 + 1, none⟩ = some (.slice A1 n1 c1) := by rw [hW2]; exact (World.cell?_alloc_lt wr _ _ z2).trans e1
        have t2 : W2.cell? ⟨b2, off2 + k, none⟩ = some (.int .i64 x) := by rw [hW2]; exact (World.cell?_alloc_lt wr _ _ z3).trans e2
        have t3 : W2.cell? ⟨b3, off3 + k, none⟩ = some (.slice A3 n3 c3) := by rw [hW2]; exact (World.cell?_alloc_lt wr _ _ z4).trans e3
        have hs2 : wr.heap.size ≤ W2.heap.size := by rw [hW2]; simp
        have HPS2 : Hid (PS W2 B A1 d.ps) := by rw [hW2]; exact HPS.out.alloc (by omega) _
        have HIS2 : Hid (IS W2 B (some ⟨b2, off2, none⟩) st.vs) := by rw [hW2]; exact HIS.out.alloc (by omega) _
        have HLS2 : Hid (IS W2 B A3 L) := by rw [hW2]; exact HLS.out.alloc (by omega) _
        have HB2 : Hid (Below w1.heap.size w1 W2) := by rw [hW2]; exact HB.out.alloc hwr _
        rw [← hW2]
        clear hW2 r0 r1 r2 e0 e1 e2 e3 z0 z1 z2 z3 z4 HPS HIS HLS HB
        have hBW : B ≤ W2.heap.size := by omega
        have v0 : w.heap.size < W2.heap.size := by omega
        have v1 : w.heap.size + 1 < W2.heap.size := by omega
        have v2 : b < W2.heap.size := by omega
        go_region_held3 (fun w' => w'.cell? ⟨w.heap.size, 0, none⟩ = some (.slice (some ⟨b, off, none⟩) n c) ∧ w'.cell? ⟨b, off + k * 2 + 1, none⟩ = some (.slice A1 n1 c1) ∧ w'.cell? ⟨w.heap.size + 1, 0, none⟩ = some (.slice (some ⟨b2, off2, none⟩) m c')) (first | exact ⟨s0, t1, s1⟩ | exact ⟨u0, u5, u1⟩)
          (first
            | (go_at_call 82; refine (HR.out W2.drew B hBW HPS2.out HIS2.out).mono ?_; rintro e w5 ⟨v5, rfl, ho, hb5'⟩; obtain ⟨g5, c5, rfl, hg5, hg5'⟩ := ho.form; have hb5 : Below W2.heap.size W2 w5 := below_of_drew hb5'; have u0 := (hb5.cell (p := ⟨w.heap.size, 0, none⟩) v0).trans s0; have u1 := (hb5.cell (p := ⟨w.heap.size + 1, 0, none⟩) v1).trans s1; have u5 := (hb5.cell (p := ⟨b, off + k * 2 + 1, none⟩) v2).trans t1))
        have hs5 : W2.heap.size ≤ w5.heap.size := hb5.size
        have u2 := (hb5.cell (p := ⟨w.heap.size + 1, 1, none⟩) v1).trans s2
        have u3 := (hb5.cell (p := ⟨b2, off2 + k, none⟩) (by show b2 < W2.heap.size; omega)).trans t2
        have u4 := (hb5.cell (p := ⟨b3, off3 + k, none⟩) (by show b3 < W2.heap.size; omega)).trans t3
        have HLS5 := Lib.hid ((HLS2.out.below hb5 hBW).more (B' := w5.heap.size) (by omega))
        have HF5 : Hid (IS w5 w5.heap.size (some ⟨g5, 0, none⟩) F) := IS.of_own ho.1
        have HB5 := Lib.hid (HB2.out.trans (hb5.mono (show w1.heap.size ≤ W2.heap.size by omega)))
        have HSI := Lib.hid (spec_sameInts (some ⟨g5, 0, none⟩) A3 F.length n3 c5 c3 F L w5 w5.heap.size (Nat.le_refl _) rfl HN3.out HF5.out HLS5.out (by have := HFB.out; omega) (by omega))
        generalize F.length = fl at *
        clear ho hb5 s0 s1 s2 t0 t1 t2 t3
        cases hx : (X == x)
        · have hx' : (X != x) = true := by simp [bne, hx]
          have HNF := Lib.hid (HNK.out (by rw [hoe, hx]; rfl))
          clear hx hoe
          go_wp2
          go_ret
          exact ⟨ret_b HNF.out.symm, hB1.trans (HB5.out.mono (by omega))⟩
        · have hx' : (X != x) = false := by simp [bne, hx]
          rw [hx, Bool.true_and] at hoe
          rw [← hoe] at HSI
          clear hx hoe
          go_wp2_with fail
          refine HSI.out.mono ?_
          rintro e w6 ⟨rfl, hb6⟩
          have HB6 := Lib.hid (HB5.out.trans (hb6.mono HB5.out.size))
          cases r
          · go_wp2
            go_ret
            exact ⟨ret_b (HNK.out (by first | rfl | trivial)).symm, hB1.trans (HB6.out.mono (by omega))⟩
          · go_wp2
            go_roundw
            case rel => exact ⟨k + 1, by omega, by go_num, HNT.out (by first | rfl | trivial), HB6.out, HB6.out.size⟩
            case measure => simp [intOf]; omega
      · have hd' : (d.k != 0) = false := by simp [bne, hd]
        rw [hd] at hoe
        simp only [if_true, beq_self_eq_true, Bool.true_and] at hoe
        have hxx : (x != x) = false := by simp
        subst hA hA' hE
        have HLS2 := Lib.hid ((HLS.out.alloc (by omega) (.cells #[] 3)).more (B' := (wr.alloc (.cells #[] 3)).heap.size) (by simp; omega))
        have HSI := Lib.hid (spec_sameInts (some ⟨wr.heap.size, 0, none⟩) A3 0 n3 0 c3 [] L (wr.alloc (.cells #[] 3)) _ (Nat.le_refl _) rfl HN3.out (fun h => absurd h (by simp)) HLS2.out (by omega) (by omega))
        rw [← hoe] at HSI
        clear hd HRK hoe
        go_wp2_with fail
        refine HSI.out.mono ?_
        rintro e w6 ⟨rfl, hb6⟩
        have HB6 := Lib.hid ((HB.out.alloc hwr _).trans (hb6.mono (by simp; omega)))
        cases r
        · go_wp2
          go_ret
          exact ⟨ret_b (HNK.out (by first | rfl | trivial)).symm, hB1.trans (HB6.out.mono (by omega))⟩
        · go_wp2
          go_roundw
          case rel => exact ⟨k + 1, by omega, by go_num, HNT.out (by first | rfl | trivial), HB6.out, HB6.out.size⟩
          case measure => simp [intOf]; omega
    · obtain rfl : k = n := by omega
      go_wp2
      go_ret
      exact ⟨ret_b (HFIN.out fun i hi => HK.out i (by have := HN.out; omega)).symm, hB1.trans (HB.out.mono (by omega))⟩
end Go.Proofs.YtgakgmkonmgblaaGreat

namespace Go.Proofs.YtgakgmkonmgblaaGreat
set_option linter.unusedSimpArgs false
set_option linter.unusedVariables false
open Go.RowKit
theorem hasN_nat (gs : List Nd) (x : Int) (h : hasN gs x = true) : ∃ t : Nat, x = (t : Int) ∧ t < gs.length := by
  unfold hasN rng at h
  simp only [decide_eq_true_eq] at h
  exact ⟨x.toNat, by omega, by omega⟩
set_option maxHeartbeats 800000 in
theorem spec_isCell (A : Option Addr) (n c : Nat) (gs : List Nd) (x : Int) (w : World) (B : Nat) (hB : B ≤ w.heap.size) (hn : n = gs.length) (h : GS w B A gs) (hs : n ≤ 2000000) :
    Calls Tryz.prog 78 #[.agg #[.slice A n c], .int .i64 x] w fun e w' => e = .returned (.bool (isC gs x)) ∧ Below w.heap.size w w' := by
  have hr : hasN gs x = rng x 0 ((n : Int) - 1) := by rw [hn]; rfl
  have hi : isC gs x = (hasN gs x && ((gs.getD x.toNat default).k == 0)) := rfl
  cases hh : hasN gs x
  · have hf : isC gs x = false := by rw [hi, hh]; rfl
    rw [hf]
    have hr' : rng x 0 ((n : Int) - 1) = false := by rw [← hr, hh]
    clear h hn hr hi hf hh
    go_enter Tryz.func78, Tryz.ntmps78
    go_wp2_with (go_at_call 105; refine (spec_inRange _ _ _ _).mono ?_; rintro e w' ⟨rfl, rfl⟩)
    go_ret
    exact ⟨rfl, (Below.refl _ _).alloc (Nat.le_refl _) _⟩
  · obtain ⟨t, rfl, ht⟩ := hasN_nat gs x hh
    have hr' : rng (t : Int) 0 ((n : Int) - 1) = true := by rw [← hr, hh]
    have hf : isC gs t = ((gs.getD t default).k == 0) := by rw [hi, hh]; simp
    rw [hf]
    obtain ⟨b, off, rfl, hbB, c0, _⟩ := h.at_ t ht
    have htn : t < n := by omega
    have hbw : b < w.heap.size := by omega
    clear h hn hr hi hf hh ht
    generalize gs.getD t default = d at *
    cases hd : (d.k == 0)
    all_goals
      go_enter Tryz.func78, Tryz.ntmps78
      go_wp2_with (go_at_call 105; refine (spec_inRange _ _ _ _).mono ?_; rintro e w' ⟨rfl, rfl⟩)
      go_ret
      exact ⟨rfl, (Below.refl _ _).alloc (Nat.le_refl _) _⟩
end Go.Proofs.YtgakgmkonmgblaaGreat

namespace Go.Proofs.YtgakgmkonmgblaaGreat
set_option linter.unusedSimpArgs false
set_option linter.unusedVariables false
open Go.RowKit
theorem getD_take_lt (xs : List Int) (k j : Nat) (h : j < k) (hk : k ≤ xs.length) : (xs.take k).getD j 0 = xs.getD j 0 := by
  simp [List.getD, List.getElem?_take, h]
theorem IS.take_ {w : World} {B : Nat} {A : Option Addr} {xs : List Int} (h : IS w B A xs) (k : Nat) (hk : k ≤ xs.length) : IS w B A (xs.take k) := by
  intro hn
  have hk0 : 0 < k := by
    rcases Nat.eq_zero_or_pos k with rfl | h0
    · simp at hn
    · exact h0
  obtain ⟨b, off, e, hb, hc⟩ := h (by omega)
  refine ⟨b, off, e, hb, fun j hj => ?_⟩
  have hj' : j < k := by simp at hj; omega
  rw [hc j (by omega), getD_take_lt xs k j hj' hk]
theorem nodup_take_step (xs : List Int) (k : Nat) (h : k < xs.length) (hn : (xs.take k).Nodup) (hx : xs.getD k 0 ∉ xs.take k) : (xs.take (k + 1)).Nodup := by
  have hg : xs[k] = xs.getD k 0 := by simp [List.getD, h]
  rw [List.take_succ_eq_append_getElem h, hg, List.nodup_append]
  refine ⟨hn, by simp, ?_⟩
  intro a ha b hb e
  simp at hb
  subst hb; subst e
  exact hx ha
theorem nodup_take_no (xs : List Int) (k : Nat) (h : k < xs.length) (hx : xs.getD k 0 ∈ xs.take k) : ¬ xs.Nodup := by
  intro hn
  have h1 := (List.take_sublist (k + 1) xs).nodup hn
  have hg : xs[k] = xs.getD k 0 := by simp [List.getD, h]
  rw [List.take_succ_eq_append_getElem h, hg, List.nodup_append] at h1
  exact h1.2.2 _ hx _ (by simp) rfl
end Go.Proofs.YtgakgmkonmgblaaGreat

namespace Go.Proofs.YtgakgmkonmgblaaGreat
set_option linter.unusedSimpArgs false
set_option linter.unusedVariables false
open Go.RowKit
/-- A cell that lies in memory. -/
def C1 (b o : Nat) (v : Value) (w : World) : Prop := b < w.heap.size ∧ w.cell? ⟨b, o, none⟩ = some v
theorem C1.step {b o : Nat} {v : Value} {w w' : World} (h : C1 b o v w) (hb : Below w.heap.size w w') : C1 b o v w' := ⟨Nat.lt_of_lt_of_le h.1 hb.size, (hb.cell (p := ⟨b, o, none⟩) h.1).trans h.2⟩
end Go.Proofs.YtgakgmkonmgblaaGreat

namespace Go.Proofs.YtgakgmkonmgblaaGreat
set_option linter.unusedSimpArgs false
set_option linter.unusedVariables false
open Go.RowKit
theorem wrB_cell_no (gs : List Nd) (xs : List Int) (k : Nat) (hk : k < xs.length) (h : isC gs (xs.getD k 0) = false) : wrB gs xs = false := by
  unfold wrB; rw [decide_eq_false (fun hc => by rw [hc k hk] at h; cases h)]; rfl
theorem wrB_dup_no (gs : List Nd) (xs : List Int) (h : ¬ xs.Nodup) : wrB gs xs = false := by unfold wrB; rw [decide_eq_false h]; simp
theorem wrB_yes (gs : List Nd) (xs : List Int) (h : ∀ k, k < xs.length → isC gs (xs.getD k 0) = true) (h2 : xs.Nodup) : wrB gs xs = true := by unfold wrB; rw [decide_eq_true h, decide_eq_true h2]; rfl
theorem gwB_wr (gs : List Nd) (xs vs : List Int) (h1 : xs.length = vs.length) (h2 : xs.length ≤ 10) (h3 : allR vs 0 999 = true) : gwB gs xs vs = wrB gs xs := by unfold gwB; rw [decide_eq_true h1, decide_eq_true h2, h3]; simp
set_option maxRecDepth 100000 in
set_option maxHeartbeats 6400000 in
theorem spec_goodWrites (A1 E1 E2 : Option Addr) (n1 c1 m1 d1 m2 d2 : Nat) (gs : List Nd) (xs vs : List Int) (w1 : World) (hn : n1 = gs.length) (hG : n1 ≤ 2000000) (hm1 : m1 = xs.length) (hmd : m1 ≤ d1) (hm2 : m2 = vs.length) (hs2 : m2 ≤ 2000000) (h : GS w1 w1.heap.size A1 gs) (h1 : IS w1 w1.heap.size E1 xs) (h2 : IS w1 w1.heap.size E2 vs) :
    Calls Tryz.prog 40 #[.agg #[.slice A1 n1 c1], .slice E1 m1 d1, .slice E2 m2 d2] w1 fun e w' => e = .returned (.bool (gwB gs xs vs)) ∧ Below w1.heap.size w1 w' := by
  have HN1 := Lib.hid hn
  have HM1 := Lib.hid hm1
  have HM2 := Lib.hid hm2
  have P_1 := Lib.hid (h)
  have I_1 := Lib.hid (h1)
  have V_1 := Lib.hid (h2)
  have B_1 := Lib.hid (Below.refl w1.heap.size w1)
  by_cases hmm : m1 = m2
  case' neg =>
    have HF : Hid (gwB gs xs vs = false) := by show _ = _; unfold gwB; rw [decide_eq_false (by omega)]; rfl
    have h0 : ((m1 : Int) != (m2 : Int)) = true := by simp; omega
    clear hn hm1 hm2 h h1 h2 hmm
    go_enter Tryz.func40, Tryz.ntmps40
    go_wp2
    go_ret
    exact ⟨ret_b HF.out.symm, (Below.refl _ _).alloc (Nat.le_refl _) _⟩
  case pos =>
    subst hmm
    have h0 : ((m1 : Int) != (m1 : Int)) = false := by simp
    by_cases h10 : 10 < m1
    · have HF : Hid (gwB gs xs vs = false) := by show _ = _; unfold gwB; rw [decide_eq_true (by omega), decide_eq_false (by omega)]; rfl
      clear hn hm1 hm2 h h1 h2
      have h10i : (10 : Int) < (m1 : Int) := by omega
      go_enter Tryz.func40, Tryz.ntmps40
      go_wp2
      go_ret
      exact ⟨ret_b HF.out.symm, (Below.refl _ _).alloc (Nat.le_refl _) _⟩
    · have h10i : ¬ (10 : Int) < (m1 : Int) := by omega
      have HGW := Lib.hid fun (ha : allR vs 0 999 = true) => gwB_wr gs xs vs (by omega) (by omega) ha
      have HGN : Hid (allR vs 0 999 = false → gwB gs xs vs = false) := fun ha => by unfold gwB; rw [ha]; simp
      clear hn hm1 hm2 h h1 h2
      have HAI := Lib.hid fun (w' : World) (h : IS w' w'.heap.size E2 vs) => spec_allIn E2 m1 d2 vs 0 999 w' w'.heap.size (Nat.le_refl _) HM2.out h (by omega)
      generalize allR vs 0 999 = a at *
      go_enter Tryz.func40, Tryz.ntmps40
      go_wp2_with fail
      obtain ⟨w2, hw2⟩ : ∃ W, W = w1.alloc (.cells #[.slice A1 n1 c1] 25) := ⟨_, rfl⟩
      have hb : Below w1.heap.size w1 w2 := by rw [hw2]; exact (Below.refl _ _).alloc (Nat.le_refl _) _
      have P_2 := Lib.hid (P_1.out.step hb)
      clear P_1
      have I_2 := Lib.hid (I_1.out.step hb)
      clear I_1
      have V_2 := Lib.hid (V_1.out.step hb)
      clear V_1
      have B_2 := Lib.hid (B_1.out.trans (hb.mono B_1.out.size))
      clear B_1
      have F_2 : Hid (As w1.heap.size (w1.heap.size + 1) (fun w' => w'.cell? ⟨w1.heap.size, 0, none⟩ = some (.slice A1 n1 c1)) w2) := by rw [hw2]; exact box_new _ _ _
      clear hb
      rw [← hw2]
      clear hw2
      refine (HAI.out w2 V_2.out).mono ?_
      rintro e w9 ⟨rfl, rfl⟩
      cases a
      · have HF := Lib.hid (HGN.out (by first | rfl | trivial))
        go_wp2
        go_ret
        exact ⟨ret_b HF.out.symm, B_2.out⟩
      · have HF := Lib.hid (HGW.out (by first | rfl | trivial))
        clear HGW HGN HAI
        go_wp2
        go_loopw [7] (fun u wr => ∃ k : Nat, k ≤ m1 ∧ u = .int .i64 k ∧ Hid ((xs.take k).Nodup) ∧ Hid (∀ j, j < k → isC gs (xs.getD j 0) = true) ∧ Hid (Below w2.heap.size w2 wr) ∧ w2.heap.size ≤ wr.heap.size) (fun u _ => m1 - (intOf u).toNat)
        case atStart => exact ⟨0, Nat.zero_le _, rfl, by simp [Hid], fun j hj => by omega, Below.refl _ _, Nat.le_refl _⟩
        case round =>
          obtain ⟨k, hk, rfl, HD, HA, HB, hwr⟩ := hrel
          obtain ⟨w3, hwK⟩ : ∃ W, W = wr := ⟨_, rfl⟩
          rw [← hwK]
          rw [← hwK] at HB hwr
          clear hwK
          have P_3 := Lib.hid (P_2.out.step HB.out)
          have I_3 := Lib.hid (I_2.out.step HB.out)
          have V_3 := Lib.hid (V_2.out.step HB.out)
          have B_3 := Lib.hid (B_2.out.trans (HB.out.mono B_2.out.size))
          have F_3 := Lib.hid (F_2.out.step HB.out)
          have BK_3 := HB
          clear HB
          by_cases hlt : k < m1
          · have hkx : k < xs.length := by have := HM1.out; omega
            obtain ⟨b6, o6, rfl, hb6, e6⟩ := I_3.out (by omega)
            have x6 := e6 k hkx
            clear e6
            have HY := Lib.hid (nodup_take_step xs k hkx)
            have HNO := Lib.hid (nodup_take_no xs k hkx)
            have HCN := Lib.hid (wrB_cell_no gs xs k hkx)
            have HAS : Hid (isC gs (xs.getD k 0) = true → ∀ j, j < k + 1 → isC gs (xs.getD j 0) = true) := fun h j hj => by
              rcases Nat.lt_or_ge j k with h1 | h1
              · exact HA.out j h1
              · obtain rfl : j = k := by omega
                exact h
            have HCE := Lib.hid fun (x : Int) (w' : World) (h : GS w' w'.heap.size A1 gs) => spec_isCell A1 n1 c1 gs x w' w'.heap.size (Nat.le_refl _) HN1.out h (by omega)
            have HPL := Lib.hid fun (w' : World) (h : IS w' w'.heap.size (some ⟨b6, o6, none⟩) xs) => spec_placeIn (some ⟨b6, o6, none⟩) k d1 (xs.take k) (xs.getD k 0) w' w'.heap.size (Nat.le_refl _) (by simp; omega) (h.take_ k (by omega)) (by omega)
            have hpg := plc_ge (xs.take k) (xs.getD k 0)
            generalize xs.getD k 0 = x at *
            have x6_3 : Hid (C1 b6 (o6 + k) (.int .i64 x) w3) := ⟨hb6, x6⟩
            clear x6 HA
            have hkm : (k : Int) < (m1 : Int) := by omega
            have hkd : k ≤ d1 := by omega
            have HCX := Lib.hid (HCE.out x)
            clear HCE
            generalize isC gs x = ic at *
            cases ic
            · have HF2 := Lib.hid (HF.out.trans (HCN.out (by first | rfl | trivial)))
              clear hpg HY HNO HCN HAS
              go_wp2
              refine wp_region_held_drew (S := fun w' => w'.cell? ⟨w1.heap.size, 0, none⟩ = some (.slice A1 n1 c1) ∧ w'.cell? ⟨b6, o6 + k, none⟩ = some (.int .i64 x)) (by kernel_rfl) ⟨F_3.out.it, x6_3.out.2⟩ (fun hHeld => ?_)
              refine wpAnyH_take (i := 0) (oi := ⟨some 29, _, _, _, _, _⟩) (v := ?_) rfl (by kernel_rfl) (by kernel_rfl) (by kernel_rfl) (fun _ _ _ h => h) (Or.inl ⟨by rfl, ?_⟩) (by assumption) ?_; rotate_left; (focus (intro w hSw; (try dsimp only at hSw); go_simp; (try with_reducible rfl))); (try simp only [Act.put, List.setIfInBounds_toArray, List.set_cons_zero, List.set_cons_succ])
              refine wpAnyH_take (i := 1) (oi := ⟨some 30, _, _, _, _, _⟩) (v := ?_) rfl (by kernel_rfl) (by kernel_rfl) (by kernel_rfl) (fun _ _ _ h => h) (Or.inl ⟨by rfl, ?_⟩) (by assumption) ?_; rotate_left; (focus (intro w hSw; (try dsimp only at hSw); go_simp; (try with_reducible rfl))); (try simp only [Act.put, List.setIfInBounds_toArray, List.set_cons_zero, List.set_cons_succ])
              refine wpAnyH_take (i := 2) (oi := ⟨some 31, _, _, _, _, _⟩) (v := ?_) rfl (by kernel_rfl) (by kernel_rfl) (by kernel_rfl) (fun _ _ _ h => h) (Or.inl ⟨by rfl, ?_⟩) (by assumption) ?_; rotate_left; (focus (intro w hSw; (try dsimp only at hSw); go_simp; (try with_reducible rfl))); (try simp only [Act.put, List.setIfInBounds_toArray, List.set_cons_zero, List.set_cons_succ])
              refine wpAnyH_take (i := 3) (oi := ⟨some 32, _, _, _, _, _⟩) (v := ?_) rfl (by kernel_rfl) (by kernel_rfl) (by kernel_rfl) (fun _ _ _ h => h) (Or.inl ⟨by rfl, ?_⟩) (by assumption) ?_; rotate_left; (focus (intro w hSw; (try dsimp only at hSw); go_simp; (try with_reducible rfl))); (try simp only [Act.put, List.setIfInBounds_toArray, List.set_cons_zero, List.set_cons_succ])
              refine wpAnyH_take (i := 4) (oi := ⟨some 33, _, _, _, _, _⟩) (v := ?_) rfl (by kernel_rfl) (by kernel_rfl) (by kernel_rfl) (fun _ _ _ h => h) (Or.inl ⟨by rfl, ?_⟩) (by assumption) ?_; rotate_left; (focus (intro w hSw; (try dsimp only at hSw); go_simp; (try with_reducible rfl))); (try simp only [Act.put, List.setIfInBounds_toArray, List.set_cons_zero, List.set_cons_succ])
              refine wpAnyH_ready (rs := [5]) (by kernel_rfl) (by simp) ?_; refine AllReadyH.cons (o := ⟨some 34, _, _, _, _, _⟩) rfl (fun K hK => ?_) AllReadyH.nil; go_simp
              go_at_call 78
              refine (HCX.out w3.drew P_3.out).mono ?_
              rintro e w4 ⟨rfl, hb'⟩
              have hb : Below w3.heap.size w3 w4 := below_of_drew hb'
              have P_4 := Lib.hid (P_3.out.step hb)
              clear P_3
              have I_4 := Lib.hid (I_3.out.step hb)
              clear I_3
              have V_4 := Lib.hid (V_3.out.step hb)
              clear V_3
              have B_4 := Lib.hid (B_3.out.trans (hb.mono B_3.out.size))
              clear B_3
              have F_4 := Lib.hid (F_3.out.step hb)
              clear F_3
              have BK_4 := Lib.hid (BK_3.out.trans (hb.mono BK_3.out.size))
              clear BK_3
              have x6_4 := Lib.hid (x6_3.out.step hb)
              clear x6_3
              clear hb hb'
              refine hK.out _ _ ⟨F_4.out.it, x6_4.out.2⟩ (fun hHeld => ?_); clear hK K; (try simp only [Act.put, List.setIfInBounds_toArray, List.set_cons_zero, List.set_cons_succ])
              refine wpAnyH_take (i := 6) (oi := ⟨some 35, _, _, _, _, _⟩) (v := ?_) rfl (by kernel_rfl) (by kernel_rfl) (by kernel_rfl) (fun _ _ _ h => h) (Or.inl ⟨by rfl, ?_⟩) (by assumption) ?_; rotate_left; (focus (intro w hSw; (try dsimp only at hSw); go_simp; (try with_reducible rfl))); (try simp only [Act.put, List.setIfInBounds_toArray, List.set_cons_zero, List.set_cons_succ])
              refine wpAnyH_take (i := 7) (oi := ⟨some 36, _, _, _, _, _⟩) (v := ?_) rfl (by kernel_rfl) (by kernel_rfl) (by kernel_rfl) (fun _ _ _ h => h) (Or.inl ⟨by rfl, ?_⟩) (by assumption) ?_; rotate_left; (focus (intro w hSw; (try dsimp only at hSw); go_simp; (try with_reducible rfl))); (try simp only [Act.put, List.setIfInBounds_toArray, List.set_cons_zero, List.set_cons_succ])
              refine wpAnyH_take (i := 8) (oi := ⟨some 37, _, _, _, _, _⟩) (v := undef) rfl (by kernel_rfl) (by kernel_rfl) (by kernel_rfl) (fun _ _ _ h => h) (Or.inr ⟨by rfl, rfl⟩) (by assumption) ?_; (try simp only [Act.put, List.setIfInBounds_toArray, List.set_cons_zero, List.set_cons_succ])
              refine wpAnyH_take (i := 9) (oi := ⟨some 38, _, _, _, _, _⟩) (v := undef) rfl (by kernel_rfl) (by kernel_rfl) (by kernel_rfl) (fun _ _ _ h => h) (Or.inr ⟨by rfl, rfl⟩) (by assumption) ?_; (try simp only [Act.put, List.setIfInBounds_toArray, List.set_cons_zero, List.set_cons_succ])
              refine wpAnyH_take (i := 10) (oi := ⟨some 39, _, _, _, _, _⟩) (v := undef) rfl (by kernel_rfl) (by kernel_rfl) (by kernel_rfl) (fun _ _ _ h => h) (Or.inr ⟨by rfl, rfl⟩) (by assumption) ?_; (try simp only [Act.put, List.setIfInBounds_toArray, List.set_cons_zero, List.set_cons_succ])
              refine wpAnyH_take (i := 11) (oi := ⟨some 40, _, _, _, _, _⟩) (v := undef) rfl (by kernel_rfl) (by kernel_rfl) (by kernel_rfl) (fun _ _ _ h => h) (Or.inr ⟨by rfl, rfl⟩) (by assumption) ?_; (try simp only [Act.put, List.setIfInBounds_toArray, List.set_cons_zero, List.set_cons_succ])
              refine wpAnyH_take (i := 12) (oi := ⟨some 41, _, _, _, _, _⟩) (v := undef) rfl (by kernel_rfl) (by kernel_rfl) (by kernel_rfl) (fun _ _ _ h => h) (Or.inr ⟨by rfl, rfl⟩) (by assumption) ?_; (try simp only [Act.put, List.setIfInBounds_toArray, List.set_cons_zero, List.set_cons_succ])
              refine wpAnyH_take (i := 13) (oi := ⟨some 42, _, _, _, _, _⟩) (v := undef) rfl (by kernel_rfl) (by kernel_rfl) (by kernel_rfl) (fun _ _ _ h => h) (Or.inr ⟨by rfl, rfl⟩) (by assumption) ?_; (try simp only [Act.put, List.setIfInBounds_toArray, List.set_cons_zero, List.set_cons_succ])
              refine wpAnyH_take (i := 14) (oi := ⟨some 43, _, _, _, _, _⟩) (v := undef) rfl (by kernel_rfl) (by kernel_rfl) (by kernel_rfl) (fun _ _ _ h => h) (Or.inr ⟨by rfl, rfl⟩) (by assumption) ?_; (try simp only [Act.put, List.setIfInBounds_toArray, List.set_cons_zero, List.set_cons_succ])
              refine wpAnyH_take (i := 15) (oi := ⟨some 44, _, _, _, _, _⟩) (v := undef) rfl (by kernel_rfl) (by kernel_rfl) (by kernel_rfl) (fun _ _ _ h => h) (Or.inr ⟨by rfl, rfl⟩) (by assumption) ?_; (try simp only [Act.put, List.setIfInBounds_toArray, List.set_cons_zero, List.set_cons_succ])
              refine wpAnyH_take (i := 16) (oi := ⟨some 45, _, _, _, _, _⟩) (v := undef) rfl (by kernel_rfl) (by kernel_rfl) (by kernel_rfl) (fun _ _ _ h => h) (Or.inr ⟨by rfl, rfl⟩) (by assumption) ?_; (try simp only [Act.put, List.setIfInBounds_toArray, List.set_cons_zero, List.set_cons_succ])
              refine wpAnyH_take (i := 17) (oi := ⟨some 46, _, _, _, _, _⟩) (v := ?_) rfl (by kernel_rfl) (by kernel_rfl) (by kernel_rfl) (fun _ _ _ h => h) (Or.inl ⟨by rfl, ?_⟩) (by assumption) ?_; rotate_left; (focus (intro w hSw; (try dsimp only at hSw); go_simp; (try with_reducible rfl))); (try simp only [Act.put, List.setIfInBounds_toArray, List.set_cons_zero, List.set_cons_succ])
              refine wpAnyH_done (by kernel_rfl) ?_ _
              go_wp2
              go_ret
              exact ⟨ret_b HF2.out.symm, B_4.out⟩
            · have HAS2 := Lib.hid (HAS.out (by first | rfl | trivial))
              clear HAS HCN
              generalize plc (xs.take k) x = q at *
              by_cases hm : x ∈ xs.take k
              · have HF2 := Lib.hid (HF.out.trans (wrB_dup_no gs xs (HNO.out hm)))
                have hq : (0 : Int) ≤ q := by rw [decide_eq_true hm] at hpg; exact of_decide_eq_true hpg
                clear hpg HY HNO hm
                go_wp2
                refine wp_region_held_drew (S := fun w' => w'.cell? ⟨w1.heap.size, 0, none⟩ = some (.slice A1 n1 c1) ∧ w'.cell? ⟨b6, o6 + k, none⟩ = some (.int .i64 x)) (by kernel_rfl) ⟨F_3.out.it, x6_3.out.2⟩ (fun hHeld => ?_)
                refine wpAnyH_take (i := 0) (oi := ⟨some 29, _, _, _, _, _⟩) (v := ?_) rfl (by kernel_rfl) (by kernel_rfl) (by kernel_rfl) (fun _ _ _ h => h) (Or.inl ⟨by rfl, ?_⟩) (by assumption) ?_; rotate_left; (focus (intro w hSw; (try dsimp only at hSw); go_simp; (try with_reducible rfl))); (try simp only [Act.put, List.setIfInBounds_toArray, List.set_cons_zero, List.set_cons_succ])
                refine wpAnyH_take (i := 1) (oi := ⟨some 30, _, _, _, _, _⟩) (v := ?_) rfl (by kernel_rfl) (by kernel_rfl) (by kernel_rfl) (fun _ _ _ h => h) (Or.inl ⟨by rfl, ?_⟩) (by assumption) ?_; rotate_left; (focus (intro w hSw; (try dsimp only at hSw); go_simp; (try with_reducible rfl))); (try simp only [Act.put, List.setIfInBounds_toArray, List.set_cons_zero, List.set_cons_succ])
                refine wpAnyH_take (i := 2) (oi := ⟨some 31, _, _, _, _, _⟩) (v := ?_) rfl (by kernel_rfl) (by kernel_rfl) (by kernel_rfl) (fun _ _ _ h => h) (Or.inl ⟨by rfl, ?_⟩) (by assumption) ?_; rotate_left; (focus (intro w hSw; (try dsimp only at hSw); go_simp; (try with_reducible rfl))); (try simp only [Act.put, List.setIfInBounds_toArray, List.set_cons_zero, List.set_cons_succ])
                refine wpAnyH_take (i := 3) (oi := ⟨some 32, _, _, _, _, _⟩) (v := ?_) rfl (by kernel_rfl) (by kernel_rfl) (by kernel_rfl) (fun _ _ _ h => h) (Or.inl ⟨by rfl, ?_⟩) (by assumption) ?_; rotate_left; (focus (intro w hSw; (try dsimp only at hSw); go_simp; (try with_reducible rfl))); (try simp only [Act.put, List.setIfInBounds_toArray, List.set_cons_zero, List.set_cons_succ])
                refine wpAnyH_take (i := 4) (oi := ⟨some 33, _, _, _, _, _⟩) (v := ?_) rfl (by kernel_rfl) (by kernel_rfl) (by kernel_rfl) (fun _ _ _ h => h) (Or.inl ⟨by rfl, ?_⟩) (by assumption) ?_; rotate_left; (focus (intro w hSw; (try dsimp only at hSw); go_simp; (try with_reducible rfl))); (try simp only [Act.put, List.setIfInBounds_toArray, List.set_cons_zero, List.set_cons_succ])
                refine wpAnyH_ready (rs := [5]) (by kernel_rfl) (by simp) ?_; refine AllReadyH.cons (o := ⟨some 34, _, _, _, _, _⟩) rfl (fun K hK => ?_) AllReadyH.nil; go_simp
                go_at_call 78
                refine (HCX.out w3.drew P_3.out).mono ?_
                rintro e w4 ⟨rfl, hb'⟩
                have hb : Below w3.heap.size w3 w4 := below_of_drew hb'
                have P_4 := Lib.hid (P_3.out.step hb)
                clear P_3
                have I_4 := Lib.hid (I_3.out.step hb)
                clear I_3
                have V_4 := Lib.hid (V_3.out.step hb)
                clear V_3
                have B_4 := Lib.hid (B_3.out.trans (hb.mono B_3.out.size))
                clear B_3
                have F_4 := Lib.hid (F_3.out.step hb)
                clear F_3
                have BK_4 := Lib.hid (BK_3.out.trans (hb.mono BK_3.out.size))
                clear BK_3
                have x6_4 := Lib.hid (x6_3.out.step hb)
                clear x6_3
                clear hb hb'
                refine hK.out _ _ ⟨F_4.out.it, x6_4.out.2⟩ (fun hHeld => ?_); clear hK K; (try simp only [Act.put, List.setIfInBounds_toArray, List.set_cons_zero, List.set_cons_succ])
                refine wpAnyH_take (i := 6) (oi := ⟨some 35, _, _, _, _, _⟩) (v := ?_) rfl (by kernel_rfl) (by kernel_rfl) (by kernel_rfl) (fun _ _ _ h => h) (Or.inl ⟨by rfl, ?_⟩) (by assumption) ?_; rotate_left; (focus (intro w hSw; (try dsimp only at hSw); go_simp; (try with_reducible rfl))); (try simp only [Act.put, List.setIfInBounds_toArray, List.set_cons_zero, List.set_cons_succ])
                refine wpAnyH_take (i := 7) (oi := ⟨some 36, _, _, _, _, _⟩) (v := ?_) rfl (by kernel_rfl) (by kernel_rfl) (by kernel_rfl) (fun _ _ _ h => h) (Or.inl ⟨by rfl, ?_⟩) (by assumption) ?_; rotate_left; (focus (intro w hSw; (try dsimp only at hSw); go_simp; (try with_reducible rfl))); (try simp only [Act.put, List.setIfInBounds_toArray, List.set_cons_zero, List.set_cons_succ])
                refine wpAnyH_take (i := 8) (oi := ⟨some 37, _, _, _, _, _⟩) (v := ?_) rfl (by kernel_rfl) (by kernel_rfl) (by kernel_rfl) (fun _ _ _ h => h) (Or.inl ⟨by rfl, ?_⟩) (by assumption) ?_; rotate_left; (focus (intro w hSw; (try dsimp only at hSw); go_simp; (try with_reducible rfl))); (try simp only [Act.put, List.setIfInBounds_toArray, List.set_cons_zero, List.set_cons_succ])
                refine wpAnyH_take (i := 9) (oi := ⟨some 38, _, _, _, _, _⟩) (v := ?_) rfl (by kernel_rfl) (by kernel_rfl) (by kernel_rfl) (fun _ _ _ h => h) (Or.inl ⟨by rfl, ?_⟩) (by assumption) ?_; rotate_left; (focus (intro w hSw; (try dsimp only at hSw); go_simp; (try with_reducible rfl))); (try simp only [Act.put, List.setIfInBounds_toArray, List.set_cons_zero, List.set_cons_succ])
                refine wpAnyH_take (i := 10) (oi := ⟨some 39, _, _, _, _, _⟩) (v := ?_) rfl (by kernel_rfl) (by kernel_rfl) (by kernel_rfl) (fun _ _ _ h => h) (Or.inl ⟨by rfl, ?_⟩) (by assumption) ?_; rotate_left; (focus (intro w hSw; (try dsimp only at hSw); go_simp; (try with_reducible rfl))); (try simp only [Act.put, List.setIfInBounds_toArray, List.set_cons_zero, List.set_cons_succ])
                refine wpAnyH_take (i := 11) (oi := ⟨some 40, _, _, _, _, _⟩) (v := ?_) rfl (by kernel_rfl) (by kernel_rfl) (by kernel_rfl) (fun _ _ _ h => h) (Or.inl ⟨by rfl, ?_⟩) (by assumption) ?_; rotate_left; (focus (intro w hSw; (try dsimp only at hSw); go_simp; (try with_reducible rfl))); (try simp only [Act.put, List.setIfInBounds_toArray, List.set_cons_zero, List.set_cons_succ])
                refine wpAnyH_take (i := 12) (oi := ⟨some 41, _, _, _, _, _⟩) (v := ?_) rfl (by kernel_rfl) (by kernel_rfl) (by kernel_rfl) (fun _ _ _ h => h) (Or.inl ⟨by rfl, ?_⟩) (by assumption) ?_; rotate_left; (focus (intro w hSw; (try dsimp only at hSw); go_simp; (try with_reducible rfl))); (try simp only [Act.put, List.setIfInBounds_toArray, List.set_cons_zero, List.set_cons_succ])
                refine wpAnyH_take (i := 13) (oi := ⟨some 42, _, _, _, _, _⟩) (v := ?_) rfl (by kernel_rfl) (by kernel_rfl) (by kernel_rfl) (fun _ _ _ h => h) (Or.inl ⟨by rfl, ?_⟩) (by assumption) ?_; rotate_left; (focus (intro w hSw; (try dsimp only at hSw); go_simp; (try with_reducible rfl))); (try simp only [Act.put, List.setIfInBounds_toArray, List.set_cons_zero, List.set_cons_succ])
                refine wpAnyH_take (i := 14) (oi := ⟨some 43, _, _, _, _, _⟩) (v := ?_) rfl (by kernel_rfl) (by kernel_rfl) (by kernel_rfl) (fun _ _ _ h => h) (Or.inl ⟨by rfl, ?_⟩) (by assumption) ?_; rotate_left; (focus (intro w hSw; (try dsimp only at hSw); go_simp; (try with_reducible rfl))); (try simp only [Act.put, List.setIfInBounds_toArray, List.set_cons_zero, List.set_cons_succ])
                refine wpAnyH_ready (rs := [15]) (by kernel_rfl) (by simp) ?_; refine AllReadyH.cons (o := ⟨some 44, _, _, _, _, _⟩) rfl (fun K hK => ?_) AllReadyH.nil; go_simp
                go_at_call 79
                refine (HPL.out w4 I_4.out).mono ?_
                rintro e w8 ⟨rfl, rfl⟩
                refine hK.out _ _ ⟨F_4.out.it, x6_4.out.2⟩ (fun hHeld => ?_); clear hK K; (try simp only [Act.put, List.setIfInBounds_toArray, List.set_cons_zero, List.set_cons_succ])
                refine wpAnyH_take (i := 16) (oi := ⟨some 45, _, _, _, _, _⟩) (v := ?_) rfl (by kernel_rfl) (by kernel_rfl) (by kernel_rfl) (fun _ _ _ h => h) (Or.inl ⟨by rfl, ?_⟩) (by assumption) ?_; rotate_left; (focus (intro w hSw; (try dsimp only at hSw); go_simp; (try with_reducible rfl))); (try simp only [Act.put, List.setIfInBounds_toArray, List.set_cons_zero, List.set_cons_succ])
                refine wpAnyH_take (i := 17) (oi := ⟨some 46, _, _, _, _, _⟩) (v := ?_) rfl (by kernel_rfl) (by kernel_rfl) (by kernel_rfl) (fun _ _ _ h => h) (Or.inl ⟨by rfl, ?_⟩) (by assumption) ?_; rotate_left; (focus (intro w hSw; (try dsimp only at hSw); go_simp; (try with_reducible rfl))); (try simp only [Act.put, List.setIfInBounds_toArray, List.set_cons_zero, List.set_cons_succ])
                refine wpAnyH_done (by kernel_rfl) ?_ _
                go_wp2
                go_ret
                exact ⟨ret_b HF2.out.symm, B_4.out⟩
              · have HT2 := Lib.hid (HY.out HD.out hm)
                have hq : ¬ (0 : Int) ≤ q := by rw [decide_eq_false hm] at hpg; exact of_decide_eq_false hpg
                clear hpg HY HNO hm
                go_wp2
                refine wp_region_held_drew (S := fun w' => w'.cell? ⟨w1.heap.size, 0, none⟩ = some (.slice A1 n1 c1) ∧ w'.cell? ⟨b6, o6 + k, none⟩ = some (.int .i64 x)) (by kernel_rfl) ⟨F_3.out.it, x6_3.out.2⟩ (fun hHeld => ?_)
                refine wpAnyH_take (i := 0) (oi := ⟨some 29, _, _, _, _, _⟩) (v := ?_) rfl (by kernel_rfl) (by kernel_rfl) (by kernel_rfl) (fun _ _ _ h => h) (Or.inl ⟨by rfl, ?_⟩) (by assumption) ?_; rotate_left; (focus (intro w hSw; (try dsimp only at hSw); go_simp; (try with_reducible rfl))); (try simp only [Act.put, List.setIfInBounds_toArray, List.set_cons_zero, List.set_cons_succ])
                refine wpAnyH_take (i := 1) (oi := ⟨some 30, _, _, _, _, _⟩) (v := ?_) rfl (by kernel_rfl) (by kernel_rfl) (by kernel_rfl) (fun _ _ _ h => h) (Or.inl ⟨by rfl, ?_⟩) (by assumption) ?_; rotate_left; (focus (intro w hSw; (try dsimp only at hSw); go_simp; (try with_reducible rfl))); (try simp only [Act.put, List.setIfInBounds_toArray, List.set_cons_zero, List.set_cons_succ])
                refine wpAnyH_take (i := 2) (oi := ⟨some 31, _, _, _, _, _⟩) (v := ?_) rfl (by kernel_rfl) (by kernel_rfl) (by kernel_rfl) (fun _ _ _ h => h) (Or.inl ⟨by rfl, ?_⟩) (by assumption) ?_; rotate_left; (focus (intro w hSw; (try dsimp only at hSw); go_simp; (try with_reducible rfl))); (try simp only [Act.put, List.setIfInBounds_toArray, List.set_cons_zero, List.set_cons_succ])
                refine wpAnyH_take (i := 3) (oi := ⟨some 32, _, _, _, _, _⟩) (v := ?_) rfl (by kernel_rfl) (by kernel_rfl) (by kernel_rfl) (fun _ _ _ h => h) (Or.inl ⟨by rfl, ?_⟩) (by assumption) ?_; rotate_left; (focus (intro w hSw; (try dsimp only at hSw); go_simp; (try with_reducible rfl))); (try simp only [Act.put, List.setIfInBounds_toArray, List.set_cons_zero, List.set_cons_succ])
                refine wpAnyH_take (i := 4) (oi := ⟨some 33, _, _, _, _, _⟩) (v := ?_) rfl (by kernel_rfl) (by kernel_rfl) (by kernel_rfl) (fun _ _ _ h => h) (Or.inl ⟨by rfl, ?_⟩) (by assumption) ?_; rotate_left; (focus (intro w hSw; (try dsimp only at hSw); go_simp; (try with_reducible rfl))); (try simp only [Act.put, List.setIfInBounds_toArray, List.set_cons_zero, List.set_cons_succ])
                refine wpAnyH_ready (rs := [5]) (by kernel_rfl) (by simp) ?_; refine AllReadyH.cons (o := ⟨some 34, _, _, _, _, _⟩) rfl (fun K hK => ?_) AllReadyH.nil; go_simp
                go_at_call 78
                refine (HCX.out w3.drew P_3.out).mono ?_
                rintro e w4 ⟨rfl, hb'⟩
                have hb : Below w3.heap.size w3 w4 := below_of_drew hb'
                have P_4 := Lib.hid (P_3.out.step hb)
                clear P_3
                have I_4 := Lib.hid (I_3.out.step hb)
                clear I_3
                have V_4 := Lib.hid (V_3.out.step hb)
                clear V_3
                have B_4 := Lib.hid (B_3.out.trans (hb.mono B_3.out.size))
                clear B_3
                have F_4 := Lib.hid (F_3.out.step hb)
                clear F_3
                have BK_4 := Lib.hid (BK_3.out.trans (hb.mono BK_3.out.size))
                clear BK_3
                have x6_4 := Lib.hid (x6_3.out.step hb)
                clear x6_3
                clear hb hb'
                refine hK.out _ _ ⟨F_4.out.it, x6_4.out.2⟩ (fun hHeld => ?_); clear hK K; (try simp only [Act.put, List.setIfInBounds_toArray, List.set_cons_zero, List.set_cons_succ])
                refine wpAnyH_take (i := 6) (oi := ⟨some 35, _, _, _, _, _⟩) (v := ?_) rfl (by kernel_rfl) (by kernel_rfl) (by kernel_rfl) (fun _ _ _ h => h) (Or.inl ⟨by rfl, ?_⟩) (by assumption) ?_; rotate_left; (focus (intro w hSw; (try dsimp only at hSw); go_simp; (try with_reducible rfl))); (try simp only [Act.put, List.setIfInBounds_toArray, List.set_cons_zero, List.set_cons_succ])
                refine wpAnyH_take (i := 7) (oi := ⟨some 36, _, _, _, _, _⟩) (v := ?_) rfl (by kernel_rfl) (by kernel_rfl) (by kernel_rfl) (fun _ _ _ h => h) (Or.inl ⟨by rfl, ?_⟩) (by assumption) ?_; rotate_left; (focus (intro w hSw; (try dsimp only at hSw); go_simp; (try with_reducible rfl))); (try simp only [Act.put, List.setIfInBounds_toArray, List.set_cons_zero, List.set_cons_succ])
                refine wpAnyH_take (i := 8) (oi := ⟨some 37, _, _, _, _, _⟩) (v := ?_) rfl (by kernel_rfl) (by kernel_rfl) (by kernel_rfl) (fun _ _ _ h => h) (Or.inl ⟨by rfl, ?_⟩) (by assumption) ?_; rotate_left; (focus (intro w hSw; (try dsimp only at hSw); go_simp; (try with_reducible rfl))); (try simp only [Act.put, List.setIfInBounds_toArray, List.set_cons_zero, List.set_cons_succ])
                refine wpAnyH_take (i := 9) (oi := ⟨some 38, _, _, _, _, _⟩) (v := ?_) rfl (by kernel_rfl) (by kernel_rfl) (by kernel_rfl) (fun _ _ _ h => h) (Or.inl ⟨by rfl, ?_⟩) (by assumption) ?_; rotate_left; (focus (intro w hSw; (try dsimp only at hSw); go_simp; (try with_reducible rfl))); (try simp only [Act.put, List.setIfInBounds_toArray, List.set_cons_zero, List.set_cons_succ])
                refine wpAnyH_take (i := 10) (oi := ⟨some 39, _, _, _, _, _⟩) (v := ?_) rfl (by kernel_rfl) (by kernel_rfl) (by kernel_rfl) (fun _ _ _ h => h) (Or.inl ⟨by rfl, ?_⟩) (by assumption) ?_; rotate_left; (focus (intro w hSw; (try dsimp only at hSw); go_simp; (try with_reducible rfl))); (try simp only [Act.put, List.setIfInBounds_toArray, List.set_cons_zero, List.set_cons_succ])
                refine wpAnyH_take (i := 11) (oi := ⟨some 40, _, _, _, _, _⟩) (v := ?_) rfl (by kernel_rfl) (by kernel_rfl) (by kernel_rfl) (fun _ _ _ h => h) (Or.inl ⟨by rfl, ?_⟩) (by assumption) ?_; rotate_left; (focus (intro w hSw; (try dsimp only at hSw); go_simp; (try with_reducible rfl))); (try simp only [Act.put, List.setIfInBounds_toArray, List.set_cons_zero, List.set_cons_succ])
                refine wpAnyH_take (i := 12) (oi := ⟨some 41, _, _, _, _, _⟩) (v := ?_) rfl (by kernel_rfl) (by kernel_rfl) (by kernel_rfl) (fun _ _ _ h => h) (Or.inl ⟨by rfl, ?_⟩) (by assumption) ?_; rotate_left; (focus (intro w hSw; (try dsimp only at hSw); go_simp; (try with_reducible rfl))); (try simp only [Act.put, List.setIfInBounds_toArray, List.set_cons_zero, List.set_cons_succ])
                refine wpAnyH_take (i := 13) (oi := ⟨some 42, _, _, _, _, _⟩) (v := ?_) rfl (by kernel_rfl) (by kernel_rfl) (by kernel_rfl) (fun _ _ _ h => h) (Or.inl ⟨by rfl, ?_⟩) (by assumption) ?_; rotate_left; (focus (intro w hSw; (try dsimp only at hSw); go_simp; (try with_reducible rfl))); (try simp only [Act.put, List.setIfInBounds_toArray, List.set_cons_zero, List.set_cons_succ])
                refine wpAnyH_take (i := 14) (oi := ⟨some 43, _, _, _, _, _⟩) (v := ?_) rfl (by kernel_rfl) (by kernel_rfl) (by kernel_rfl) (fun _ _ _ h => h) (Or.inl ⟨by rfl, ?_⟩) (by assumption) ?_; rotate_left; (focus (intro w hSw; (try dsimp only at hSw); go_simp; (try with_reducible rfl))); (try simp only [Act.put, List.setIfInBounds_toArray, List.set_cons_zero, List.set_cons_succ])
                refine wpAnyH_ready (rs := [15]) (by kernel_rfl) (by simp) ?_; refine AllReadyH.cons (o := ⟨some 44, _, _, _, _, _⟩) rfl (fun K hK => ?_) AllReadyH.nil; go_simp
                go_at_call 79
                refine (HPL.out w4 I_4.out).mono ?_
                rintro e w8 ⟨rfl, rfl⟩
                refine hK.out _ _ ⟨F_4.out.it, x6_4.out.2⟩ (fun hHeld => ?_); clear hK K; (try simp only [Act.put, List.setIfInBounds_toArray, List.set_cons_zero, List.set_cons_succ])
                refine wpAnyH_take (i := 16) (oi := ⟨some 45, _, _, _, _, _⟩) (v := ?_) rfl (by kernel_rfl) (by kernel_rfl) (by kernel_rfl) (fun _ _ _ h => h) (Or.inl ⟨by rfl, ?_⟩) (by assumption) ?_; rotate_left; (focus (intro w hSw; (try dsimp only at hSw); go_simp; (try with_reducible rfl))); (try simp only [Act.put, List.setIfInBounds_toArray, List.set_cons_zero, List.set_cons_succ])
                refine wpAnyH_take (i := 17) (oi := ⟨some 46, _, _, _, _, _⟩) (v := ?_) rfl (by kernel_rfl) (by kernel_rfl) (by kernel_rfl) (fun _ _ _ h => h) (Or.inl ⟨by rfl, ?_⟩) (by assumption) ?_; rotate_left; (focus (intro w hSw; (try dsimp only at hSw); go_simp; (try with_reducible rfl))); (try simp only [Act.put, List.setIfInBounds_toArray, List.set_cons_zero, List.set_cons_succ])
                refine wpAnyH_done (by kernel_rfl) ?_ _
                go_wp2
                go_roundw
                case rel => exact ⟨k + 1, by omega, by go_num, HT2.out, HAS2.out, BK_4.out, BK_4.out.size⟩
                case measure => simp [intOf]; omega
          · obtain rfl : m1 = k := by omega
            have HF2 := Lib.hid (HF.out.trans (wrB_yes gs xs (fun j hj => HA.out j (by have := HM1.out; omega)) (by have := HD.out; rwa [HM1.out, List.take_of_length_le (Nat.le_refl _)] at this)))
            go_wp2
            go_ret
            exact ⟨ret_b HF2.out.symm, B_3.out⟩
end Go.Proofs.YtgakgmkonmgblaaGreat
