/- Words and contracts for memory that the texts behind use. -/
import Derived.Test.YtlcpgbbpjnkihaaGreatL0
import Derived.Test.YtlcpgbbpjnkihaaGreatL1
import Derived.Test.YtlcpgbbpjnkihaaGreatL2
import Derived.Test.YtlcpgbbpjnkihaaGreatL3
import Derived.Test.YtlcpgbbpjnkihaaGreatL4
import Derived.Test.YtlcpgbbpjnkihaaGreatL5
import Derived.Test.YtlcpgbbpjnkihaaGreatL6
import Derived.Test.YtlcpgbbpjnkihaaGreatL7
import Derived.Test.YtlcpgbbpjnkihaaGreatL8
import Derived.Test.YtlcpgbbpjnkihaaGreatL9
import Derived.WalkKit
import Derived.Laws.OwnMore
import Derived.Deep.Draws
import Derived.Test.YtlcpgbbpjnkihaaGreatProg
import Derived.WalkSpells
import Derived.WalkLawsBesides
import Derived.Outline
import Derived.Lib.Hide
import Derived.BigQuiet
import Derived.Deep.QuietTactic
import Derived.StillTailTactics
import Derived.Deep.LoopGhost
import Derived.Laws.MakeOwn
import Derived.WalkSmall
import Derived.RegionTactic
import Derived.BigRegion
import Derived.Deep.RegionWith
import Derived.Deep.RegionHeld3
import Derived.Maps.AppendAt
import Derived.Laws.CopyOwn
import Derived.Deep.Cut
import Derived.Deep.AppendLies
import Derived.Laws.Entries
import Derived.Laws.Bits64
import Derived.IntWalk
import Derived.Deep.RegionLaw
import Derived.Deep.DeepCutAuto
import Derived.Maps.Own
import Derived.Maps.Views
import Derived.ChangeAlike

namespace Go.Proofs.YtlcpgbbpjnkihaaGreat
set_option linter.unusedSimpArgs false
set_option linter.unusedVariables false
open Go.RowKit
/-- Five cells written one after the other. -/
def set5 (xs : List Value) (j : Nat) (p : Pt) : List Value :=
  ((((xs.set j (.int .i64 p.k)).set (j + 1) (.int .i64 p.a)).set (j + 2) (.int .i64 p.b)).set (j + 3) (.int .i64 p.c)).set (j + 4) (.int .i64 p.n)
theorem take_set5 (xs : List Value) (j : Nat) (p : Pt) (h : j + 5 ≤ xs.length) : (set5 xs j p).take (j + 5) = xs.take j ++ p.cells := by
  apply List.ext_getElem?
  intro i
  have hl : (xs.take j).length = j := by simp; omega
  rcases Nat.lt_or_ge i j with h1 | h1
  · rw [List.getElem?_append_left (by omega)]
    simp [set5, show i < j + 5 by omega, h1, show ¬ j = i by omega, show ¬ j + 1 = i by omega, show ¬ j + 2 = i by omega, show ¬ j + 3 = i by omega, show ¬ j + 4 = i by omega]
  · rw [List.getElem?_append_right (by omega), hl]
    obtain ⟨d, rfl⟩ : ∃ d, i = j + d := ⟨i - j, by omega⟩
    rw [Nat.add_sub_cancel_left]
    match d with
    | 0 => simp [set5, Pt.cells, List.getElem?_set]; omega
    | 1 => simp [set5, Pt.cells, List.getElem?_set]; omega
    | 2 => simp [set5, Pt.cells, List.getElem?_set]; omega
    | 3 => simp [set5, Pt.cells, List.getElem?_set]; omega
    | 4 => simp [set5, Pt.cells, List.getElem?_set]; omega
    | d + 5 => simp [Pt.cells]; omega
theorem own_set5 {w : World} {base e n cap g : Nat} {xs : List Value} (h : w.ownsRow base e 5 (.slice (some ⟨g, 0, none⟩) n cap) n xs) (j : Nat) (p : Pt) :
    (((((w.setCell ⟨g, j, none⟩ (.int .i64 p.k)).setCell ⟨g, j + 1, none⟩ (.int .i64 p.a)).setCell ⟨g, j + 2, none⟩ (.int .i64 p.b)).setCell ⟨g, j + 3, none⟩ (.int .i64 p.c)).setCell ⟨g, j + 4, none⟩ (.int .i64 p.n)).ownsRow base e 5 (.slice (some ⟨g, 0, none⟩) n cap) n (set5 xs j p) :=
  (((((h.stored j (.int .i64 p.k)).1.stored (j + 1) (.int .i64 p.a)).1.stored (j + 2) (.int .i64 p.b)).1.stored (j + 3) (.int .i64 p.c)).1.stored (j + 4) (.int .i64 p.n)).1
theorem below_set5 {B : Nat} {a w : World} (h : Below B a w) {g : Nat} (hg : B ≤ g) (j : Nat) (p : Pt) :
    Below B a (((((w.setCell ⟨g, j, none⟩ (.int .i64 p.k)).setCell ⟨g, j + 1, none⟩ (.int .i64 p.a)).setCell ⟨g, j + 2, none⟩ (.int .i64 p.b)).setCell ⟨g, j + 3, none⟩ (.int .i64 p.c)).setCell ⟨g, j + 4, none⟩ (.int .i64 p.n)) :=
  ((((h.setCell (p := ⟨g, j, none⟩) hg _).setCell (p := ⟨g, j + 1, none⟩) hg _).setCell (p := ⟨g, j + 2, none⟩) hg _).setCell (p := ⟨g, j + 3, none⟩) hg _).setCell (p := ⟨g, j + 4, none⟩) hg _
end Go.Proofs.YtlcpgbbpjnkihaaGreat

namespace Go.Proofs.YtlcpgbbpjnkihaaGreat
set_option linter.unusedSimpArgs false
set_option linter.unusedVariables false
open Go.RowKit
def eqPt (p q : Pt) : Bool := p.k == q.k && p.a == q.a && p.b == q.b && p.c == q.c && p.n == q.n
theorem eqPt_iff (p q : Pt) : eqPt p q = true ↔ p = q := by
  obtain ⟨a, b, c, d, e⟩ := p
  obtain ⟨a', b', c', d', e'⟩ := q
  simp [eqPt, and_assoc]
set_option maxHeartbeats 800000 in
theorem laws_eqPart (p q : Pt) (w : World) :
    Calls Tryz.prog 119 #[.agg #[.int .i64 p.k, .int .i64 p.a, .int .i64 p.b, .int .i64 p.c, .int .i64 p.n], .agg #[.int .i64 q.k, .int .i64 q.a, .int .i64 q.b, .int .i64 q.c, .int .i64 q.n]] w fun e w' => e = .returned (.bool (eqPt p q)) ∧ Below w.heap.size w w' := by
  obtain ⟨k, a, b, c, n⟩ := p
  obtain ⟨k', a', b', c', n'⟩ := q
  go_enter Tryz.func119, Tryz.ntmps119
  go_wp2
  all_goals
    go_ret
    refine ⟨ret_b ?_, ((Below.refl _ _).alloc (Nat.le_refl _) _).alloc (by simp) _⟩
    simp_all [eqPt, bne]
theorem take_step {α : Type} [Inhabited α] (l m : List α) (k : Nat) (h : k < l.length) (h' : k < m.length) (ht : l.take k = m.take k) (he : l.getD k default = m.getD k default) : l.take (k + 1) = m.take (k + 1) := by
  rw [take_succ_getD l k h, take_succ_getD m k h', ht, he]
theorem take_all_eq {α : Type} (l m : List α) (n : Nat) (h : n = l.length) (h' : n = m.length) (ht : l.take n = m.take n) : l = m := by
  rw [List.take_of_length_le (by omega), List.take_of_length_le (by omega)] at ht
  exact ht
theorem getD_ne {α : Type} [Inhabited α] [DecidableEq α] (l m : List α) (k : Nat) (h : l.getD k default ≠ m.getD k default) : decide (l = m) = false := by
  rw [decide_eq_false_iff_not]; rintro rfl; exact h rfl
set_option maxRecDepth 100000 in
set_option maxHeartbeats 800000 in
theorem laws_eqPartS (A A' : Option Addr) (n n' c c' : Nat) (ps qs : List Pt) (w : World) (B : Nat) (hB : B ≤ w.heap.size) (hn : n = ps.length) (hn' : n' = qs.length) (h : PS w B A ps) (h' : PS w B A' qs) (hs : n ≤ 2000000) (hs' : n' ≤ 2000000) :
    Calls Tryz.prog 110 #[.slice A n c, .slice A' n' c'] w fun e w' => e = .returned (.bool (decide (ps = qs))) ∧ Below w.heap.size w w' := by
  by_cases hl : n = n'
  · have hne : ((n : Int) != (n' : Int)) = false := by simp [hl]
    have HL := Lib.hid hl
    have HN := Lib.hid hn
    have HN' := Lib.hid hn'
    have H := Lib.hid h
    have H' := Lib.hid h'
    clear hl hn hn' h h'
    go_enter Tryz.func110, Tryz.ntmps110
    go_wp2
    go_loopw [5] (fun i wr => ∃ k : Nat, k ≤ n ∧ i = .int .i64 k ∧ Hid (ps.take k = qs.take k) ∧ Below w.heap.size w wr) (fun i _ => n - (intOf i).toNat)
    case atStart => exact ⟨0, Nat.zero_le _, rfl, by simp [Hid], Below.refl _ _⟩
    case round =>
      obtain ⟨k, hk, rfl, HT, hb⟩ := hrel
      by_cases hlt : k < n
      · obtain ⟨b, off, rfl, hbB, hc⟩ := H.out (by have := HN.out; omega)
        obtain ⟨b', off', rfl, hbB', hc'⟩ := H'.out (by have := HN'.out; have := HL.out; omega)
        obtain ⟨c0, c1, c2, c3, c4⟩ := hc k (by have := HN.out; omega)
        obtain ⟨d0, d1, d2, d3, d4⟩ := hc' k (by have := HN'.out; have := HL.out; omega)
        clear hc hc' H H'
        have hlt' : k < n' := by have := HL.out; omega
        have b0 := (hb.cell (p := ⟨b, off + k * 5, none⟩) (by simp; omega)).trans c0
        have b1 := (hb.cell (p := ⟨b, off + k * 5 + 1, none⟩) (by simp; omega)).trans c1
        have b2 := (hb.cell (p := ⟨b, off + k * 5 + 2, none⟩) (by simp; omega)).trans c2
        have b3 := (hb.cell (p := ⟨b, off + k * 5 + 3, none⟩) (by simp; omega)).trans c3
        have b4 := (hb.cell (p := ⟨b, off + k * 5 + 4, none⟩) (by simp; omega)).trans c4
        have e0 := (hb.cell (p := ⟨b', off' + k * 5, none⟩) (by simp; omega)).trans d0
        have e1 := (hb.cell (p := ⟨b', off' + k * 5 + 1, none⟩) (by simp; omega)).trans d1
        have e2 := (hb.cell (p := ⟨b', off' + k * 5 + 2, none⟩) (by simp; omega)).trans d2
        have e3 := (hb.cell (p := ⟨b', off' + k * 5 + 3, none⟩) (by simp; omega)).trans d3
        have e4 := (hb.cell (p := ⟨b', off' + k * 5 + 4, none⟩) (by simp; omega)).trans d4
        clear c0 c1 c2 c3 c4 d0 d1 d2 d3 d4
        generalize hp : ps.getD k default = p at *
        generalize hq : qs.getD k default = q at *
        have HP := Lib.hid hp
        have HQ := Lib.hid hq
        clear hp hq
        go_wp2
        go_still_tail 8, (by kernel_rfl)
        go_wp2_with (go_at_call 119; refine (laws_eqPart _ _ _).mono ?_; rintro e w1 ⟨rfl, hb1⟩)
        · have ht : (!eqPt p q) = true := by assumption
          go_ret
          refine ⟨ret_b ?_, hb.drew.trans (hb1.mono hb.size)⟩
          have hne : ps.getD k default ≠ qs.getD k default := by
            rw [HP.out, HQ.out]; intro e; rw [(eqPt_iff p q).2 e] at ht; cases ht
          simp [getD_ne ps qs k hne]
        · have ht : (!eqPt p q) = false := by assumption
          have he : ps.getD k default = qs.getD k default := by
            rw [HP.out, HQ.out]; exact (eqPt_iff p q).1 (by simpa using ht)
          have hts := take_step ps qs k (by have := HN.out; omega) (by have := HN'.out; omega) HT.out he
          clear he
          go_roundw
          case rel => exact ⟨k + 1, by omega, by go_num, hts, hb.drew.trans (hb1.mono hb.size)⟩
          case measure => simp [intOf]; omega
      · go_wp2
        go_ret
        refine ⟨ret_b ?_, hb⟩
        have hkn : k = n := by omega
        have := take_all_eq ps qs n HN.out (HL.out.trans HN'.out) (by rw [← hkn]; exact HT.out)
        simp [this]
  · have hne : ((n : Int) != (n' : Int)) = true := by simp; omega
    have hf : decide (ps = qs) = false := by
      rw [decide_eq_false_iff_not]; rintro rfl; omega
    rw [hf]
    clear hl hn hn' h h' hf
    go_enter Tryz.func110, Tryz.ntmps110
    go_wp2
    go_ret
    exact ⟨rfl, Below.refl _ _⟩
set_option maxHeartbeats 400000 in
theorem laws_eqFormula (A A' : Option Addr) (n n' c c' : Nat) (ps qs : List Pt) (w : World) (B : Nat) (hB : B ≤ w.heap.size) (hn : n = ps.length) (hn' : n' = qs.length) (h : PS w B A ps) (h' : PS w B A' qs) (hs : n ≤ 2000000) (hs' : n' ≤ 2000000) :
    Calls Tryz.prog 94 #[.agg #[.slice A n c], .agg #[.slice A' n' c']] w fun e w' => e = .returned (.bool (decide (ps = qs))) ∧ Below w.heap.size w w' := by
  have H := Lib.hid h
  have H' := Lib.hid h'
  have HN := Lib.hid hn
  have HN' := Lib.hid hn'
  clear hn hn' h h'
  go_enter Tryz.func94, Tryz.ntmps94
  go_wp2_with fail
  refine (laws_eqPartS _ _ _ _ _ _ ps qs _ B (by simp; omega) HN.out HN'.out ((H.out.alloc hB _).alloc (by simp; omega) _) ((H'.out.alloc hB _).alloc (by simp; omega) _) hs hs').mono ?_
  rintro e w1 ⟨rfl, hb⟩
  go_wp2
  all_goals
    go_ret
    exact ⟨ret_b (by simp_all), ((Below.refl _ _).alloc (Nat.le_refl _) _).alloc (by simp) _ |>.trans (hb.mono (by simp; omega))⟩
end Go.Proofs.YtlcpgbbpjnkihaaGreat

namespace Go.Proofs.YtlcpgbbpjnkihaaGreat
set_option linter.unusedSimpArgs false
set_option linter.unusedVariables false
open Go.RowKit
set_option maxHeartbeats 400000 in
theorem laws_toPart (p : Pt) (w : World) :
    Calls Tryz.prog 115 #[.agg #[.int .i64 p.k, .int .i64 p.a, .int .i64 p.b, .int .i64 p.c, .int .i64 p.n]] w fun e w' => e = .returned (.agg #[.int .i64 p.k, .int .i64 p.a, .int .i64 p.b, .int .i64 p.c, .int .i64 p.n]) ∧ Below w.heap.size w w' := by
  obtain ⟨k, a, b, c, n⟩ := p
  go_enter Tryz.func115, Tryz.ntmps115
  go_wp2
  refine bodyPost_ret (v := .agg #[.int .i64 k, .int .i64 a, .int .i64 b, .int .i64 c, .int .i64 n]) (by simp [results, Tryz.results115, go_sem]) rfl ⟨rfl, ?_⟩
  exact (((Below.refl _ _).alloc (Nat.le_refl _) _).alloc (by simp) _).alloc (by simp; omega) _
theorem info_part : (Tryz.prog.info? 120).map (fun i => (i.zero, i.size, i.bytes)) = some (some (.agg #[.int .i64 0, .int .i64 0, .int .i64 0, .int .i64 0, .int .i64 0]), 5, 40) := by kernel_rfl
set_option maxHeartbeats 800000 in
theorem laws_toPartS (A : Option Addr) (n c : Nat) (ps : List Pt) (w : World) (B : Nat) (hB : B ≤ w.heap.size) (hn : n = ps.length) (h : PS w B A ps) (hs : n ≤ 2000000) :
    Calls Tryz.prog 105 #[.slice A n c] w fun e w' => e = .returned (.slice (some ⟨w.heap.size, 0, none⟩) n n) ∧ w'.ownsRow w.heap.size 120 5 (.slice (some ⟨w.heap.size, 0, none⟩) n n) n (ps.flatMap Pt.cells) ∧ Below w.heap.size w w' := by
  obtain ⟨i0, hi, hz0, hz1, hz2⟩ := info_parts info_part
  obtain ⟨w0, hmk, hown0, hgr0⟩ := run_make_full (P := Tryz.prog) w w.heap.size 75 120 i0 _ 5 Tryz.underlying75 hi hz0 hz1 .i64 .i64 n (by rw [hz2]; omega) (by unfold maxLen; omega) (Nat.le_refl _)
  have H := Lib.hid h
  have HN := Lib.hid hn
  clear hn h
  go_enter Tryz.func105, Tryz.ntmps105
  go_wp2
  go_loopw [4] (fun i wr => ∃ (k : Nat) (xs : List Value), k ≤ n ∧ i = .int .i64 k ∧ Hid (wr.ownsRow w.heap.size 120 5 (.slice (some ⟨w.heap.size, 0, none⟩) n n) n xs) ∧ Hid (xs.take (k * 5) = (ps.take k).flatMap Pt.cells) ∧ Below w.heap.size w wr) (fun i _ => n - (intOf i).toNat)
  case atStart => exact ⟨0, _, Nat.zero_le _, rfl, hown0, by simp [Hid], ⟨hgr0.os, hgr0.tape, hgr0.output, hgr0.size, fun k hk => hgr0.block k hk (by simp)⟩⟩
  case round =>
    obtain ⟨k, xs, hk, rfl, HO, HT, hb⟩ := hrel
    by_cases hlt : k < n
    · obtain ⟨b, off, rfl, hbB, hc⟩ := H.out (by have := HN.out; omega)
      obtain ⟨c0, c1, c2, c3, c4⟩ := hc k (by have := HN.out; omega)
      clear hc H
      have b0 := (hb.cell (p := ⟨b, off + k * 5, none⟩) (by simp; omega)).trans c0
      have b1 := (hb.cell (p := ⟨b, off + k * 5 + 1, none⟩) (by simp; omega)).trans c1
      have b2 := (hb.cell (p := ⟨b, off + k * 5 + 2, none⟩) (by simp; omega)).trans c2
      have b3 := (hb.cell (p := ⟨b, off + k * 5 + 3, none⟩) (by simp; omega)).trans c3
      have b4 := (hb.cell (p := ⟨b, off + k * 5 + 4, none⟩) (by simp; omega)).trans c4
      clear c0 c1 c2 c3 c4
      generalize hp : ps.getD k default = p at *
      have HP := Lib.hid hp
      clear hp
      go_wp2_with fail
      refine (laws_toPart _ _).mono ?_
      rintro e w1 ⟨rfl, hb1⟩
      have hO1 := own_below HO.out hb1
      have hxl : xs.length = n * 5 := hO1.1
      have u0 := hO1.cellAt (k * 5) (by omega)
      have u1 := hO1.cellAt (k * 5 + 1) (by omega)
      have u2 := hO1.cellAt (k * 5 + 2) (by omega)
      have u3 := hO1.cellAt (k * 5 + 3) (by omega)
      have u4 := hO1.cellAt (k * 5 + 4) (by omega)
      rw [List.getElem?_eq_getElem (by omega)] at u0 u1 u2 u3 u4
      have f0 := hO1.frozenAt (k * 5)
      have f1 := hO1.frozenAt (k * 5 + 1)
      have f2 := hO1.frozenAt (k * 5 + 2)
      have f3 := hO1.frozenAt (k * 5 + 3)
      have f4 := hO1.frozenAt (k * 5 + 4)
      generalize xs[k * 5]'(by omega) = v0 at u0
      generalize xs[k * 5 + 1]'(by omega) = v1 at u1
      generalize xs[k * 5 + 2]'(by omega) = v2 at u2
      generalize xs[k * 5 + 3]'(by omega) = v3 at u3
      generalize xs[k * 5 + 4]'(by omega) = v4 at u4
      have HO1 := Lib.hid hO1
      have HXL := Lib.hid hxl
      clear hO1 hxl HO
      go_wp2
      go_roundw
      case rel =>
        have hx5 : (set5 xs (k * 5) p).take ((k + 1) * 5) = (ps.take (k + 1)).flatMap Pt.cells := by
          rw [show (k + 1) * 5 = k * 5 + 5 by omega, take_set5 xs (k * 5) p (by have := HXL.out; omega), HT.out, take_succ_getD ps k (by have := HN.out; omega), HP.out]
          simp
        exact ⟨k + 1, _, by omega, by go_num, own_set5 HO1.out (k * 5) p, hx5, below_set5 (hb.trans (hb1.mono hb.size)) (Nat.le_refl _) _ _⟩
      case measure => simp [intOf]; omega
    · go_wp2
      go_ret
      have hkn : k = n := by omega
      have hx : xs = ps.flatMap Pt.cells := by
        have h1 := HT.out
        have h2 : xs.length = n * 5 := HO.out.1
        rw [hkn, List.take_of_length_le (by omega), List.take_of_length_le (by have := HN.out; omega)] at h1
        exact h1
      exact ⟨by simp, by rw [← hx]; exact HO.out, hb⟩
/-- Returns a formula of fresh parts. -/
def RetF (w : World) (ps : List Pt) (e : Ending) (w' : World) : Prop := ∃ (A : Option Addr) (n c : Nat), e = .returned (.agg #[.slice A n c]) ∧ n = ps.length ∧ w'.ownsRow w.heap.size 120 5 (.slice A n c) n (ps.flatMap Pt.cells) ∧ Below w.heap.size w w'
set_option maxHeartbeats 800000 in
theorem laws_toFormula (A : Option Addr) (n c : Nat) (ps : List Pt) (w : World) (B : Nat) (hB : B ≤ w.heap.size) (hn : n = ps.length) (h : PS w B A ps) (hs : n ≤ 2000000) :
    Calls Tryz.prog 88 #[.agg #[.slice A n c]] w fun e w' => RetF w ps e w' := by
  have H := Lib.hid h
  have HN := Lib.hid hn
  clear hn h
  go_enter Tryz.func88, Tryz.ntmps88
  go_wp2_with fail
  refine (laws_toPartS _ _ _ ps _ B (by simp; omega) HN.out (((H.out.alloc hB _).alloc (by simp; omega) _).alloc (by simp; omega) _) hs).mono ?_
  rintro e w1 ⟨rfl, hown, hb⟩
  obtain ⟨hc, hf⟩ := bcell hb
  have HO := Lib.hid hown
  clear hown
  have hw1 : w.heap.size + 3 ≤ w1.heap.size := by have := hb.size; simp at this; omega
  have q1 : w1.cell? ⟨w.heap.size + 1, 0, none⟩ = some (.slice none 0 0) := by rw [hc _ _ (by simp)]; go_simp
  have q2 : w1.cell? ⟨w.heap.size + 1 + 1, 0, none⟩ = some (.slice none 0 0) := by rw [hc _ _ (by simp)]; go_simp
  have q3 : w1.frozen? ⟨w.heap.size + 1, 0, none⟩ = false := by rw [hf _ _ (by simp)]; go_simp
  have q4 : w1.frozen? ⟨w.heap.size + 1 + 1, 0, none⟩ = false := by rw [hf _ _ (by simp)]; go_simp
  clear hc hf
  go_wp2
  refine bodyPost_ret (v := .agg #[.slice (some ⟨w.heap.size + 1 + 1 + 1, 0, none⟩) n n]) (by simp [results, Tryz.results88, go_sem, q1]) rfl ?_
  have o1 := ownsRow_setCell_below HO.out (a := ⟨w.heap.size + 1 + 1, 0, none⟩) (by simp) (.slice (some ⟨w.heap.size + 1 + 1 + 1, 0, none⟩) n n)
  have o2 := ownsRow_setCell_below o1 (a := ⟨w.heap.size + 1, 0, none⟩) (by simp) (.slice (some ⟨w.heap.size + 1 + 1 + 1, 0, none⟩) n n)
  have o3 := own_mono (base' := w.heap.size) o2 (by simp; omega)
  simp only [World.size_alloc] at o3
  refine ⟨_, n, n, rfl, HN.out, o3, ?_⟩
  exact ((((((Below.refl _ _).alloc (Nat.le_refl _) _).alloc (by simp) _).alloc (by simp; omega) _).trans (hb.mono (by simp; omega))).setCell (by simp; omega) _).setCell (by simp) _
set_option maxHeartbeats 400000 in
theorem laws_szPartS (A : Option Addr) (n c : Nat) (l : Int) (w : World) (hl0 : 0 ≤ l) (hl : l ≤ 2000000) (hn : n ≤ 9223372036854775807) :
    Calls Tryz.prog 100 #[.slice A n c, .int .i64 l] w fun e w' => e = .returned (.int .i64 (if l - n < 0 then -1 else l - n)) ∧ w = w' := by
  by_cases h : l - n < 0
  · rw [if_pos h]
    go_enter Tryz.func100, Tryz.ntmps100
    go_wp2
    go_ret
    exact ⟨rfl, rfl⟩
  · rw [if_neg h]
    go_enter Tryz.func100, Tryz.ntmps100
    go_wp2
    go_ret
    exact ⟨rfl, rfl⟩
set_option maxHeartbeats 400000 in
theorem laws_szFormula (A : Option Addr) (n c : Nat) (l : Int) (w : World) (hl0 : 0 ≤ l) (hl : l ≤ 2000000) (hn : n ≤ 9223372036854775807) :
    Calls Tryz.prog 81 #[.agg #[.slice A n c], .int .i64 l] w fun e w' => e = .returned (.int .i64 (if l - n < 0 then -1 else l - n)) ∧ Below w.heap.size w w' := by
  have HS := laws_szPartS A n c l
  by_cases h : l - n < 0
  · rw [if_pos h]
    have HC : ∀ w : World, Calls Tryz.prog 100 #[.slice A n c, .int .i64 l] w fun e w' => e = .returned (.int .i64 (-1)) ∧ w = w' := fun w => by
      have := HS w hl0 hl hn
      rwa [if_pos h] at this
    have HH := Lib.hid HC
    clear HC HS
    go_enter Tryz.func81, Tryz.ntmps81
    go_wp2_with fail
    refine (HH.out _).mono ?_
    rintro e w' ⟨rfl, rfl⟩
    go_wp2
    go_ret
    exact ⟨rfl, (Below.refl _ _).alloc (Nat.le_refl _) _⟩
  · rw [if_neg h]
    have HC : ∀ w : World, Calls Tryz.prog 100 #[.slice A n c, .int .i64 l] w fun e w' => e = .returned (.int .i64 (l - n)) ∧ w = w' := fun w => by
      have := HS w hl0 hl hn
      rwa [if_neg h] at this
    have HH := Lib.hid HC
    clear HC HS
    go_enter Tryz.func81, Tryz.ntmps81
    go_wp2_with fail
    refine (HH.out _).mono ?_
    rintro e w' ⟨rfl, rfl⟩
    go_wp2
    go_ret
    exact ⟨rfl, (Below.refl _ _).alloc (Nat.le_refl _) _⟩
end Go.Proofs.YtlcpgbbpjnkihaaGreat

namespace Go.Proofs.YtlcpgbbpjnkihaaGreat
set_option linter.unusedSimpArgs false
set_option linter.unusedVariables false
open Go.RowKit
set_option maxRecDepth 100000 in
set_option maxHeartbeats 800000 in
theorem laws_eqIntS (A A' : Option Addr) (n n' c c' : Nat) (xs ys : List Int) (w : World) (B : Nat) (hB : B ≤ w.heap.size) (hn : n = xs.length) (hn' : n' = ys.length) (h : IS w B A xs) (h' : IS w B A' ys) (hs : n ≤ 2000000) (hs' : n' ≤ 2000000) :
    Calls Tryz.prog 23 #[.slice A n c, .slice A' n' c'] w fun e w' => e = .returned (.bool (decide (xs = ys))) ∧ Below w.heap.size w w' := by
  by_cases hl : n = n'
  · have hne : ((n : Int) != (n' : Int)) = false := by simp [hl]
    have HL := Lib.hid hl
    have HN := Lib.hid hn
    have HN' := Lib.hid hn'
    have H := Lib.hid h
    have H' := Lib.hid h'
    clear hl hn hn' h h'
    go_enter Tryz.func23, Tryz.ntmps23
    go_wp2
    go_loopw [5] (fun i wr => ∃ k : Nat, k ≤ n ∧ i = .int .i64 k ∧ Hid (xs.take k = ys.take k) ∧ Below w.heap.size w wr) (fun i _ => n - (intOf i).toNat)
    case atStart => exact ⟨0, Nat.zero_le _, rfl, by simp [Hid], Below.refl _ _⟩
    case round =>
      obtain ⟨k, hk, rfl, HT, hb⟩ := hrel
      by_cases hlt : k < n
      · obtain ⟨b, off, rfl, hbB, hc⟩ := H.out (by have := HN.out; omega)
        obtain ⟨b', off', rfl, hbB', hc'⟩ := H'.out (by have := HN'.out; have := HL.out; omega)
        have c0 := hc k (by have := HN.out; omega)
        have d0 := hc' k (by have := HN'.out; have := HL.out; omega)
        clear hc hc' H H'
        have hlt' : k < n' := by have := HL.out; omega
        have b0 := (hb.cell (p := ⟨b, off + k, none⟩) (by simp; omega)).trans c0
        have e0 := (hb.cell (p := ⟨b', off' + k, none⟩) (by simp; omega)).trans d0
        clear c0 d0
        generalize hp : xs.getD k 0 = p at *
        generalize hq : ys.getD k 0 = q at *
        have HP := Lib.hid hp
        have HQ := Lib.hid hq
        clear hp hq
        cases hpq : (p != q)
        · have HPQ := Lib.hid hpq
          go_wp2
          go_region
          go_wp2
          go_roundw
          case rel =>
            have hts := take_step xs ys k (by have := HN.out; omega) (by have := HN'.out; omega) HT.out (HP.out.trans ((by simpa using HPQ.out : p = q).trans HQ.out.symm))
            exact ⟨k + 1, by omega, by go_num, hts, hb.drew⟩
          case measure => simp [intOf]; omega
        · have HPQ := Lib.hid hpq
          go_wp2
          go_region
          go_wp2
          go_ret
          refine ⟨ret_b ?_, hb.drew⟩
          have hne : xs.getD k default ≠ ys.getD k default := by
            intro e
            have : p = q := HP.out.symm.trans (e.trans HQ.out)
            have h2 := HPQ.out
            simp [this] at h2
          simp [getD_ne xs ys k hne]
      · go_wp2
        go_ret
        refine ⟨ret_b ?_, hb⟩
        have hkn : k = n := by omega
        have := take_all_eq xs ys n HN.out (HL.out.trans HN'.out) (by rw [← hkn]; exact HT.out)
        simp [this]
  · have hne : ((n : Int) != (n' : Int)) = true := by simp; omega
    have hf : decide (xs = ys) = false := by
      rw [decide_eq_false_iff_not]; rintro rfl; omega
    rw [hf]
    clear hl hn hn' h h' hf
    go_enter Tryz.func23, Tryz.ntmps23
    go_wp2
    go_ret
    exact ⟨rfl, Below.refl _ _⟩
theorem take_set1 (xs : List Value) (k : Nat) (v : Value) (h : k < xs.length) : (xs.set k v).take (k + 1) = xs.take k ++ [v] := by
  rw [List.take_succ_eq_append_getElem (by simpa using h), List.take_set_of_le (by omega)]
  simp
set_option maxHeartbeats 800000 in
theorem laws_toIntS (A : Option Addr) (n c : Nat) (xs : List Int) (w : World) (B : Nat) (hB : B ≤ w.heap.size) (hn : n = xs.length) (h : IS w B A xs) (hs : n ≤ 2000000) :
    Calls Tryz.prog 27 #[.slice A n c] w fun e w' => e = .returned (.slice (some ⟨w.heap.size, 0, none⟩) n n) ∧ w'.ownsRow w.heap.size 3 1 (.slice (some ⟨w.heap.size, 0, none⟩) n n) n (xs.map (Value.int .i64)) ∧ Below w.heap.size w w' := by
  obtain ⟨i0, hi, hz0, hz1, hz2⟩ := info_parts info_int
  obtain ⟨w0, hmk, hown0, hgr0⟩ := run_make_full (P := Tryz.prog) w w.heap.size 25 3 i0 _ 1 Tryz.underlying25 hi hz0 hz1 .i64 .i64 n (by rw [hz2]; omega) (by unfold maxLen; omega) (Nat.le_refl _)
  have H := Lib.hid h
  have HN := Lib.hid hn
  clear hn h
  go_enter Tryz.func27, Tryz.ntmps27
  go_wp2
  go_loopw [4] (fun i wr => ∃ (k : Nat) (vs : List Value), k ≤ n ∧ i = .int .i64 k ∧ Hid (wr.ownsRow w.heap.size 3 1 (.slice (some ⟨w.heap.size, 0, none⟩) n n) n vs) ∧ Hid (vs.take k = (xs.take k).map (Value.int .i64)) ∧ Below w.heap.size w wr) (fun i _ => n - (intOf i).toNat)
  case atStart => exact ⟨0, _, Nat.zero_le _, rfl, hown0, by simp [Hid], ⟨hgr0.os, hgr0.tape, hgr0.output, hgr0.size, fun k hk => hgr0.block k hk (by simp)⟩⟩
  case round =>
    obtain ⟨k, vs, hk, rfl, HO, HT, hb⟩ := hrel
    by_cases hlt : k < n
    · obtain ⟨b, off, rfl, hbB, hc⟩ := H.out (by have := HN.out; omega)
      have c0 := hc k (by have := HN.out; omega)
      clear hc H
      have b0 := (hb.cell (p := ⟨b, off + k, none⟩) (by simp; omega)).trans c0
      clear c0
      generalize hp : xs.getD k 0 = p at *
      have HP := Lib.hid hp
      clear hp
      have hxl : vs.length = n * 1 := HO.out.1
      have u0 := HO.out.cellAt k (by omega)
      rw [List.getElem?_eq_getElem (by omega)] at u0
      have f0 := HO.out.frozenAt k
      generalize vs[k]'(by omega) = v0 at u0
      have HXL := Lib.hid hxl
      clear hxl
      go_wp2
      all_goals try (go_region; go_wp2)
      go_roundw
      case rel =>
        have hx1 : (vs.set k (.int .i64 p)).take (k + 1) = (xs.take (k + 1)).map (Value.int .i64) := by
          rw [take_set1 _ _ _ (by have := HXL.out; omega), HT.out, show xs.take (k + 1) = xs.take k ++ [p] by rw [← HP.out, List.take_succ_eq_append_getElem (by have := HN.out; omega)]; simp [List.getD, show k < xs.length by have := HN.out; omega]]
          simp
        have ho := (HO.out.stored k (.int .i64 p)).1
        exact ⟨k + 1, _, by omega, by go_num, by first | exact ho | exact ho.alloc _, hx1, by first | exact (hb.setCell (p := ⟨w.heap.size, k, none⟩) (Nat.le_refl _) _).drew | exact hb.setCell (p := ⟨w.heap.size, k, none⟩) (Nat.le_refl _) _⟩
      case measure => simp [intOf]; omega
    · go_wp2
      go_ret
      have hkn : k = n := by omega
      have hx : vs = xs.map (Value.int .i64) := by
        have h1 := HT.out
        have h2 : vs.length = n * 1 := HO.out.1
        rw [hkn, List.take_of_length_le (by omega), List.take_of_length_le (by have := HN.out; omega)] at h1
        exact h1
      exact ⟨by simp, by rw [← hx]; exact HO.out, hb⟩
end Go.Proofs.YtlcpgbbpjnkihaaGreat

namespace Go.Proofs.YtlcpgbbpjnkihaaGreat
set_option linter.unusedSimpArgs false
set_option linter.unusedVariables false
open Go.RowKit
/-- A row of numbers from k on. -/
def mks (k : Int) (m : Nat) : List Value := (List.range m).map fun j : Nat => Value.int .i64 (k + j)
theorem mks_get (k : Int) (m j : Nat) (h : j < m) : (mks k m)[j]? = some (.int .i64 (k + j)) := by simp [mks, h]
theorem mks_succ (k : Int) (m : Nat) : mks k (m + 1) = mks k m ++ [.int .i64 (k + m)] := by simp [mks, List.range_succ]
theorem mks_five (k : Int) (m : Nat) : mks k (m + 5) = mks k m ++ (⟨k + m, k + m + 1, k + m + 2, k + m + 3, k + m + 4⟩ : Pt).cells := by
  rw [mks_succ k (m + 4), mks_succ k (m + 3), mks_succ k (m + 2), mks_succ k (m + 1), mks_succ k m]
  simp [Pt.cells]
  omega
theorem mks_five' (k k5 : Int) (m : Nat) (h : k5 = k + m) : mks k (m + 5) = mks k m ++ (⟨k5, k5 + 1, k5 + 1 + 1, k5 + 1 + 1 + 1, k5 + 1 + 1 + 1 + 1⟩ : Pt).cells := by
  have e : (⟨k5, k5 + 1, k5 + 1 + 1, k5 + 1 + 1 + 1, k5 + 1 + 1 + 1 + 1⟩ : Pt) = ⟨k + m, k + m + 1, k + m + 2, k + m + 3, k + m + 4⟩ := by subst h; congr 1; omega; omega; omega
  rw [mks_five, e]
theorem grown_tr {a b c : World} {row : Option Nat} (h : a.grownBy b row) (k : b.grownBy c row) : a.grownBy c row :=
  ⟨k.os.trans h.os, k.tape.trans h.tape, k.output.trans h.output, Nat.le_trans h.size k.size, fun i hi hr => (k.block i (Nat.lt_of_lt_of_le hi h.size) hr).trans (h.block i hi hr)⟩
theorem grown_refl (a : World) (row : Option Nat) : a.grownBy a row := ⟨rfl, rfl, rfl, Nat.le_refl _, fun _ _ _ => rfl⟩
/-- What a mark leaves. -/
def Marked (w : World) (base : Nat) (e : TypeId) (size : Nat) (v : Value) (n : Nat) (k : Int) (r : Ending) (w' : World) : Prop :=
  r = .returned (.int .i64 (k + ((n * size : Nat) : Int))) ∧ w'.ownsRow base e size v n (mks k (n * size)) ∧ w.grownBy w' v.ownBlock
set_option maxHeartbeats 800000 in
theorem laws_markIntS (base n : Nat) (v : Value) (xs : List Value) (k : Int) (w : World) (h : w.ownsRow base 3 1 v n xs) (hk : 0 ≤ k) (hk' : k ≤ 1125899906842624) (hs : n ≤ 2000000) :
    Calls Tryz.prog 24 #[v, .int .i64 k] w fun e w' => Marked w base 3 1 v n k e w' := by
  rcases h.2 with ⟨rfl, rfl⟩ | ⟨g, cap, _, rfl, hbg, hgh, _⟩
  · clear h
    go_enter Tryz.func24, Tryz.ntmps24
    go_wp2
    go_loopw [5, 1] (fun i u wr => i = .int .i64 0 ∧ u = .int .i64 k ∧ wr = w) (fun i _ _ => 0)
    case atStart => exact ⟨rfl, rfl, rfl⟩
    case round =>
      obtain ⟨rfl, rfl, rfl⟩ := hrel
      go_wp2
      go_ret
      exact ⟨by simp, World.ownsRow_nil _ _ _ _, grown_refl _ _⟩
  · have HO := Lib.hid h
    have hgl : g < w.heap.size := (h.lt g rfl).2
    clear h hgh
    go_enter Tryz.func24, Tryz.ntmps24
    go_wp2
    go_loopw [5, 1] (fun i u wr => ∃ (j : Nat) (ys : List Value), j ≤ n ∧ i = .int .i64 j ∧ u = .int .i64 (k + j) ∧ Hid (wr.ownsRow base 3 1 (.slice (some ⟨g, 0, none⟩) n cap) n ys) ∧ Hid (ys.take j = mks k j) ∧ Hid (w.grownBy wr (some g))) (fun i _ _ => n - (intOf i).toNat)
    case atStart => exact ⟨0, xs, by omega, rfl, by simp, HO.out, by simp [Hid, mks], grown_refl _ _⟩
    case round =>
      obtain ⟨j, ys, hj, rfl, rfl, HY, HT, HGR⟩ := hrel
      by_cases hlt : j < n
      · have hl : ys.length = n * 1 := HY.out.1
        have u0 := HY.out.cellAt j (by omega)
        rw [List.getElem?_eq_getElem (by omega)] at u0
        have f0 := HY.out.frozenAt j
        generalize ys[j]'(by omega) = v0 at u0
        have HL := Lib.hid hl
        clear hl
        go_wp2
        all_goals try (go_region; go_wp2)
        all_goals go_roundw
        case rel =>
          have ho := HY.out.stored j (.int .i64 (k + j))
          refine ⟨j + 1, _, by omega, by go_num, by go_num, by first | exact ho.1 | exact ho.1.drew, ?_, by first | exact grown_tr HGR.out ho.2 | exact grown_tr HGR.out ⟨ho.2.os, ho.2.tape, ho.2.output, ho.2.size, ho.2.block⟩⟩
          rw [mks_succ, ← HT.out]
          exact take_set1 ys j _ (by have := HL.out; omega)
        case measure => simp [intOf]; omega
      · obtain rfl : j = n := by omega
        go_wp2
        go_ret
        refine ⟨by simp, ?_, HGR.out⟩
        have h1 := HT.out
        have h2 : ys.length = j * 1 := HY.out.1
        rw [List.take_of_length_le (by omega)] at h1
        rw [Nat.mul_one, ← h1]
        exact HY.out
set_option maxHeartbeats 800000 in
theorem laws_heldIntS (base n : Nat) (v : Value) (k : Int) (w : World) (h : w.ownsRow base 3 1 v n (mks k n)) (hk : 0 ≤ k) (hk' : k ≤ 1125899906842624) (hs : n ≤ 2000000) :
    Calls Tryz.prog 25 #[v, .int .i64 k] w fun e w' => e = .returned (.int .i64 (k + n)) ∧ Below w.heap.size w w' := by
  obtain ⟨A, c, rfl⟩ := own_form h
  rcases h.2 with ⟨hv, rfl⟩ | ⟨g, cap, _, hv, hbg, hgh, _⟩
  · clear h hv
    go_enter Tryz.func25, Tryz.ntmps25
    go_wp2
    go_loop [5, 1] (fun i u => i = .int .i64 0 ∧ u = .int .i64 k) (fun i _ => 0)
    case atStart => exact ⟨rfl, rfl⟩
    case round =>
      obtain ⟨rfl, rfl⟩ := hrel
      go_wp2
      go_ret
      exact ⟨by simp, Below.refl _ _⟩
  · cases hv
    have HO := Lib.hid h
    clear h hgh
    go_enter Tryz.func25, Tryz.ntmps25
    go_wp2
    go_loopw [5, 1] (fun i u wr => ∃ j : Nat, j ≤ n ∧ i = .int .i64 j ∧ u = .int .i64 (k + j) ∧ Below w.heap.size w wr) (fun i _ _ => n - (intOf i).toNat)
    case atStart => exact ⟨0, by omega, rfl, by simp, Below.refl _ _⟩
    case round =>
      obtain ⟨j, hj, rfl, rfl, hB⟩ := hrel
      by_cases hlt : j < n
      · have u0 := (own_below HO.out hB).cellAt j (by omega)
        rw [mks_get k n j hlt] at u0
        go_wp2
        go_roundw
        case rel => exact ⟨j + 1, by omega, by go_num, by go_num, hB⟩
        case measure => simp [intOf]; omega
      · obtain rfl : j = n := by omega
        go_wp2
        go_ret
        exact ⟨by simp, hB⟩
set_option maxRecDepth 100000 in
set_option maxHeartbeats 1600000 in
theorem laws_markPartS (base n : Nat) (v : Value) (xs : List Value) (k : Int) (w : World) (h : w.ownsRow base 120 5 v n xs) (hk : 0 ≤ k) (hk' : k ≤ 1125899906842624) (hs : n ≤ 2000000) :
    Calls Tryz.prog 71 #[v, .int .i64 k] w fun e w' => Marked w base 120 5 v n k e w' := by
  rcases h.2 with ⟨rfl, rfl⟩ | ⟨g, cap, _, rfl, hbg, hgh, _⟩
  · clear h
    go_enter Tryz.func71, Tryz.ntmps71
    go_wp2
    go_loopw [5, 1] (fun i u wr => i = .int .i64 0 ∧ u = .int .i64 k ∧ wr = w) (fun i _ _ => 0)
    case atStart => exact ⟨rfl, rfl, rfl⟩
    case round =>
      obtain ⟨rfl, rfl, rfl⟩ := hrel
      go_wp2
      go_ret
      exact ⟨by simp, World.ownsRow_nil _ _ _ _, grown_refl _ _⟩
  · have HO := Lib.hid h
    have hgl : g < w.heap.size := (h.lt g rfl).2
    clear h hgh
    go_enter Tryz.func71, Tryz.ntmps71
    go_wp2
    go_loopw [5, 1] (fun i u wr => ∃ (j : Nat) (ys : List Value), j ≤ n ∧ i = .int .i64 j ∧ u = .int .i64 (k + ((j * 5 : Nat) : Int)) ∧ Hid (wr.ownsRow base 120 5 (.slice (some ⟨g, 0, none⟩) n cap) n ys) ∧ Hid (ys.take (j * 5) = mks k (j * 5)) ∧ Hid (w.grownBy wr (some g))) (fun i _ _ => n - (intOf i).toNat)
    case atStart => exact ⟨0, xs, by omega, rfl, by simp, HO.out, by simp [Hid, mks], grown_refl _ _⟩
    case round =>
      obtain ⟨j, ys, hj, rfl, rfl, HY, HT, HGR⟩ := hrel
      by_cases hlt : j < n
      · have hl : ys.length = n * 5 := HY.out.1
        have u0 := HY.out.cellAt (j * 5) (by omega)
        have u1 := HY.out.cellAt (j * 5 + 1) (by omega)
        have u2 := HY.out.cellAt (j * 5 + 2) (by omega)
        have u3 := HY.out.cellAt (j * 5 + 3) (by omega)
        have u4 := HY.out.cellAt (j * 5 + 4) (by omega)
        rw [List.getElem?_eq_getElem (by omega)] at u0 u1 u2 u3 u4
        have f0 := HY.out.frozenAt (j * 5)
        have f1 := HY.out.frozenAt (j * 5 + 1)
        have f2 := HY.out.frozenAt (j * 5 + 2)
        have f3 := HY.out.frozenAt (j * 5 + 3)
        have f4 := HY.out.frozenAt (j * 5 + 4)
        generalize ys[j * 5]'(by omega) = v0 at u0
        generalize ys[j * 5 + 1]'(by omega) = v1 at u1
        generalize ys[j * 5 + 2]'(by omega) = v2 at u2
        generalize ys[j * 5 + 3]'(by omega) = v3 at u3
        generalize ys[j * 5 + 4]'(by omega) = v4 at u4
        have HL := Lib.hid hl
        clear hl
        obtain ⟨k5, hk5⟩ : ∃ k5 : Int, k5 = k + ((j * 5 : Nat) : Int) := ⟨_, rfl⟩
        have hk0 : 0 ≤ k5 := by omega
        have hk1 : k5 ≤ 1125899916842624 := by omega
        rw [← hk5]
        have HK := Lib.hid hk5
        clear hk5
        go_wp2
        go_roundw
        case rel =>
          refine ⟨j + 1, _, by omega, by go_num, by have := HK.out; go_num, own_set5 HY.out (j * 5) ⟨k5, k5 + 1, k5 + 1 + 1, k5 + 1 + 1 + 1, k5 + 1 + 1 + 1 + 1⟩, ?_, ?_⟩
          · rw [show (j + 1) * 5 = j * 5 + 5 by omega, take_set5 ys (j * 5) _ (by have := HL.out; omega), HT.out, mks_five' k k5 _ HK.out]
            exact Lib.hid rfl
          · have a0 := HY.out.stored (j * 5) (.int .i64 k5)
            have a1 := a0.1.stored (j * 5 + 1) (.int .i64 (k5 + 1))
            have a2 := a1.1.stored (j * 5 + 2) (.int .i64 (k5 + 1 + 1))
            have a3 := a2.1.stored (j * 5 + 3) (.int .i64 (k5 + 1 + 1 + 1))
            have a4 := a3.1.stored (j * 5 + 4) (.int .i64 (k5 + 1 + 1 + 1 + 1))
            exact grown_tr HGR.out (grown_tr a0.2 (grown_tr a1.2 (grown_tr a2.2 (grown_tr a3.2 a4.2))))
        case measure => simp [intOf]; omega
      · obtain rfl : j = n := by omega
        go_wp2
        go_ret
        refine ⟨by simp, ?_, HGR.out⟩
        have h1 := HT.out
        have h2 : ys.length = j * 5 := HY.out.1
        rw [List.take_of_length_le (by omega)] at h1
        rw [← h1]
        exact HY.out
end Go.Proofs.YtlcpgbbpjnkihaaGreat

namespace Go.Proofs.YtlcpgbbpjnkihaaGreat
set_option linter.unusedSimpArgs false
set_option linter.unusedVariables false
open Go.RowKit
/-- Only blocks from a to b - 1 have turned, of those that were there. -/
structure Tch (a b : Nat) (w w' : World) : Prop where
  os : w'.os = w.os
  tape : w'.tape = w.tape
  output : w'.output = w.output
  size : w.heap.size ≤ w'.heap.size
  block : ∀ k, k < w.heap.size → (k < a ∨ b ≤ k) → w'.heap[k]? = w.heap[k]?
theorem grown_setCell0 (w : World) (g j : Nat) (x : Value) : w.grownBy (w.setCell ⟨g, j, none⟩ x) (some g) :=
  ⟨rfl, rfl, rfl, by simp [World.setCell], fun k hk hr => Below.heap_setCell _ _ _ _ (by intro e; exact hr (by rw [e]))⟩
theorem Tch.refl (a b : Nat) (w : World) : Tch a b w w := ⟨rfl, rfl, rfl, Nat.le_refl _, fun _ _ _ => rfl⟩
theorem Tch.trans {a b : Nat} {w w1 w2 : World} (h : Tch a b w w1) (k : Tch a b w1 w2) : Tch a b w w2 :=
  ⟨k.os.trans h.os, k.tape.trans h.tape, k.output.trans h.output, Nat.le_trans h.size k.size, fun i hi hr => (k.block i (Nat.lt_of_lt_of_le hi h.size) hr).trans (h.block i hi hr)⟩
theorem Tch.of_below {a b : Nat} {w w' : World} (h : Below w.heap.size w w') : Tch a b w w' := ⟨h.os, h.tape, h.output, h.size, fun k hk _ => h.block k hk⟩
theorem Tch.of_grown {a b : Nat} {w w' : World} {row : Option Nat} (h : w.grownBy w' row) (hr : ∀ k, row = some k → a ≤ k ∧ k < b) : Tch a b w w' :=
  ⟨h.os, h.tape, h.output, h.size, fun k hk ho => h.block k hk fun e => by have := hr k e.symm; omega⟩
theorem Tch.below {a b B : Nat} {w w' : World} (h : Tch a b w w') (hB : B ≤ a) (hs : B ≤ w.heap.size) : Below B w w' :=
  ⟨h.os, h.tape, h.output, h.size, fun k hk => h.block k (by omega) (by omega)⟩
theorem Tch.mono {a b a' b' : Nat} {w w' : World} (h : Tch a b w w') (ha : a' ≤ a) (hb : b ≤ b') : Tch a' b' w w' :=
  ⟨h.os, h.tape, h.output, h.size, fun k hk ho => h.block k hk (by omega)⟩
theorem Tch.drew {a b : Nat} {w w' : World} (h : Tch a b w w') : Tch a b w w'.drew := ⟨h.os, h.tape, h.output, h.size, h.block⟩
section
variable {lo hi a b : Nat} {P : World → Prop} {w w' : World}
theorem As.turn (h : As lo hi P w) (ht : Tch a b w w') (hd : b ≤ lo ∨ hi ≤ a) : As lo hi P w' :=
  ⟨h.loc _ _ h.it fun k hl hk => ht.block k (Nat.lt_of_lt_of_le hk h.le) (by omega), Nat.le_trans h.le ht.size, h.loc⟩
end
theorem box3_loc (g : Nat) (v u x : Value) : Loc g (g + 1) fun w => w.cell? ⟨g, 0, none⟩ = some v ∧ w.cell? ⟨g, 1, none⟩ = some u ∧ w.cell? ⟨g, 2, none⟩ = some x :=
  fun w w' h hk => ⟨(World.cell?_of_block (a := ⟨g, 0, none⟩) (hk g (Nat.le_refl _) (Nat.lt_succ_self _))).trans h.1, (World.cell?_of_block (a := ⟨g, 1, none⟩) (hk g (Nat.le_refl _) (Nat.lt_succ_self _))).trans h.2.1, (World.cell?_of_block (a := ⟨g, 2, none⟩) (hk g (Nat.le_refl _) (Nat.lt_succ_self _))).trans h.2.2⟩
theorem box3_new (w : World) (v u x : Value) (t : TypeId) : As w.heap.size (w.heap.size + 1) (fun w' => w'.cell? ⟨w.heap.size, 0, none⟩ = some v ∧ w'.cell? ⟨w.heap.size, 1, none⟩ = some u ∧ w'.cell? ⟨w.heap.size, 2, none⟩ = some x) (w.alloc (.cells #[v, u, x] t)) :=
  ⟨⟨by go_simp, by go_simp, by go_simp⟩, by simp, box3_loc _ _ _ _⟩
/-- A row whose content does not matter. -/
def Rw (lo hi : Nat) (e : TypeId) (size : Nat) (v : Value) (n : Nat) (w : World) : Prop := ∃ xs, OwR lo hi e size v n xs w
theorem Rw.of {lo hi : Nat} {e : TypeId} {size : Nat} {v : Value} {n : Nat} {xs : List Value} {w : World} (h : OwR lo hi e size v n xs w) : Rw lo hi e size v n w := ⟨xs, h⟩
theorem Rw.keep {lo hi : Nat} {e : TypeId} {size : Nat} {v : Value} {n : Nat} {w w' : World} (h : Rw lo hi e size v n w) (hk : ∀ k, lo ≤ k → k < hi → w'.heap[k]? = w.heap[k]?) : Rw lo hi e size v n w' := h.imp fun _ h => h.keep hk
/-- A row of the same kind was written to: whether it is this one or another one, this is still a row. -/
theorem Rw.after {lo hi lo' : Nat} {e e' : TypeId} {size size' n n' : Nat} {v u : Value} {w w' : World} {ys ys' : List Value} (h : Rw lo hi e size v n w) (hu : w.ownsRow lo' e' size' u n' ys) (hu' : w'.ownsRow lo' e' size' u n' ys') (hg : w.grownBy w' u.ownBlock) (hs : 0 < size) : Rw lo hi e size v n w' := by
  obtain ⟨xs, h⟩ := h
  by_cases hb : v.ownBlock = none ∨ v.ownBlock ≠ u.ownBlock
  · exact ⟨xs, h.1.kept hg hb, h.2⟩
  · have hv : v.ownBlock ≠ none := fun e => hb (.inl e)
    have hvu : v.ownBlock = u.ownBlock := Classical.byContradiction fun e => hb (.inr e)
    rcases h.1.2 with ⟨rfl, _⟩ | ⟨g, cap, cur, rfl, hlo, hh, h1, h2, h3, h4⟩
    · exact absurd rfl hv
    · rcases hu.2 with ⟨rfl, _⟩ | ⟨g', cap', cur', rfl, hlo', hh', k1, k2, k3, k4⟩
      · simp [Value.ownBlock] at hvu
      · simp [Value.ownBlock] at hvu
        subst hvu
        rw [hh] at hh'
        simp only [Option.some.injEq, Obj.cells.injEq] at hh'
        obtain ⟨rfl, rfl, _⟩ := hh'
        rcases hu'.2 with ⟨hx, _⟩ | ⟨g2, cap2, cur2, hx, _, hh2, m1, m2, m3, m4⟩
        · simp at hx
        · simp only [Value.slice.injEq, Option.some.injEq, Addr.mk.injEq, and_true, true_and] at hx
          obtain ⟨rfl, rfl⟩ := hx
          refine ⟨cur2.toList.take (n * size), ⟨?_, .inr ⟨g, cap, cur2, rfl, hlo, hh2, h1, h2, ?_, rfl⟩⟩, h.2⟩
          · rw [List.length_take, Array.length_toList, m3, ← k3, h3]
            have := Nat.mul_le_mul_right size h1
            omega
          · rw [m3, ← k3, h3]
end Go.Proofs.YtlcpgbbpjnkihaaGreat

namespace Go.Proofs.YtlcpgbbpjnkihaaGreat
set_option linter.unusedSimpArgs false
set_option linter.unusedVariables false
open Go.RowKit
def gsz (gs : List Nd) : Nat := gs.length + (gs.map fun d => d.ps.length).sum
theorem sum_getD (l : List Nat) (j : Nat) : l.getD j 0 ≤ l.sum := by
  induction l generalizing j with
  | nil => simp
  | cons x l ih =>
    cases j with
    | zero => simp
    | succ j => have := ih j; simp only [List.getD_cons_succ, List.sum_cons]; omega
theorem GB.of_gsz {gs : List Nd} (h : gsz gs ≤ 1048576) : GB gs := by
  unfold gsz at h
  refine ⟨by omega, fun j => ?_⟩
  have := sum_getD (gs.map fun d => d.ps.length) j
  have e : (gs.map fun d => d.ps.length).getD j 0 = (gs.getD j default).ps.length := by
    by_cases hj : j < gs.length
    · simp [List.getD, hj]
    · simp [List.getD, List.getElem?_eq_none (show gs.length ≤ j by omega)]; rfl
  omega
theorem sum_take_succ (gs : List Nd) (k : Nat) (h : k < gs.length) : ((gs.take (k + 1)).map fun d => d.ps.length).sum = ((gs.take k).map fun d => d.ps.length).sum + (gs.getD k default).ps.length := by
  rw [take_succ_getD gs k h, List.map_append, List.sum_append]; simp
theorem sum_take_le (gs : List Nd) (k : Nat) : ((gs.take k).map fun d => d.ps.length).sum ≤ (gs.map fun d => d.ps.length).sum := by
  have : (gs.map fun d => d.ps.length).sum = ((gs.take k).map fun d => d.ps.length).sum + ((gs.drop k).map fun d => d.ps.length).sum := by
    rw [← List.sum_append, ← List.map_append, List.take_append_drop]
  omega
/-- A row of nodes whose content does not matter. -/
def WkG (lo hi : Nat) (v : Value) (n : Nat) (w : World) : Prop :=
  ∃ xs, OwR lo hi 79 2 v n xs w ∧ ∀ j, j < n → ∃ q A m c, xs[j * 2]? = some (.int .i64 q) ∧ xs[j * 2 + 1]? = some (.slice A m c) ∧ m ≤ 1048576 ∧ Rw lo hi 120 5 (.slice A m c) m w
theorem OwG.weak {lo hi n : Nat} {v : Value} {gs : List Nd} {w : World} (h : OwG lo hi v n gs w) (hb : GB gs) : WkG lo hi v n w := by
  obtain ⟨h0, xs, h1, h2⟩ := h
  refine ⟨xs, h1, fun j hj => ?_⟩
  obtain ⟨x, y, hx, hy, e1, A, m, c, e2, e3, e4⟩ := h2 j hj
  refine ⟨_, A, m, c, by rw [hx, e1], by rw [hy, e2], by rw [e3]; exact hb.2 j, _, by rw [← e2]; exact e4⟩
theorem WkG.keep {lo hi n : Nat} {v : Value} {w w' : World} (h : WkG lo hi v n w) (hk : ∀ k, lo ≤ k → k < hi → w'.heap[k]? = w.heap[k]?) : WkG lo hi v n w' := by
  obtain ⟨xs, h1, h2⟩ := h
  refine ⟨xs, h1.keep hk, fun j hj => ?_⟩
  obtain ⟨q, A, m, c, hx, hy, hm, hr⟩ := h2 j hj
  exact ⟨q, A, m, c, hx, hy, hm, hr.keep hk⟩
theorem WkG.step {lo hi n : Nat} {v : Value} {w w' : World} (h : WkG lo hi v n w) (hb : Below w.heap.size w w') (hs : hi ≤ w.heap.size) : WkG lo hi v n w' :=
  h.keep fun k _ hk => hb.block k (by omega)
theorem node_ne_part : (79 : TypeId) ≠ 120 := by decide
/-- The parts of one node were marked: still a row of nodes. -/
theorem WkG.marked {lo hi n m : Nat} {v u : Value} {w w' : World} {k : Int} {e : Ending} (h : WkG lo hi v n w) (hu : ∃ ys, w.ownsRow lo 120 5 u m ys) (hm : Marked w lo 120 5 u m k e w') : WkG lo hi v n w' := by
  obtain ⟨xs, h1, h2⟩ := h
  obtain ⟨ys, hu⟩ := hu
  refine ⟨xs, ⟨h1.1.kept hm.2.2 (blocks_ne h1.1 hu node_ne_part), h1.2⟩, fun j hj => ?_⟩
  obtain ⟨q, A, m', c, hx, hy, hm', hr⟩ := h2 j hj
  exact ⟨q, A, m', c, hx, hy, hm', hr.after hu hm.2.1 hm.2.2 (by decide)⟩
/-- The kind of one node was written. -/
theorem WkG.kind {lo hi n g cap : Nat} {w : World} (h : WkG lo hi (.slice (some ⟨g, 0, none⟩) n cap) n w) (j : Nat) (hj : j < n) (q : Int) : WkG lo hi (.slice (some ⟨g, 0, none⟩) n cap) n (w.setCell ⟨g, j * 2, none⟩ (.int .i64 q)) := by
  obtain ⟨xs, h1, h2⟩ := h
  have hl : xs.length = n * 2 := h1.1.1
  have hst := h1.1.stored (j * 2) (.int .i64 q)
  refine ⟨_, ⟨hst.1, h1.2⟩, fun i hlt => ?_⟩
  obtain ⟨q', A, m, c, hx, hy, hm, ys, hr⟩ := h2 i hlt
  have e : ∃ ys, OwR lo hi 120 5 (.slice A m c) m ys (w.setCell ⟨g, j * 2, none⟩ (.int .i64 q)) := ⟨ys, hr.1.kept hst.2 (blocks_ne hr.1 h1.1 node_ne_part.symm), hr.2⟩
  by_cases e' : i = j
  · subst e'
    refine ⟨q, A, m, c, ?_, ?_, hm, e⟩
    · rw [List.getElem?_set]; simp; omega
    · rw [List.getElem?_set]; simpa using hy
  · refine ⟨q', A, m, c, ?_, ?_, hm, e⟩
    · rw [List.getElem?_set, if_neg (by omega)]; exact hx
    · rw [List.getElem?_set, if_neg (by omega)]; exact hy
end Go.Proofs.YtlcpgbbpjnkihaaGreat

namespace Go.Proofs.YtlcpgbbpjnkihaaGreat
set_option linter.unusedSimpArgs false
set_option linter.unusedVariables false
open Go.RowKit
/-- Returns a node of fresh parts. -/
def RetNd (w : World) (d : Nd) (e : Ending) (w' : World) : Prop := ∃ (A : Option Addr) (n c : Nat), e = .returned (.agg #[.int .i64 d.k, .slice A n c]) ∧ n = d.ps.length ∧ w'.ownsRow w.heap.size 120 5 (.slice A n c) n (d.ps.flatMap Pt.cells) ∧ Below w.heap.size w w'
set_option maxHeartbeats 800000 in
theorem laws_toNode (A : Option Addr) (k : Int) (n c : Nat) (ps : List Pt) (w : World) (B : Nat) (hB : B ≤ w.heap.size) (hn : n = ps.length) (h : PS w B A ps) (hs : n ≤ 2000000) :
    Calls Tryz.prog 65 #[.agg #[.int .i64 k, .slice A n c]] w fun e w' => RetNd w ⟨k, ps⟩ e w' := by
  have H := Lib.hid h
  have HN := Lib.hid hn
  clear hn h
  go_enter Tryz.func65, Tryz.ntmps65
  go_wp2_with fail
  refine (laws_toFormula A n c ps _ B (by simp; omega) HN.out (((H.out.alloc hB _).alloc (by simp; omega) _).alloc (by simp; omega) _) hs).mono ?_
  rintro e w1 ⟨A1, n1, c1, rfl, hn1, hown, hb⟩
  obtain ⟨hc, hf⟩ := bcell hb
  have HO := Lib.hid hown
  have HN1 := Lib.hid hn1
  clear hown hn1
  have hw1 : w.heap.size + 3 ≤ w1.heap.size := by have := hb.size; simp at this; omega
  have q1 : w1.cell? ⟨w.heap.size + 1, 0, none⟩ = some (.int .i64 0) := by rw [hc _ _ (by simp)]; go_simp
  have q2 : w1.cell? ⟨w.heap.size + 1, 1, none⟩ = some (.slice none 0 0) := by rw [hc _ _ (by simp)]; go_simp
  have q3 : w1.cell? ⟨w.heap.size + 1 + 1, 0, none⟩ = some (.int .i64 k) := by rw [hc _ _ (by simp)]; go_simp
  have q4 : w1.cell? ⟨w.heap.size + 1 + 1, 1, none⟩ = some (.slice none 0 0) := by rw [hc _ _ (by simp)]; go_simp
  have q5 : w1.frozen? ⟨w.heap.size + 1, 0, none⟩ = false := by rw [hf _ _ (by simp)]; go_simp
  have q6 : w1.frozen? ⟨w.heap.size + 1, 1, none⟩ = false := by rw [hf _ _ (by simp)]; go_simp
  have q7 : w1.frozen? ⟨w.heap.size + 1 + 1, 0, none⟩ = false := by rw [hf _ _ (by simp)]; go_simp
  have q8 : w1.frozen? ⟨w.heap.size + 1 + 1, 1, none⟩ = false := by rw [hf _ _ (by simp)]; go_simp
  clear hc hf
  go_wp2
  refine bodyPost_ret (v := .agg #[.int .i64 k, .slice A1 n1 c1]) (by simp [results, Tryz.results65, go_sem, q1, q2, q3, q4]) rfl ?_
  have o1 := ownsRow_setCell_below HO.out (a := ⟨w.heap.size + 1 + 1, 1, none⟩) (by simp) (.slice A1 n1 c1)
  have o2 := ownsRow_setCell_below o1 (a := ⟨w.heap.size + 1, 0, none⟩) (by simp) (.int .i64 k)
  have o3 := ownsRow_setCell_below o2 (a := ⟨w.heap.size + 1, 1, none⟩) (by simp) (.slice A1 n1 c1)
  refine ⟨A1, n1, c1, rfl, HN1.out, own_mono o3 (by simp; omega), ?_⟩
  exact (((((((Below.refl _ _).alloc (Nat.le_refl _) _).alloc (by simp) _).alloc (by simp; omega) _).trans (hb.mono (by simp; omega))).setCell (by simp; omega) _).setCell (by simp) _).setCell (by simp) _
/-- Two cells written one after the other. -/
def set2 (xs : List Value) (j : Nat) (x y : Value) : List Value := (xs.set j x).set (j + 1) y
theorem set2_get (xs : List Value) (j : Nat) (x y : Value) (h : j + 1 < xs.length) : (set2 xs j x y)[j]? = some x ∧ (set2 xs j x y)[j + 1]? = some y ∧ ∀ i, i ≠ j → i ≠ j + 1 → (set2 xs j x y)[i]? = xs[i]? := by
  unfold set2
  refine ⟨?_, ?_, fun i h1 h2 => ?_⟩
  · rw [List.getElem?_set, if_neg (by omega), List.getElem?_set, if_pos rfl, if_pos (by omega)]
  · rw [List.getElem?_set, if_pos rfl, if_pos (by simpa using h)]
  · rw [List.getElem?_set, if_neg (by omega), List.getElem?_set, if_neg (by omega)]
theorem own_set2 {w : World} {base e size n cap g : Nat} {xs : List Value} (h : w.ownsRow base e size (.slice (some ⟨g, 0, none⟩) n cap) n xs) (j : Nat) (x y : Value) :
    ((w.setCell ⟨g, j, none⟩ x).setCell ⟨g, j + 1, none⟩ y).ownsRow base e size (.slice (some ⟨g, 0, none⟩) n cap) n (set2 xs j x y) :=
  ((h.stored j x).1.stored (j + 1) y).1
theorem info_node : (Tryz.prog.info? 79).map (fun i => (i.zero, i.size, i.bytes)) = some (some (.agg #[.int .i64 0, .slice none 0 0]), 2, 32) := by kernel_rfl
set_option maxRecDepth 100000 in
set_option maxHeartbeats 800000 in
theorem laws_toNodeS (A : Option Addr) (n c : Nat) (gs : List Nd) (w : World) (B : Nat) (hB : B ≤ w.heap.size) (hn : n = gs.length) (h : GS w B A gs) (hs : GB gs) :
    Calls Tryz.prog 39 #[.slice A n c] w fun e w' => e = .returned (.slice (some ⟨w.heap.size, 0, none⟩) n n) ∧ OwG w.heap.size w'.heap.size (.slice (some ⟨w.heap.size, 0, none⟩) n n) n gs w' ∧ Below w.heap.size w w' := by
  have hn1 : n ≤ 1048576 := by rw [hn]; exact hs.1
  obtain ⟨i0, hi, hz0, hz1, hz2⟩ := info_parts info_node
  obtain ⟨w0, hmk, hown0, hgr0⟩ := run_make_full (P := Tryz.prog) w w.heap.size 34 79 i0 _ 2 Tryz.underlying34 hi hz0 hz1 .i64 .i64 n (by rw [hz2]; omega) (by unfold maxLen; omega) (Nat.le_refl _)
  have H := Lib.hid h
  have HN := Lib.hid hn
  have HS := Lib.hid hs
  clear hn h hs
  go_enter Tryz.func39, Tryz.ntmps39
  go_wp2
  go_loopw [4] (fun i wr => ∃ (k : Nat) (xs : List Value), k ≤ n ∧ i = .int .i64 k ∧ Hid (wr.ownsRow w.heap.size 79 2 (.slice (some ⟨w.heap.size, 0, none⟩) n n) n xs) ∧ Hid (∀ j, j < k → ∃ x y, xs[j * 2]? = some x ∧ xs[j * 2 + 1]? = some y ∧ NdO (w.heap.size + 1) wr.heap.size (gs.getD j default) x y wr) ∧ Below w.heap.size w wr ∧ w.heap.size < wr.heap.size) (fun i _ => n - (intOf i).toNat)
  case atStart => exact ⟨0, _, Nat.zero_le _, rfl, hown0, by intro j hj; omega, ⟨hgr0.os, hgr0.tape, hgr0.output, hgr0.size, fun k hk => hgr0.block k hk (by simp)⟩, (hown0.lt _ rfl).2⟩
  case round =>
    obtain ⟨k, xs, hk, rfl, HO, HT, hb, hsz⟩ := hrel
    by_cases hlt : k < n
    · obtain ⟨b, off, rfl, hbB, hc⟩ := H.out (by have := HN.out; omega)
      obtain ⟨c0, A1, n1, c1, c2, hn1', hps⟩ := hc k (by have := HN.out; omega)
      have hnb := HS.out.2 k
      clear hc H
      have b0 := (hb.cell (p := ⟨b, off + k * 2, none⟩) (by simp; omega)).trans c0
      have b1 := (hb.cell (p := ⟨b, off + k * 2 + 1, none⟩) (by simp; omega)).trans c2
      have HPS := Lib.hid (hps.below hb hB)
      clear c0 c2 hps
      generalize hp : gs.getD k default = d at *
      have HP := Lib.hid hp
      have HN1 := Lib.hid hn1'
      have hn1b : n1 ≤ 2000000 := by omega
      clear hp hn1'
      go_wp2_with fail
      refine (laws_toNode A1 d.k n1 c1 d.ps _ B (by omega) HN1.out HPS.out hn1b).mono ?_
      rintro e w1 ⟨A2, n2, c2, rfl, hn2, hown2, hb1⟩
      have hO1 := own_below HO.out hb1
      have hxl : xs.length = n * 2 := hO1.1
      have u0 := hO1.cellAt (k * 2) (by omega)
      have u1 := hO1.cellAt (k * 2 + 1) (by omega)
      rw [List.getElem?_eq_getElem (by omega)] at u0 u1
      have f0 := hO1.frozenAt (k * 2)
      have f1 := hO1.frozenAt (k * 2 + 1)
      generalize xs[k * 2]'(by omega) = v0 at u0
      generalize xs[k * 2 + 1]'(by omega) = v1 at u1
      have HO1 := Lib.hid hO1
      have HXL := Lib.hid hxl
      have HOW2 := Lib.hid hown2
      have HN2 := Lib.hid hn2
      clear hO1 hxl HO hown2 hn2
      go_wp2
      go_roundw
      case rel =>
        obtain ⟨s0, s1, s2⟩ := set2_get xs (k * 2) (.int .i64 d.k) (.slice A2 n2 c2) (by have := HXL.out; omega)
        refine ⟨k + 1, _, by omega, by go_num, own_set2 HO1.out (k * 2) _ _, ?_, ((hb.trans (hb1.mono hb.size)).setCell (Nat.le_refl _) _).setCell (Nat.le_refl _) _, by have := hb1.size; simp [World.setCell]; omega⟩
        intro j hj
        have hnew : NdO (w.heap.size + 1) w1.heap.size d (.int .i64 d.k) (.slice A2 n2 c2) w1 := ⟨rfl, A2, n2, c2, rfl, HN2.out, own_mono HOW2.out (by omega), fun k' hk' => (HOW2.out.lt k' hk').2⟩
        rcases Nat.lt_or_ge j k with h1 | h1
        · obtain ⟨x, y, hx, hy, hd⟩ := HT.out j h1
          refine ⟨x, y, by rw [s2 _ (by omega) (by omega)]; exact hx, by rw [s2 _ (by omega) (by omega)]; exact hy, ?_⟩
          have := ((hd.keep fun q _ hq => hb1.block q hq).mono (Nat.le_refl _) hb1.size : NdO (w.heap.size + 1) w1.heap.size _ x y w1)
          simpa [World.setCell] using (this.setCell (a := ⟨w.heap.size, k * 2, none⟩) (by simp) (.int .i64 d.k)).setCell (a := ⟨w.heap.size, k * 2 + 1, none⟩) (by simp) (.slice A2 n2 c2)
        · obtain rfl : j = k := by omega
          refine ⟨_, _, s0, s1, ?_⟩
          rw [HP.out]
          simpa [World.setCell] using (hnew.setCell (a := ⟨w.heap.size, j * 2, none⟩) (by simp) (.int .i64 d.k)).setCell (a := ⟨w.heap.size, j * 2 + 1, none⟩) (by simp) (.slice A2 n2 c2)
      case measure => simp [intOf]; omega
    · go_wp2
      go_ret
      have hkn : k = n := by omega
      subst hkn
      refine ⟨by simp, ⟨HN.out, xs, OwR.start HO.out, fun j hj => ?_⟩, hb⟩
      obtain ⟨x, y, hx, hy, hd⟩ := HT.out j hj
      exact ⟨x, y, hx, hy, hd.mono (by omega) (Nat.le_refl _)⟩
/-- Returns a graph of fresh nodes. -/
def RetGr (w : World) (gs : List Nd) (e : Ending) (w' : World) : Prop := ∃ (A : Option Addr) (n c : Nat), e = .returned (.agg #[.slice A n c]) ∧ n = gs.length ∧ OwG w.heap.size w'.heap.size (.slice A n c) n gs w' ∧ Below w.heap.size w w'
set_option maxHeartbeats 800000 in
theorem laws_toGraph (A : Option Addr) (n c : Nat) (gs : List Nd) (w : World) (B : Nat) (hB : B ≤ w.heap.size) (hn : n = gs.length) (h : GS w B A gs) (hs : GB gs) :
    Calls Tryz.prog 11 #[.agg #[.slice A n c]] w fun e w' => RetGr w gs e w' := by
  have H := Lib.hid h
  have HN := Lib.hid hn
  have HS := Lib.hid hs
  clear hn h hs
  go_enter Tryz.func11, Tryz.ntmps11
  go_wp2_with fail
  refine (laws_toNodeS _ _ _ gs _ B (by simp; omega) HN.out (((H.out.alloc hB _).alloc (by simp; omega) _).alloc (by simp; omega) _) HS.out).mono ?_
  rintro e w1 ⟨rfl, hown, hb⟩
  obtain ⟨hc, hf⟩ := bcell hb
  have HO := Lib.hid hown
  clear hown
  have hw1 : w.heap.size + 3 ≤ w1.heap.size := by have := hb.size; simp at this; omega
  have q1 : w1.cell? ⟨w.heap.size + 1, 0, none⟩ = some (.slice none 0 0) := by rw [hc _ _ (by simp)]; go_simp
  have q2 : w1.cell? ⟨w.heap.size + 1 + 1, 0, none⟩ = some (.slice none 0 0) := by rw [hc _ _ (by simp)]; go_simp
  have q3 : w1.frozen? ⟨w.heap.size + 1, 0, none⟩ = false := by rw [hf _ _ (by simp)]; go_simp
  have q4 : w1.frozen? ⟨w.heap.size + 1 + 1, 0, none⟩ = false := by rw [hf _ _ (by simp)]; go_simp
  clear hc hf
  go_wp2
  refine bodyPost_ret (v := .agg #[.slice (some ⟨w.heap.size + 1 + 1 + 1, 0, none⟩) n n]) (by simp [results, Tryz.results11, go_sem, q1]) rfl ?_
  have o1 := HO.out.setCell (a := ⟨w.heap.size + 1 + 1, 0, none⟩) (by simp) (.slice (some ⟨w.heap.size + 1 + 1 + 1, 0, none⟩) n n)
  have o2 := o1.setCell (a := ⟨w.heap.size + 1, 0, none⟩) (by simp) (.slice (some ⟨w.heap.size + 1 + 1 + 1, 0, none⟩) n n)
  have o3 := o2.mono (lo' := w.heap.size) (hi' := w1.heap.size) (by simp; omega) (Nat.le_refl _)
  simp only [World.size_alloc] at o3
  refine ⟨_, n, n, rfl, HN.out, by simpa [World.setCell] using o3, ?_⟩
  exact ((((((Below.refl _ _).alloc (Nat.le_refl _) _).alloc (by simp) _).alloc (by simp; omega) _).trans (hb.mono (by simp; omega))).setCell (by simp; omega) _).setCell (by simp) _
end Go.Proofs.YtlcpgbbpjnkihaaGreat

namespace Go.Proofs.YtlcpgbbpjnkihaaGreat
set_option linter.unusedSimpArgs false
set_option linter.unusedVariables false
open Go.RowKit
set_option maxHeartbeats 800000 in
theorem laws_szNode (A : Option Addr) (k : Int) (n c : Nat) (l : Int) (w : World) (hl0 : 0 ≤ l) (hl : l ≤ 2000000) (hn : n ≤ 9223372036854775807) :
    Calls Tryz.prog 59 #[.agg #[.int .i64 k, .slice A n c], .int .i64 l] w fun e w' => e = .returned (.int .i64 (if l - n < 0 then -1 else l - n)) ∧ Below w.heap.size w w' := by
  have HS := laws_szFormula A n c l
  by_cases h : l - n < 0
  · rw [if_pos h]
    have HC : ∀ w : World, Calls Tryz.prog 81 #[.agg #[.slice A n c], .int .i64 l] w fun e w' => e = .returned (.int .i64 (-1)) ∧ Below w.heap.size w w' := fun w => by
      have := HS w hl0 hl hn
      rwa [if_pos h] at this
    have HH := Lib.hid HC
    clear HC HS
    go_enter Tryz.func59, Tryz.ntmps59
    go_wp2_with fail
    refine (HH.out _).mono ?_
    rintro e w' ⟨rfl, hb⟩
    go_wp2
    go_ret
    exact ⟨rfl, ((Below.refl _ _).alloc (Nat.le_refl _) _).trans (hb.mono (by simp))⟩
  · rw [if_neg h]
    have HC : ∀ w : World, Calls Tryz.prog 81 #[.agg #[.slice A n c], .int .i64 l] w fun e w' => e = .returned (.int .i64 (l - n)) ∧ Below w.heap.size w w' := fun w => by
      have := HS w hl0 hl hn
      rwa [if_neg h] at this
    have HH := Lib.hid HC
    clear HC HS
    go_enter Tryz.func59, Tryz.ntmps59
    go_wp2_with fail
    refine (HH.out _).mono ?_
    rintro e w' ⟨rfl, hb⟩
    go_wp2
    go_ret
    exact ⟨rfl, ((Below.refl _ _).alloc (Nat.le_refl _) _).trans (hb.mono (by simp))⟩
/-- What is left of a size. -/
def leftOf (l : Int) (s : Nat) : Int := if (s : Int) ≤ l then l - s else -1
set_option maxRecDepth 100000 in
set_option maxHeartbeats 800000 in
theorem laws_szNodeS (A : Option Addr) (n c : Nat) (gs : List Nd) (l : Int) (w : World) (B : Nat) (hB : B ≤ w.heap.size) (hn : n = gs.length) (h : GS w B A gs) (hl0 : 0 ≤ l) (hl : l ≤ 2000000) (hm : n ≤ 9223372036854775807) (hm' : ∀ j, (gs.getD j default).ps.length ≤ 9223372036854775807) :
    Calls Tryz.prog 31 #[.slice A n c, .int .i64 l] w fun e w' => e = .returned (.int .i64 (leftOf l (gsz gs))) ∧ Below w.heap.size w w' := by
  by_cases hln : l - n < 0
  · have e : leftOf l (gsz gs) = -1 := by unfold leftOf; rw [if_neg (by unfold gsz; omega)]
    rw [e]
    clear e h hn hm'
    go_enter Tryz.func31, Tryz.ntmps31
    go_wp2
    go_ret
    exact ⟨rfl, Below.refl _ _⟩
  have H := Lib.hid h
  have HN := Lib.hid hn
  have HM := Lib.hid hm'
  clear hn h hm'
  go_enter Tryz.func31, Tryz.ntmps31
  go_wp2
  go_loopw [5, 1] (fun i u wr => ∃ (k : Nat) (q : Int), k ≤ n ∧ i = .int .i64 k ∧ u = .int .i64 q ∧ 0 ≤ q ∧ q ≤ 2000000 ∧ Hid (q = l - n - (((gs.take k).map fun d => d.ps.length).sum : Nat)) ∧ Below w.heap.size w wr) (fun i _ _ => n - (intOf i).toNat)
  case atStart => exact ⟨0, l - n, Nat.zero_le _, rfl, rfl, by omega, by omega, by simp [Hid], Below.refl _ _⟩
  case round =>
    obtain ⟨k, q, hk, rfl, rfl, hq0, hq, HQ, hb⟩ := hrel
    by_cases hlt : k < n
    · obtain ⟨b, off, rfl, hbB, hc⟩ := H.out (by have := HN.out; omega)
      obtain ⟨c0, A1, n1, c1, c2, hn1', hps⟩ := hc k (by have := HN.out; omega)
      have hnb := HM.out k
      clear hc H hps
      have b0 := (hb.cell (p := ⟨b, off + k * 2, none⟩) (by simp; omega)).trans c0
      have b1 := (hb.cell (p := ⟨b, off + k * 2 + 1, none⟩) (by simp; omega)).trans c2
      clear c0 c2
      have hst := sum_take_succ gs k (by have := HN.out; omega)
      have htl := sum_take_le gs (k + 1)
      generalize gs.getD k default = d at *
      have hnb1 : n1 ≤ 9223372036854775807 := by omega
      have HST := Lib.hid hst
      have HTL := Lib.hid htl
      have HN1 := Lib.hid hn1'
      clear hst htl hn1' hnb
      by_cases h1 : q - n1 < 0
      · have HC : ∀ w : World, Calls Tryz.prog 59 #[.agg #[.int .i64 d.k, .slice A1 n1 c1], .int .i64 q] w fun e w' => e = .returned (.int .i64 (-1)) ∧ Below w.heap.size w w' := fun w => by
          have := laws_szNode A1 d.k n1 c1 q w hq0 hq hnb1
          rwa [if_pos h1] at this
        have HH := Lib.hid HC
        clear HC
        go_wp2_with fail
        refine (HH.out _).mono ?_
        rintro e w' ⟨rfl, hb1⟩
        go_wp2
        go_ret
        refine ⟨ret_i ?_, hb.trans (hb1.mono hb.size)⟩
        unfold leftOf
        rw [if_neg]
        have a1 := HST.out; have a2 := HTL.out; have a3 := HN1.out; have a4 := HQ.out; have a5 := HN.out
        unfold gsz
        omega
      · have HC : ∀ w : World, Calls Tryz.prog 59 #[.agg #[.int .i64 d.k, .slice A1 n1 c1], .int .i64 q] w fun e w' => e = .returned (.int .i64 (q - n1)) ∧ Below w.heap.size w w' := fun w => by
          have := laws_szNode A1 d.k n1 c1 q w hq0 hq hnb1
          rwa [if_neg h1] at this
        have HH := Lib.hid HC
        clear HC
        go_wp2_with fail
        refine (HH.out _).mono ?_
        rintro e w' ⟨rfl, hb1⟩
        go_wp2
        go_roundw
        case rel => exact ⟨k + 1, q - n1, by omega, by go_num, rfl, by omega, by omega, by have a1 := HST.out; have a3 := HN1.out; have a4 := HQ.out; show q - n1 = _; omega, hb.trans (hb1.mono hb.size)⟩
        case measure => simp [intOf]; omega
    · obtain rfl : k = n := by omega
      go_wp2
      go_ret
      refine ⟨ret_i ?_, hb⟩
      have a4 := HQ.out
      have a5 := HN.out
      rw [a5, List.take_of_length_le (Nat.le_refl _)] at a4
      unfold leftOf
      rw [if_pos (by unfold gsz; omega), a4]
      unfold gsz
      omega
set_option maxHeartbeats 800000 in
theorem laws_szGraph (A : Option Addr) (n c : Nat) (gs : List Nd) (l : Int) (w : World) (B : Nat) (hB : B ≤ w.heap.size) (hn : n = gs.length) (h : GS w B A gs) (hl0 : 0 ≤ l) (hl : l ≤ 2000000) (hm : n ≤ 9223372036854775807) (hm' : ∀ j, (gs.getD j default).ps.length ≤ 9223372036854775807) :
    Calls Tryz.prog 8 #[.agg #[.slice A n c], .int .i64 l] w fun e w' => e = .returned (.int .i64 (leftOf l (gsz gs))) ∧ Below w.heap.size w w' := by
  have H := Lib.hid h
  have HC := Lib.hid fun (w : World) (hB : B ≤ w.heap.size) (h : GS w B A gs) => laws_szNodeS A n c gs l w B hB hn h hl0 hl hm hm'
  have hL : leftOf l (gsz gs) = -1 ∨ 0 ≤ leftOf l (gsz gs) := by unfold leftOf; split <;> omega
  generalize leftOf l (gsz gs) = L at *
  clear h hn hm'
  rcases hL with rfl | hL
  all_goals
    go_enter Tryz.func8, Tryz.ntmps8
    go_wp2_with fail
    refine (HC.out _ (by simp; omega) (H.out.alloc hB _)).mono ?_
    rintro e w' ⟨rfl, hb⟩
    go_wp2
    go_ret
    exact ⟨rfl, ((Below.refl _ _).alloc (Nat.le_refl _) _).trans (hb.mono (by simp))⟩
def eqNd (d e : Nd) : Bool := decide (d = e)
theorem eqNd_iff (d e : Nd) : eqNd d e = true ↔ d = e := by simp [eqNd]
set_option maxHeartbeats 800000 in
theorem laws_eqNode (A A' : Option Addr) (k k' : Int) (n n' c c' : Nat) (ps qs : List Pt) (w : World) (B : Nat) (hB : B ≤ w.heap.size) (hn : n = ps.length) (hn' : n' = qs.length) (h : PS w B A ps) (h' : PS w B A' qs) (hs : n ≤ 2000000) (hs' : n' ≤ 2000000) :
    Calls Tryz.prog 70 #[.agg #[.int .i64 k, .slice A n c], .agg #[.int .i64 k', .slice A' n' c']] w fun e w' => e = .returned (.bool (eqNd ⟨k, ps⟩ ⟨k', qs⟩)) ∧ Below w.heap.size w w' := by
  have hd : eqNd ⟨k, ps⟩ ⟨k', qs⟩ = (!(k != k') && decide (ps = qs)) := by
    simp only [eqNd, Nd.mk.injEq]
    by_cases h1 : k = k' <;> by_cases h2 : ps = qs <;> simp [h1, h2]
  rw [hd]
  have H := Lib.hid h
  have H' := Lib.hid h'
  have HN := Lib.hid hn
  have HN' := Lib.hid hn'
  clear hn hn' h h' hd
  cases hk : (k != k')
  · go_enter Tryz.func70, Tryz.ntmps70
    go_wp2_with fail
    refine (laws_eqFormula _ _ _ _ _ _ ps qs _ B (by simp; omega) HN.out HN'.out ((H.out.alloc hB _).alloc (by simp; omega) _) ((H'.out.alloc hB _).alloc (by simp; omega) _) hs hs').mono ?_
    rintro e w1 ⟨rfl, hb⟩
    go_wp2
    all_goals
      go_ret
      exact ⟨ret_b (by simp_all), ((Below.refl _ _).alloc (Nat.le_refl _) _).alloc (by simp) _ |>.trans (hb.mono (by simp; omega))⟩
  · go_enter Tryz.func70, Tryz.ntmps70
    go_wp2
    go_ret
    exact ⟨rfl, ((Below.refl _ _).alloc (Nat.le_refl _) _).alloc (by simp) _⟩
set_option maxRecDepth 100000 in
set_option maxHeartbeats 1600000 in
theorem laws_eqNodeS (A A' : Option Addr) (n n' c c' : Nat) (gs hs : List Nd) (w : World) (B : Nat) (hB : B ≤ w.heap.size) (hn : n = gs.length) (hn' : n' = hs.length) (h : GS w B A gs) (h' : GS w B A' hs) (hb1 : GB gs) (hb2 : GB hs) :
    Calls Tryz.prog 47 #[.slice A n c, .slice A' n' c'] w fun e w' => e = .returned (.bool (decide (gs = hs))) ∧ Below w.heap.size w w' := by
  have hm1 : n ≤ 1048576 := by rw [hn]; exact hb1.1
  have hm2 : n' ≤ 1048576 := by rw [hn']; exact hb2.1
  by_cases hl : n = n'
  · have hne : ((n : Int) != (n' : Int)) = false := by simp [hl]
    have HL := Lib.hid hl
    have HN := Lib.hid hn
    have HN' := Lib.hid hn'
    have H := Lib.hid h
    have H' := Lib.hid h'
    have HB1 := Lib.hid hb1
    have HB2 := Lib.hid hb2
    clear hl hn hn' h h' hb1 hb2
    go_enter Tryz.func47, Tryz.ntmps47
    go_wp2
    go_loopw [5] (fun i wr => ∃ k : Nat, k ≤ n ∧ i = .int .i64 k ∧ Hid (gs.take k = hs.take k) ∧ Below w.heap.size w wr) (fun i _ => n - (intOf i).toNat)
    case atStart => exact ⟨0, Nat.zero_le _, rfl, by simp [Hid], Below.refl _ _⟩
    case round =>
      obtain ⟨k, hk, rfl, HT, hb⟩ := hrel
      by_cases hlt : k < n
      · obtain ⟨b, off, rfl, hbB, hc⟩ := H.out (by have := HN.out; omega)
        obtain ⟨b', off', rfl, hbB', hc'⟩ := H'.out (by have := HN'.out; have := HL.out; omega)
        obtain ⟨c0, A1, n1, c1, c2, hn1', hps⟩ := hc k (by have := HN.out; omega)
        obtain ⟨d0, A2, n2, d1, d2, hn2', hqs⟩ := hc' k (by have := HN'.out; have := HL.out; omega)
        have hx1 := HB1.out.2 k
        have hx2 := HB2.out.2 k
        clear hc hc' H H'
        have hlt' : k < n' := by have := HL.out; omega
        have b0 := (hb.cell (p := ⟨b, off + k * 2, none⟩) (by simp; omega)).trans c0
        have b1 := (hb.cell (p := ⟨b, off + k * 2 + 1, none⟩) (by simp; omega)).trans c2
        have e0 := (hb.cell (p := ⟨b', off' + k * 2, none⟩) (by simp; omega)).trans d0
        have e1 := (hb.cell (p := ⟨b', off' + k * 2 + 1, none⟩) (by simp; omega)).trans d2
        have HPS := Lib.hid (hps.below hb hB)
        have HQS := Lib.hid (hqs.below hb hB)
        clear c0 c2 d0 d2 hps hqs
        generalize hp : gs.getD k default = p at *
        generalize hq : hs.getD k default = q at *
        have HP := Lib.hid hp
        have HQ := Lib.hid hq
        have HN1 := Lib.hid hn1'
        have HN2 := Lib.hid hn2'
        have hy1 : n1 ≤ 2000000 := by omega
        have hy2 : n2 ≤ 2000000 := by omega
        clear hp hq hn1' hn2' hx1 hx2
        go_wp2
        go_still_tail 8, (by kernel_rfl)
        go_wp2_with (go_at_call 70; refine (laws_eqNode _ _ _ _ _ _ _ _ p.ps q.ps wr.drew B (Nat.le_trans hB hb.size) HN1.out HN2.out HPS.out HQS.out hy1 hy2).mono ?_; rintro e w1 ⟨rfl, hb1⟩)
        · have ht : (!eqNd p q) = true := by assumption
          go_ret
          refine ⟨ret_b ?_, hb.drew.trans (hb1.mono hb.size)⟩
          have hne : gs.getD k default ≠ hs.getD k default := by
            rw [HP.out, HQ.out]; intro e; rw [(eqNd_iff p q).2 e] at ht; cases ht
          simp [getD_ne gs hs k hne]
        · have ht : (!eqNd p q) = false := by assumption
          have he : gs.getD k default = hs.getD k default := by
            rw [HP.out, HQ.out]; exact (eqNd_iff p q).1 (by simpa using ht)
          have hts := take_step gs hs k (by have := HN.out; omega) (by have := HN'.out; omega) HT.out he
          clear he
          go_roundw
          case rel => exact ⟨k + 1, by omega, by go_num, hts, hb.drew.trans (hb1.mono hb.size)⟩
          case measure => simp [intOf]; omega
      · go_wp2
        go_ret
        refine ⟨ret_b ?_, hb⟩
        have hkn : k = n := by omega
        have := take_all_eq gs hs n HN.out (HL.out.trans HN'.out) (by rw [← hkn]; exact HT.out)
        simp [this]
  · have hne : ((n : Int) != (n' : Int)) = true := by simp; omega
    have hf : decide (gs = hs) = false := by
      rw [decide_eq_false_iff_not]; rintro rfl; omega
    rw [hf]
    clear hl hn hn' h h' hf hb1 hb2
    go_enter Tryz.func47, Tryz.ntmps47
    go_wp2
    go_ret
    exact ⟨rfl, Below.refl _ _⟩
set_option maxHeartbeats 400000 in
theorem laws_eqGraph (A A' : Option Addr) (n n' c c' : Nat) (gs hs : List Nd) (w : World) (B : Nat) (hB : B ≤ w.heap.size) (hn : n = gs.length) (hn' : n' = hs.length) (h : GS w B A gs) (h' : GS w B A' hs) (hb1 : GB gs) (hb2 : GB hs) :
    Calls Tryz.prog 15 #[.agg #[.slice A n c], .agg #[.slice A' n' c']] w fun e w' => e = .returned (.bool (decide (gs = hs))) ∧ Below w.heap.size w w' := by
  have H := Lib.hid h
  have H' := Lib.hid h'
  have HN := Lib.hid hn
  have HN' := Lib.hid hn'
  have HB1 := Lib.hid hb1
  have HB2 := Lib.hid hb2
  clear hn hn' h h' hb1 hb2
  go_enter Tryz.func15, Tryz.ntmps15
  go_wp2_with fail
  refine (laws_eqNodeS _ _ _ _ _ _ gs hs _ B (by simp; omega) HN.out HN'.out ((H.out.alloc hB _).alloc (by simp; omega) _) ((H'.out.alloc hB _).alloc (by simp; omega) _) HB1.out HB2.out).mono ?_
  rintro e w1 ⟨rfl, hb⟩
  go_wp2
  all_goals
    go_ret
    exact ⟨ret_b (by simp_all), ((Below.refl _ _).alloc (Nat.le_refl _) _).alloc (by simp) _ |>.trans (hb.mono (by simp; omega))⟩
end Go.Proofs.YtlcpgbbpjnkihaaGreat

namespace Go.Proofs.YtlcpgbbpjnkihaaGreat
set_option linter.unusedSimpArgs false
set_option linter.unusedVariables false
open Go.RowKit
/-- What a mark leaves, where the marks do not matter. -/
def MkW (lo hi : Nat) (w : World) (k top : Int) (e : Ending) (w' : World) : Prop := ∃ k' : Int, e = .returned (.int .i64 k') ∧ k ≤ k' ∧ k' ≤ top ∧ Tch lo hi w w'
set_option maxRecDepth 100000 in
set_option maxHeartbeats 1600000 in
theorem laws_markNodeS (lo hi n : Nat) (v : Value) (k : Int) (w : World) (h : WkG lo hi v n w) (hs : n ≤ 1048576) (hk : 0 ≤ k) (hk' : k ≤ 562949953421312) (hhi : hi ≤ w.heap.size) :
    Calls Tryz.prog 48 #[v, .int .i64 k] w fun e w' => MkW lo hi w k (k + n * 5242881) e w' := by
  obtain ⟨A, c, rfl⟩ := own_form h.choose_spec.1.1
  have hch := h.choose_spec.1
  generalize h.choose = xs0 at hch
  rcases hch.1.2 with ⟨hv, rfl⟩ | ⟨g, cap, _, hv, hbg, hgh, hrest⟩
  · clear h hv hch
    go_enter Tryz.func48, Tryz.ntmps48
    go_wp2
    go_loopw [5, 1] (fun i u wr => i = .int .i64 0 ∧ u = .int .i64 k ∧ wr = w) (fun i _ _ => 0)
    case atStart => exact ⟨rfl, rfl, rfl⟩
    case round =>
      obtain ⟨rfl, rfl, rfl⟩ := hrel
      go_wp2
      go_ret
      exact ⟨k, rfl, Int.le_refl _, by simp, Tch.refl _ _ _⟩
  · cases hv
    have hgi : lo ≤ g ∧ g < hi := ⟨hbg, hch.2 g rfl⟩
    have HW := Lib.hid h
    clear h hgh hch hrest
    go_enter Tryz.func48, Tryz.ntmps48
    go_wp2
    go_loopw [5, 1] (fun i u wr => ∃ (j : Nat) (q : Int), j ≤ n ∧ i = .int .i64 j ∧ u = .int .i64 q ∧ k ≤ q ∧ q ≤ k + j * 5242881 ∧ Hid (WkG lo hi (.slice (some ⟨g, 0, none⟩) n c) n wr) ∧ Hid (Tch lo hi w wr)) (fun i _ _ => n - (intOf i).toNat)
    case atStart => exact ⟨0, k, by omega, rfl, rfl, by omega, by simp, HW.out, Tch.refl _ _ _⟩
    case round =>
      obtain ⟨j, q, hj, rfl, rfl, hq0, hq1, HY, HT⟩ := hrel
      by_cases hlt : j < n
      · have hq2 : q ≤ 568447512150016 := by omega
        have hq00 : 0 ≤ q := by omega
        have HY2 := Lib.hid (HY.out.kind j hlt q)
        obtain ⟨xs, ho, hx⟩ := HY.out
        obtain ⟨q', A1, m1, c1, hx0, hx1, hm1, ys, hr⟩ := hx j hlt
        have u0 := (ho.1.cellAt (j * 2) (by omega)).trans hx0
        have u1 := (ho.1.cellAt (j * 2 + 1) (by omega)).trans hx1
        have f0 := ho.1.frozenAt (j * 2)
        have hb : Tch lo hi wr (wr.setCell ⟨g, j * 2, none⟩ (.int .i64 q)) := Tch.of_grown (ho.1.stored (j * 2) (.int .i64 q)).2 fun k hk => by simp at hk; omega
        have HR : Hid (OwR lo hi 120 5 (.slice A1 m1 c1) m1 ys (wr.setCell ⟨g, j * 2, none⟩ (.int .i64 q))) := ⟨hr.1.kept (ho.1.stored (j * 2) (.int .i64 q)).2 (blocks_ne hr.1 ho.1 node_ne_part.symm), hr.2⟩
        have HB := Lib.hid hb
        clear hx ho hr hb hx0 hx1 HY
        go_wp2_with fail
        refine (laws_markPartS lo m1 _ ys (q + 1) _ HR.out.1 (by omega) (by omega) (by omega)).mono ?_
        rintro e w1 hm
        have he := hm.1
        have HY3 := Lib.hid (HY2.out.marked ⟨ys, HR.out.1⟩ hm)
        have HT3 : Hid (Tch lo hi w w1) := (HT.out.trans HB.out).trans (Tch.of_grown hm.2.2 fun k hk => ⟨(HR.out.1.lt k hk).1, HR.out.2 k hk⟩)
        obtain ⟨q3, hq3⟩ : ∃ q3 : Int, q3 = q + 1 + ((m1 * 5 : Nat) : Int) := ⟨_, rfl⟩
        rw [← hq3] at he
        have hq4 : k ≤ q3 := by omega
        have hq5 : q3 ≤ k + (j + 1) * 5242881 := by omega
        subst he
        clear hm hq3 HY2 HR HB HT
        go_wp2
        go_roundw
        case rel => exact ⟨j + 1, q3, by omega, by go_num, rfl, hq4, by simpa using hq5, HY3.out, HT3.out⟩
        case measure => simp [intOf]; omega
      · obtain rfl : j = n := by omega
        go_wp2
        go_ret
        exact ⟨q, rfl, hq0, by simpa using hq1, HT.out⟩
set_option maxHeartbeats 800000 in
theorem laws_markGraph (lo hi n c : Nat) (A : Option Addr) (k : Int) (w : World) (h : WkG lo hi (.slice A n c) n w) (hs : n ≤ 1048576) (hk : 0 ≤ k) (hk' : k ≤ 562949953421312) (hhi : hi ≤ w.heap.size) :
    Calls Tryz.prog 16 #[.agg #[.slice A n c], .int .i64 k] w fun e w' => MkW lo hi w k (k + n * 5242881) e w' := by
  have H := Lib.hid h
  clear h
  go_enter Tryz.func16, Tryz.ntmps16
  go_wp2_with fail
  refine (laws_markNodeS lo hi n _ k _ (H.out.step ((Below.refl _ _).alloc (Nat.le_refl _) _) hhi) hs hk hk' (by simp; omega)).mono ?_
  rintro e w1 ⟨k1, rfl, hk1, hk2, ht⟩
  go_wp2
  go_ret
  exact ⟨k1, rfl, hk1, hk2, (Tch.of_below ((Below.refl _ _).alloc (Nat.le_refl _) _)).trans ht⟩
end Go.Proofs.YtlcpgbbpjnkihaaGreat

namespace Go.Proofs.YtlcpgbbpjnkihaaGreat
set_option linter.unusedSimpArgs false
set_option linter.unusedVariables false
open Go.RowKit
/-- Of what was there when the law began nothing has turned. -/
def Bl (W wk : World) : Prop := Below W.heap.size W wk
theorem Bl.step {W wk wl : World} (h : Bl W wk) (hb : Below wk.heap.size wk wl) : Bl W wl := Below.trans h (hb.mono (Below.size h))
theorem Bl.alloc {W wk : World} (h : Bl W wk) (o : Obj) : Bl W (wk.alloc o) := h.step ((Below.refl _ _).alloc (Nat.le_refl _) o)
theorem Bl.turn {a b : Nat} {W wk wl : World} (h : Bl W wk) (ht : Tch a b wk wl) (ha : W.heap.size ≤ a) : Bl W wl := Below.trans h (ht.below ha (Below.size h))
theorem Bl.refl (W : World) : Bl W W := Below.refl _ _
theorem Bl.le {W wk : World} (h : Bl W wk) : W.heap.size ≤ wk.heap.size := Below.size h
theorem OwG.ncap {lo hi n c : Nat} {A : Option Addr} {gs : List Nd} {w : World} (h : OwG lo hi (.slice A n c) n gs w) : n ≤ c := by
  obtain ⟨_, xs, h1, _⟩ := h
  rcases h1.1.2 with ⟨hv, hz⟩ | ⟨g, cap, cur, hv, _, _, h2, _⟩
  · omega
  · simp only [Value.slice.injEq] at hv
    obtain ⟨_, _, rfl⟩ := hv
    exact h2
/-- A graph of the call's own, in blocks lo to hi - 1. -/
theorem graph_start {lo n c : Nat} {A : Option Addr} {gs : List Nd} {w : World} (h : OwG lo w.heap.size (.slice A n c) n gs w) : As lo w.heap.size (OwG lo w.heap.size (.slice A n c) n gs) w := ⟨h, Nat.le_refl _, OwG.loc _ _ _ _ _⟩
/-- What a mark of an answer leaves. -/
def MkS (lo hi : Nat) (P : World → Prop) (w : World) (k' : Int) (e : Ending) (w' : World) : Prop := e = .returned (.int .i64 k') ∧ As lo hi P w' ∧ Tch lo hi w w'
theorem markw_graph (lo hi n c : Nat) (A : Option Addr) (gs : List Nd) (k : Int) (w : World) (h : As lo hi (OwG lo hi (.slice A n c) n gs) w) (hb : GB gs) (hk : 0 ≤ k) (hk' : k ≤ 562949953421312) :
    Calls Tryz.prog 16 #[.agg #[.slice A n c], .int .i64 k] w fun e w' => MkW lo hi w k (k + 6000000000000) e w' := by
  have hn : n ≤ 1048576 := by rw [h.it.1]; exact hb.1
  refine (laws_markGraph lo hi n c A k w (h.it.weak hb) hn hk hk' h.le).mono ?_
  rintro e w' ⟨k', he, h1, h2, ht⟩
  exact ⟨k', he, h1, by omega, ht⟩
theorem leftOf_no {l : Int} {s : Nat} (h : ¬ (s : Int) ≤ l) : leftOf l s = -1 := by unfold leftOf; rw [if_neg h]
theorem leftOf_ok {l : Int} {s : Nat} (h : (s : Int) ≤ l) : leftOf l s = l - s := by unfold leftOf; rw [if_pos h]
end Go.Proofs.YtlcpgbbpjnkihaaGreat

namespace Go.Proofs.YtlcpgbbpjnkihaaGreat
set_option linter.unusedSimpArgs false
set_option linter.unusedVariables false
open Go.RowKit
def offOf (xss : List (List Int)) (j : Nat) : Nat := ((xss.take j).map List.length).sum
theorem offOf_succ (xss : List (List Int)) (j : Nat) (h : j < xss.length) : offOf xss (j + 1) = offOf xss j + lenOf xss j := by
  unfold offOf lenOf
  rw [List.take_succ_eq_append_getElem h, List.map_append, List.sum_append]
  simp [List.getD, h]
theorem offOf_all (xss : List (List Int)) : offOf xss xss.length = (xss.map List.length).sum := by unfold offOf; rw [List.take_of_length_le (Nat.le_refl _)]
theorem offOf_le (xss : List (List Int)) (j : Nat) : offOf xss j ≤ (xss.map List.length).sum := by
  have : (xss.map List.length).sum = offOf xss j + ((xss.drop j).map List.length).sum := by
    unfold offOf
    rw [← List.sum_append, ← List.map_append, List.take_append_drop]
  omega
set_option maxRecDepth 100000 in
set_option maxHeartbeats 1600000 in
theorem laws_eqIntSS (A A' : Option Addr) (n n' c c' : Nat) (xss yss : List (List Int)) (w : World) (B : Nat) (hB : B ≤ w.heap.size) (hn : n = xss.length) (hn' : n' = yss.length) (h : SS w B A xss) (h' : SS w B A' yss) (hb1 : SB xss) (hb2 : SB yss) :
    Calls Tryz.prog 46 #[.slice A n c, .slice A' n' c'] w fun e w' => e = .returned (.bool (decide (xss = yss))) ∧ Below w.heap.size w w' := by
  have hm1 : n ≤ 1048576 := by rw [hn]; exact hb1.1
  have hm2 : n' ≤ 1048576 := by rw [hn']; exact hb2.1
  by_cases hl : n = n'
  · have hne : ((n : Int) != (n' : Int)) = false := by simp [hl]
    have HL := Lib.hid hl
    have HN := Lib.hid hn
    have HN' := Lib.hid hn'
    have H := Lib.hid h
    have H' := Lib.hid h'
    have HB1 := Lib.hid hb1
    have HB2 := Lib.hid hb2
    clear hl hn hn' h h' hb1 hb2
    go_enter Tryz.func46, Tryz.ntmps46
    go_wp2
    go_loopw [5] (fun i wr => ∃ k : Nat, k ≤ n ∧ i = .int .i64 k ∧ Hid (xss.take k = yss.take k) ∧ Below w.heap.size w wr) (fun i _ => n - (intOf i).toNat)
    case atStart => exact ⟨0, Nat.zero_le _, rfl, by simp [Hid], Below.refl _ _⟩
    case round =>
      obtain ⟨k, hk, rfl, HT, hb⟩ := hrel
      by_cases hlt : k < n
      · obtain ⟨b, off, rfl, hbB, hc⟩ := H.out (by have := HN.out; omega)
        obtain ⟨b', off', rfl, hbB', hc'⟩ := H'.out (by have := HN'.out; have := HL.out; omega)
        obtain ⟨A1, n1, c1, c2, hn1', hps⟩ := hc k (by have := HN.out; omega)
        obtain ⟨A2, n2, d1, d2, hn2', hqs⟩ := hc' k (by have := HN'.out; have := HL.out; omega)
        have hx1 := HB1.out.2 k
        have hx2 := HB2.out.2 k
        clear hc hc' H H'
        have hlt' : k < n' := by have := HL.out; omega
        have b1 := (hb.cell (p := ⟨b, off + k, none⟩) (by simp; omega)).trans c2
        have e1 := (hb.cell (p := ⟨b', off' + k, none⟩) (by simp; omega)).trans d2
        have HPS := Lib.hid (hps.below hb hB)
        have HQS := Lib.hid (hqs.below hb hB)
        clear c2 d2 hps hqs
        have hpd : xss.getD k [] = xss.getD k default := rfl
        have hqd : yss.getD k [] = yss.getD k default := rfl
        rw [hpd] at *
        rw [hqd] at *
        clear hpd hqd
        generalize hp : xss.getD k default = p at *
        generalize hq : yss.getD k default = q at *
        have HP := Lib.hid hp
        have HQ := Lib.hid hq
        have HN1 := Lib.hid hn1'
        have HN2 := Lib.hid hn2'
        have hy1 : n1 ≤ 2000000 := by omega
        have hy2 : n2 ≤ 2000000 := by omega
        have HEQ := Lib.hid fun (w' : World) (hB : B ≤ w'.heap.size) (h : IS w' B A1 p) (h' : IS w' B A2 q) => laws_eqIntS A1 A2 n1 n2 c1 d1 p q w' B hB HN1.out HN2.out h h' hy1 hy2
        obtain ⟨r, hr⟩ : ∃ r : Bool, r = decide (p = q) := ⟨_, rfl⟩
        rw [← hr] at HEQ
        have HR := Lib.hid hr
        clear hp hq hn1' hn2' hx1 hx2 hr
        go_wp2
        go_still_tail 8, (by kernel_rfl)
        go_wp2_with fail
        refine (HEQ.out wr.drew (Nat.le_trans hB hb.size) HPS.out HQS.out).mono ?_
        rintro e w1 ⟨rfl, hb1⟩
        cases r
        · go_wp2
          go_ret
          refine ⟨ret_b ?_, hb.drew.trans (hb1.mono hb.size)⟩
          have hne : xss.getD k default ≠ yss.getD k default := by
            rw [HP.out, HQ.out]; exact of_decide_eq_false HR.out.symm
          simp [getD_ne xss yss k hne]
        · have he : xss.getD k default = yss.getD k default := by
            rw [HP.out, HQ.out]; exact of_decide_eq_true HR.out.symm
          have hts := take_step xss yss k (by have := HN.out; omega) (by have := HN'.out; omega) HT.out he
          have HTS := Lib.hid hts
          clear he hts
          go_wp2
          go_roundw
          case rel => exact ⟨k + 1, by omega, by go_num, HTS.out, hb.drew.trans (hb1.mono hb.size)⟩
          case measure => simp [intOf]; omega
      · go_wp2
        go_ret
        refine ⟨ret_b ?_, hb⟩
        have hkn : k = n := by omega
        have := take_all_eq xss yss n HN.out (HL.out.trans HN'.out) (by rw [← hkn]; exact HT.out)
        simp [this]
  · have hne : ((n : Int) != (n' : Int)) = true := by simp; omega
    have hf : decide (xss = yss) = false := by
      rw [decide_eq_false_iff_not]; rintro rfl; omega
    rw [hf]
    clear hl hn hn' h h' hf hb1 hb2
    go_enter Tryz.func46, Tryz.ntmps46
    go_wp2
    go_ret
    exact ⟨rfl, Below.refl _ _⟩
theorem SSk.mark {lo hi : Nat} {vs : List Value} {xss : List (List Int)} {k : Int} {w w' : World} {e : Ending} {A : Option Addr} {m c J : Nat} (h : SSk lo hi vs (lenOf xss) (fun j => if j < J then mks (k + offOf xss j) (lenOf xss j) else rowOf xss j) w) (hJ : vs[J]? = some (.slice A m c)) (hml : m = lenOf xss J)
    (hm : Marked w lo 3 1 (.slice A m c) m (k + offOf xss J) e w') : SSk lo hi vs (lenOf xss) (fun j => if j < J + 1 then mks (k + offOf xss j) (lenOf xss j) else rowOf xss j) w' := by
  refine ⟨fun j hj => ?_, h.apart⟩
  obtain ⟨A', m', c', e1, e2, e3⟩ := h.row j hj
  by_cases ej : j = J
  · subst ej
    rw [hJ] at e1
    cases e1
    refine ⟨A, m, c, hJ, hml, ?_, e3.2⟩
    rw [if_pos (by omega), ← hml]
    have := hm.2.1
    rwa [Nat.mul_one] at this
  · refine ⟨A', m', c', e1, e2, ?_, e3.2⟩
    have hne : (Value.slice A' m' c').ownBlock = none ∨ (Value.slice A' m' c').ownBlock ≠ (Value.slice A m c).ownBlock := by
      cases hb : (Value.slice A' m' c').ownBlock with
      | none => exact .inl rfl
      | some q => exact .inr fun e => h.apart j J _ _ q ej e1 hJ hb e.symm
    have := e3.1.kept hm.2.2 hne
    have hif : (if j < J + 1 then mks (k + offOf xss j) (lenOf xss j) else rowOf xss j) = (if j < J then mks (k + offOf xss j) (lenOf xss j) else rowOf xss j) := by
      by_cases h1 : j < J
      · rw [if_pos (by omega), if_pos h1]
      · rw [if_neg (by omega), if_neg h1]
    rw [hif]
    exact this
end Go.Proofs.YtlcpgbbpjnkihaaGreat

namespace Go.Proofs.YtlcpgbbpjnkihaaGreat
set_option linter.unusedSimpArgs false
set_option linter.unusedVariables false
open Go.RowKit
set_option maxRecDepth 100000 in
set_option maxHeartbeats 1600000 in
theorem laws_toIntSS (A : Option Addr) (n c : Nat) (xss : List (List Int)) (w : World) (B : Nat) (hB : B ≤ w.heap.size) (hn : n = xss.length) (h : SS w B A xss) (hs : SB xss) :
    Calls Tryz.prog 40 #[.slice A n c] w fun e w' => RetSS w xss e w' := by
  have hn1 : n ≤ 1048576 := by rw [hn]; exact hs.1
  obtain ⟨i1, hi, hz0, hz1, hz2⟩ := info_parts info_ints1
  obtain ⟨w3, hmk, hown3, hgr3⟩ := run_make_full (P := Tryz.prog) w w.heap.size 26 25 i1 _ 1 Tryz.underlying26 hi hz0 hz1 .i64 .i64 n (by rw [hz2]; omega) (by unfold maxLen; omega) (Nat.le_refl _)
  have hgl : w.heap.size < w3.heap.size := (hown3.lt _ rfl).2
  have hb3 : Below w.heap.size w w3 := ⟨hgr3.os, hgr3.tape, hgr3.output, hgr3.size, fun k hk => hgr3.block k hk (by simp)⟩
  have HO3 : Hid (∃ vs, OwR w.heap.size w3.heap.size 25 1 (.slice (some ⟨w.heap.size, 0, none⟩) n n) n vs w3 ∧ SSk w.heap.size w3.heap.size vs (lenOf (cpTo xss n 0)) (rowOf (cpTo xss n 0)) w3) := by
    have e : (madeCells (Value.slice none 0 0).cells (n * 1)).toList = List.replicate n (.slice none 0 0) := by simp [Value.cells, toList_madeCells_one]
    rw [e] at hown3
    refine ⟨_, OwR.start hown3, ⟨fun j hj => ?_, fun i j v u k _ h1 h2 hv => ?_⟩⟩
    · have hj' : j < n := by simpa using hj
      refine ⟨none, 0, 0, by simp [hj'], by simp [lenOf, cpTo, List.getD, hj'], ?_⟩
      have : rowOf (cpTo xss n 0) j = [] := by simp [rowOf, cpTo, List.getD, hj']
      rw [this]
      exact OwR.nil _ _ _ _ _
    · have : v = .slice none 0 0 := by
        rw [List.getElem?_replicate] at h1
        split at h1
        · cases h1; rfl
        · cases h1
      subst this
      simp [Value.ownBlock] at hv
  have H := Lib.hid h
  have HN := Lib.hid hn
  have HS := Lib.hid hs
  have HB3 := Lib.hid hb3
  clear hn h hs hown3 hgr3 hb3
  go_enter Tryz.func40, Tryz.ntmps40
  go_wp2
  clear hmk
  go_loopw [4] (fun i wr => ∃ k : Nat, k ≤ n ∧ i = .int .i64 k ∧ Hid (∃ vs, OwR w.heap.size wr.heap.size 25 1 (.slice (some ⟨w.heap.size, 0, none⟩) n n) n vs wr ∧ SSk w.heap.size wr.heap.size vs (lenOf (cpTo xss n k)) (rowOf (cpTo xss n k)) wr) ∧ Hid (Below w.heap.size w3 wr) ∧ w3.heap.size ≤ wr.heap.size) (fun i _ => n - (intOf i).toNat)
  case atStart => exact ⟨0, Nat.zero_le _, rfl, HO3.out, Below.refl _ _, Nat.le_refl _⟩
  case round =>
    obtain ⟨k, hk, rfl, HO, HB, hwr⟩ := hrel
    by_cases hlt : k < n
    · obtain ⟨vs, hrow, hss⟩ := HO.out
      have hvl : vs.length = n := by have := hrow.1.1; omega
      have hkg : k < xss.length := by have := HN.out; omega
      obtain ⟨b, off, rfl, hbB, A1, n1, c1, c0, hn1', hps⟩ := H.out.at_ k hkg
      have hbw := HB3.out.trans HB.out
      have e0 := (hbw.cell (p := ⟨b, off + k, none⟩) (by simp; omega)).trans c0
      have HPS := Lib.hid (hps.below hbw hB)
      have HAT := Lib.hid (cpTo_at xss n k hlt HN.out)
      have HOT := Lib.hid fun (j : Nat) (hj : j ≠ k) => cpTo_other xss n k j hlt HN.out hj
      have hnb := HS.out.2 k
      have HROW := Lib.hid hrow.1
      have HSS := Lib.hid hss
      have HVL := Lib.hid hvl
      generalize xss.getD k [] = D at *
      have HN1 := Lib.hid hn1'
      have hn2 : n1 ≤ 2000000 := by omega
      clear c0 hps hrow hss hvl hbw hn1' hnb
      go_wp2_with fail
      refine (laws_toIntS A1 n1 c1 D _ B (by omega) HN1.out HPS.out hn2).mono ?_
      rintro e w5 ⟨rfl, ho5, hb5⟩
      have hR5 := own_below HROW.out hb5
      have u5 := hR5.cellAt k (by omega)
      rw [List.getElem?_eq_getElem (by have := HVL.out; omega)] at u5
      have f5 := hR5.frozenAt k
      have hst := hR5.stored k (.slice (some ⟨wr.heap.size, 0, none⟩) n1 n1)
      have hw5 : wr.heap.size ≤ w5.heap.size := hb5.size
      have HNEW : Hid (∃ vs, OwR w.heap.size w5.heap.size 25 1 (.slice (some ⟨w.heap.size, 0, none⟩) n n) n vs (w5.setCell ⟨w.heap.size, k, none⟩ (.slice (some ⟨wr.heap.size, 0, none⟩) n1 n1)) ∧ SSk w.heap.size w5.heap.size vs (lenOf (cpTo xss n (k + 1))) (rowOf (cpTo xss n (k + 1))) (w5.setCell ⟨w.heap.size, k, none⟩ (.slice (some ⟨wr.heap.size, 0, none⟩) n1 n1))) := by
        have hss5 := HSS.out.keep (w' := w5) fun q _ hq => hb5.block q hq
        have hss6 := hss5.grown hst.2 (hss5.ne hR5 ints_ne_int)
        have hd6 := ho5.kept hst.2 (blocks_ne ho5 hR5 ints_ne_int)
        have hrk : rowOf (cpTo xss n (k + 1)) k = D.map (Value.int .i64) := by unfold rowOf; rw [HAT.out]
        rw [← hrk] at hd6
        refine ⟨_, ⟨hst.1, fun q hq => by cases hq; exact Nat.lt_of_lt_of_le hgl (by omega)⟩, hss6.put (hi' := w5.heap.size) (A := some ⟨wr.heap.size, 0, none⟩) (m := n1) (c := n1) k ?_ ?_ ?_ ?_ ?_ ⟨own_mono hd6 (by omega), fun q hq => by have := (ho5.lt q hq).2; omega⟩ (by omega) (by omega)⟩
        · rw [List.getElem?_set, if_pos rfl, if_pos (by have := HVL.out; omega)]
        · intro j hj; rw [List.getElem?_set, if_neg (by omega)]
        · intro j hj _; simpa using hj
        · unfold lenOf; rw [HAT.out]; exact HN1.out
        · intro j hj; unfold lenOf rowOf; rw [HOT.out j hj]; exact ⟨rfl, rfl⟩
      have HB6 : Hid (Below w.heap.size w3 (w5.setCell ⟨w.heap.size, k, none⟩ (.slice (some ⟨wr.heap.size, 0, none⟩) n1 n1))) := (HB.out.trans (hb5.mono (by omega))).setCell (Nat.le_refl _) _
      have HSZ : Hid ((w5.setCell ⟨w.heap.size, k, none⟩ (.slice (some ⟨wr.heap.size, 0, none⟩) n1 n1)).heap.size = w5.heap.size) := by simp [World.setCell, Hid]
      generalize vs[k]'_ = vv at u5
      clear hst hR5 ho5 hb5
      go_wp2
      go_roundw
      case rel => exact ⟨k + 1, by omega, by go_num, by rw [HSZ.out]; exact HNEW.out, HB6.out, by simp [World.setCell]; omega⟩
      case measure => simp [intOf]; omega
    · obtain rfl : k = n := by omega
      go_wp2
      go_ret
      refine ⟨_, rfl, ?_, HB3.out.trans HB.out⟩
      obtain ⟨vs, hrow, hss⟩ := HO.out
      rw [cpTo_all xss k HN.out] at hss
      rw [← HN.out]
      exact ⟨HN.out, vs, hrow, hss⟩
set_option maxHeartbeats 400000 in
theorem laws_szIntS (A : Option Addr) (n c : Nat) (l : Int) (w : World) (hl0 : 0 ≤ l) (hl : l ≤ 2000000) (hn : n ≤ 9223372036854775807) :
    Calls Tryz.prog 32 #[.slice A n c, .int .i64 l] w fun e w' => e = .returned (.int .i64 (leftOf l n)) ∧ Below w.heap.size w w' := by
  unfold leftOf
  by_cases h : (n : Int) ≤ l
  · rw [if_pos h]
    have h' : ¬ l - n < 0 := by omega
    go_enter Tryz.func32, Tryz.ntmps32
    go_wp2
    go_ret
    exact ⟨rfl, Below.refl _ _⟩
  · rw [if_neg h]
    have h' : l - n < 0 := by omega
    go_enter Tryz.func32, Tryz.ntmps32
    go_wp2
    go_ret
    exact ⟨rfl, Below.refl _ _⟩
set_option maxRecDepth 100000 in
set_option maxHeartbeats 800000 in
theorem laws_szIntSS (A : Option Addr) (n c : Nat) (xss : List (List Int)) (l : Int) (w : World) (B : Nat) (hB : B ≤ w.heap.size) (hn : n = xss.length) (h : SS w B A xss) (hl0 : 0 ≤ l) (hl : l ≤ 2000000) (hm : n ≤ 9223372036854775807) (hm' : ∀ j, (xss.getD j []).length ≤ 9223372036854775807) :
    Calls Tryz.prog 33 #[.slice A n c, .int .i64 l] w fun e w' => e = .returned (.int .i64 (leftOf l (xss.length + (xss.map List.length).sum))) ∧ Below w.heap.size w w' := by
  by_cases hln : l - n < 0
  · have e : leftOf l (xss.length + (xss.map List.length).sum) = -1 := by unfold leftOf; rw [if_neg (by omega)]
    rw [e]
    clear e h hn hm'
    go_enter Tryz.func33, Tryz.ntmps33
    go_wp2
    go_ret
    exact ⟨rfl, Below.refl _ _⟩
  have H := Lib.hid h
  have HN := Lib.hid hn
  have HM := Lib.hid hm'
  clear hn h hm'
  go_enter Tryz.func33, Tryz.ntmps33
  go_wp2
  go_loopw [5, 1] (fun i u wr => ∃ (k : Nat) (q : Int), k ≤ n ∧ i = .int .i64 k ∧ u = .int .i64 q ∧ 0 ≤ q ∧ q ≤ 2000000 ∧ Hid (q = l - n - (offOf xss k : Nat)) ∧ Below w.heap.size w wr) (fun i _ _ => n - (intOf i).toNat)
  case atStart => exact ⟨0, l - n, Nat.zero_le _, rfl, rfl, by omega, by omega, by simp [Hid, offOf], Below.refl _ _⟩
  case round =>
    obtain ⟨k, q, hk, rfl, rfl, hq0, hq, HQ, hb⟩ := hrel
    by_cases hlt : k < n
    · have hkg : k < xss.length := by have := HN.out; omega
      obtain ⟨b, off, rfl, hbB, A1, n1, c1, c0, hn1', _⟩ := H.out.at_ k hkg
      have hnb := HM.out k
      have b0 := (hb.cell (p := ⟨b, off + k, none⟩) (by simp; omega)).trans c0
      clear H c0
      have hst := offOf_succ xss k hkg
      have htl := offOf_le xss (k + 1)
      have hn1b : n1 ≤ 9223372036854775807 := by omega
      have hln1 : lenOf xss k = n1 := hn1'.symm
      rw [hln1] at hst
      have HST := Lib.hid hst
      have HTL := Lib.hid htl
      clear hst htl hn1' hnb hln1
      by_cases h1 : (n1 : Int) ≤ q
      · have HC := Lib.hid fun (w : World) => laws_szIntS A1 n1 c1 q w hq0 hq hn1b
        rw [leftOf_ok h1] at HC
        go_wp2_with fail
        refine (HC.out _).mono ?_
        rintro e w' ⟨rfl, hb1⟩
        have hq1 : ¬ q - n1 < 0 := by omega
        go_wp2
        go_roundw
        case rel => exact ⟨k + 1, q - n1, by omega, by go_num, rfl, by omega, by omega, by have a1 := HST.out; have a4 := HQ.out; show q - n1 = _; omega, hb.trans (hb1.mono hb.size)⟩
        case measure => simp [intOf]; omega
      · have HC := Lib.hid fun (w : World) => laws_szIntS A1 n1 c1 q w hq0 hq hn1b
        rw [leftOf_no h1] at HC
        go_wp2_with fail
        refine (HC.out _).mono ?_
        rintro e w' ⟨rfl, hb1⟩
        go_wp2
        go_ret
        refine ⟨ret_i ?_, hb.trans (hb1.mono hb.size)⟩
        unfold leftOf
        rw [if_neg]
        have a1 := HST.out; have a2 := HTL.out; have a4 := HQ.out; have a5 := HN.out
        omega
    · obtain rfl : k = n := by omega
      go_wp2
      go_ret
      refine ⟨ret_i ?_, hb⟩
      have a4 := HQ.out
      have a5 := HN.out
      rw [a5, offOf_all] at a4
      unfold leftOf
      rw [if_pos (by omega), a4]
      omega
end Go.Proofs.YtlcpgbbpjnkihaaGreat

namespace Go.Proofs.YtlcpgbbpjnkihaaGreat
set_option linter.unusedSimpArgs false
set_option linter.unusedVariables false
open Go.RowKit
/-- The content of rows of which the first J are marked. -/
def mkTo (yss : List (List Int)) (k : Int) (J : Nat) (j : Nat) : List Value := if j < J then mks (k + offOf yss j) (lenOf yss j) else rowOf yss j
theorem mkTo_zero (yss : List (List Int)) (k : Int) : mkTo yss k 0 = rowOf yss := by funext j; unfold mkTo; simp
/-- What marks of some of the rows leave. -/
def MkRows (lo hi n : Nat) (v : Value) (us vs : List Value) (yss : List (List Int)) (k : Int) (J : Nat) (w : World) (e : Ending) (w' : World) : Prop :=
  e = .returned (.int .i64 (k + offOf yss J)) ∧ OwR lo hi 25 1 v n us w' ∧ SSk lo hi vs (lenOf yss) (mkTo yss k J) w' ∧ Tch lo hi w w'
set_option maxRecDepth 100000 in
set_option maxHeartbeats 1600000 in
theorem laws_markRows (lo hi n s : Nat) (v : Value) (us vs : List Value) (yss : List (List Int)) (k st : Int) (w : World) (hst : st = k + offOf yss s) (hrow : OwR lo hi 25 1 v n us w) (hus : ∀ j, j < n → vs[s + j]? = us[j]?) (hvl : vs.length = yss.length) (hsn : s + n ≤ yss.length) (hin : SSk lo hi vs (lenOf yss) (mkTo yss k s) w) (hsb : SB2 yss) (htot : (yss.map List.length).sum ≤ 1048576) (hk : 0 ≤ k) (hk' : k ≤ 562949953421312) :
    Calls Tryz.prog 49 #[v, .int .i64 st] w fun e w' => MkRows lo hi n v us vs yss k (s + n) w e w' := by
  have hnb : n ≤ 2000000 := by have := hsb.1; omega
  have hul : us.length = n := by have := hrow.1.1; omega
  have HUS := Lib.hid hus
  have HVL := Lib.hid hvl
  have HIN := Lib.hid hin
  have HSB := Lib.hid hsb
  have HST := Lib.hid hst
  have HSN := Lib.hid hsn
  have hs0 : 0 ≤ st := by omega
  rcases hrow.1.2 with ⟨hv, hz⟩ | ⟨g, cap, cur, hv, hbg, hgh, hrest⟩
  · subst hv
    subst hz
    have HROW := Lib.hid hrow
    clear hrow hin hus hvl hst hsb hul hsn
    go_enter Tryz.func49, Tryz.ntmps49
    go_wp2
    go_loopw [5, 1] (fun i u wr => i = .int .i64 0 ∧ u = .int .i64 st ∧ wr = w) (fun i _ _ => 0)
    case atStart => exact ⟨rfl, rfl, rfl⟩
    case round =>
      obtain ⟨rfl, rfl, rfl⟩ := hrel
      go_wp2
      go_ret
      exact ⟨by simp [HST.out], HROW.out, by simpa using HIN.out, Tch.refl _ _ _⟩
  · subst hv
    have hglo : lo ≤ g := hbg
    have hghi : g < hi := hrow.2 g rfl
    have HROW := Lib.hid hrow
    clear hrow hin hus hvl hst hsb hgh hrest hbg hul hsn
    go_enter Tryz.func49, Tryz.ntmps49
    go_wp2
    go_loopw [5, 1] (fun i u wr => ∃ j : Nat, j ≤ n ∧ i = .int .i64 j ∧ u = .int .i64 (k + offOf yss (s + j)) ∧ Hid (OwR lo hi 25 1 (.slice (some ⟨g, 0, none⟩) n cap) n us wr) ∧ Hid (SSk lo hi vs (lenOf yss) (mkTo yss k (s + j)) wr) ∧ Hid (Tch lo hi w wr)) (fun i _ _ => n - (intOf i).toNat)
    case atStart => exact ⟨0, by omega, rfl, by simp [HST.out], HROW.out, by simpa using HIN, Tch.refl _ _ _⟩
    case round =>
      obtain ⟨j, hj, rfl, rfl, HR, HS, HT⟩ := hrel
      by_cases hlt : j < n
      · obtain ⟨A, m, c, e1, e2, e3⟩ := HS.out.row (s + j) (by have := HVL.out; have := HSN.out; omega)
        have u0 := (HR.out.1.cellAt j (by omega)).trans ((HUS.out j hlt).symm.trans e1)
        have hmb : m ≤ 1048576 := by rw [e2]; exact HSB.out.2 (s + j)
        have hoff := offOf_succ yss (s + j) (by have := HSN.out; omega)
        have hol := offOf_le yss (s + j)
        rw [← e2] at hoff
        have E1 := Lib.hid e1
        have E2 := Lib.hid e2
        have E3 := Lib.hid e3.1
        have HO := Lib.hid hoff
        obtain ⟨o, ho⟩ : ∃ o : Nat, o = offOf yss (s + j) := ⟨_, rfl⟩
        rw [← ho] at hol
        have hob : (o : Int) ≤ 1048576 := by omega
        have HOO := Lib.hid ho
        rw [← ho]
        clear e1 e2 e3 hoff ho hol
        go_wp2_with fail
        refine (laws_markIntS lo m _ _ (k + o) _ E3.out (by omega) (by omega) (by omega)).mono ?_
        rintro e w1 hm
        rw [HOO.out] at hm
        have he := hm.1
        have HS2 := Lib.hid (HS.out.mark E1.out E2.out hm)
        have HR2 : Hid (OwR lo hi 25 1 (.slice (some ⟨g, 0, none⟩) n cap) n us w1) := ⟨HR.out.1.kept hm.2.2 (blocks_ne HR.out.1 E3.out ints_ne_int.symm), HR.out.2⟩
        have hr3 := (HS.out.lt (s + j) _ · E1.out)
        have HT2 : Hid (Tch lo hi w w1) := HT.out.trans (Tch.of_grown hm.2.2 fun q hq => hr3 q hq)
        have hen : k + (offOf yss (s + j) : Int) + ((m * 1 : Nat) : Int) = k + (offOf yss (s + (j + 1)) : Nat) := by rw [← Nat.add_assoc, HO.out]; omega
        rw [hen] at he
        subst he
        clear hm hr3 hen
        obtain ⟨o2, ho2⟩ : ∃ o2 : Nat, o2 = offOf yss (s + (j + 1)) := ⟨_, rfl⟩
        have HO2 := Lib.hid ho2
        rw [← ho2]
        clear ho2
        go_wp2
        go_roundw
        case rel => exact ⟨j + 1, by omega, by go_num, by rw [HO2.out], HR2.out, HS2.out, HT2.out⟩
        case measure => simp [intOf]; omega
      · obtain rfl : j = n := by omega
        obtain ⟨o, ho⟩ : ∃ o : Nat, o = offOf yss (s + j) := ⟨_, rfl⟩
        have HOO := Lib.hid ho
        rw [← ho]
        clear ho
        go_wp2
        go_ret
        exact ⟨ret_i (by rw [HOO.out]), HR.out, HS.out, HT.out⟩
set_option maxRecDepth 100000 in
set_option maxHeartbeats 1600000 in
theorem laws_heldRows (lo hi n s : Nat) (v : Value) (us vs : List Value) (yss : List (List Int)) (k st : Int) (w : World) (hst : st = k + offOf yss s) (hrow : OwR lo hi 25 1 v n us w) (hus : ∀ j, j < n → vs[s + j]? = us[j]?) (hvl : vs.length = yss.length) (hsn : s + n ≤ yss.length) (hin : SSk lo hi vs (lenOf yss) (fun j => mks (k + offOf yss j) (lenOf yss j)) w) (hsb : SB2 yss) (htot : (yss.map List.length).sum ≤ 1048576) (hk : 0 ≤ k) (hk' : k ≤ 562949953421312) :
    Calls Tryz.prog 50 #[v, .int .i64 st] w fun e w' => e = .returned (.int .i64 (k + offOf yss (s + n))) ∧ Below w.heap.size w w' := by
  have hnb : n ≤ 2000000 := by have := hsb.1; omega
  have hul : us.length = n := by have := hrow.1.1; omega
  have HUS := Lib.hid hus
  have HVL := Lib.hid hvl
  have HIN := Lib.hid hin
  have HSB := Lib.hid hsb
  have HST := Lib.hid hst
  have HSN := Lib.hid hsn
  have hs0 : 0 ≤ st := by omega
  rcases hrow.1.2 with ⟨hv, hz⟩ | ⟨g, cap, cur, hv, hbg, hgh, hrest⟩
  · subst hv
    subst hz
    clear hrow hin hus hvl hst hsb hul hsn
    go_enter Tryz.func50, Tryz.ntmps50
    go_wp2
    go_loopw [5, 1] (fun i u wr => i = .int .i64 0 ∧ u = .int .i64 st ∧ wr = w) (fun i _ _ => 0)
    case atStart => exact ⟨rfl, rfl, rfl⟩
    case round =>
      obtain ⟨rfl, rfl, rfl⟩ := hrel
      go_wp2
      go_ret
      exact ⟨by simp [HST.out], Below.refl _ _⟩
  · subst hv
    have HROW := Lib.hid hrow
    clear hrow hin hus hvl hst hsb hgh hrest hbg hul hsn
    go_enter Tryz.func50, Tryz.ntmps50
    go_wp2
    go_loopw [5, 1] (fun i u wr => ∃ j : Nat, j ≤ n ∧ i = .int .i64 j ∧ u = .int .i64 (k + offOf yss (s + j)) ∧ Below w.heap.size w wr) (fun i _ _ => n - (intOf i).toNat)
    case atStart => exact ⟨0, by omega, rfl, by simp [HST.out], Below.refl _ _⟩
    case round =>
      obtain ⟨j, hj, rfl, rfl, hb⟩ := hrel
      by_cases hlt : j < n
      · obtain ⟨A, m, c, e1, e2, e3⟩ := HIN.out.row (s + j) (by have := HVL.out; have := HSN.out; omega)
        have u0 := ((own_below HROW.out.1 hb).cellAt j (by omega)).trans ((HUS.out j hlt).symm.trans e1)
        have hmb : m ≤ 1048576 := by rw [e2]; exact HSB.out.2 (s + j)
        have hoff := offOf_succ yss (s + j) (by have := HSN.out; omega)
        have hol := offOf_le yss (s + j)
        rw [← e2] at hoff e3
        have E3 := Lib.hid (own_below e3.1 hb)
        have HO := Lib.hid hoff
        obtain ⟨o, ho⟩ : ∃ o : Nat, o = offOf yss (s + j) := ⟨_, rfl⟩
        rw [← ho] at hol E3 HO
        have hob : (o : Int) ≤ 1048576 := by omega
        rw [← ho]
        clear e1 e2 e3 hoff ho hol
        go_wp2_with fail
        refine (laws_heldIntS lo m _ (k + o) _ E3.out (by omega) (by omega) (by omega)).mono ?_
        rintro e w1 ⟨rfl, hb1⟩
        have hen : k + (o : Int) + (m : Int) = k + (offOf yss (s + (j + 1)) : Nat) := by rw [← Nat.add_assoc, HO.out]; omega
        rw [hen]
        obtain ⟨o2, ho2⟩ : ∃ o2 : Nat, o2 = offOf yss (s + (j + 1)) := ⟨_, rfl⟩
        have HO2 := Lib.hid ho2
        rw [← ho2]
        clear ho2 hen
        have hpos : 0 ≤ k + (o2 : Int) := by omega
        go_wp2
        go_roundw
        case rel => exact ⟨j + 1, by omega, by go_num, by rw [HO2.out], hb.trans (hb1.mono hb.size)⟩
        case measure => simp [intOf]; omega
      · obtain rfl : j = n := by omega
        obtain ⟨o, ho⟩ : ∃ o : Nat, o = offOf yss (s + j) := ⟨_, rfl⟩
        have HOO := Lib.hid ho
        rw [← ho]
        clear ho
        go_wp2
        go_ret
        exact ⟨ret_i (by rw [HOO.out]), hb⟩
end Go.Proofs.YtlcpgbbpjnkihaaGreat

namespace Go.Proofs.YtlcpgbbpjnkihaaGreat
set_option linter.unusedSimpArgs false
set_option linter.unusedVariables false
open Go.RowKit
def lsz (e : Lz) : Nat := e.vs.length + (e.rs.length + (e.rs.map List.length).sum) + e.cs.length
theorem LB.of_lsz {e : Lz} (h : lsz e ≤ 1048576) : LB e := by
  unfold lsz at h
  have h1 : ((rowsL e).map List.length).sum ≤ 1048576 := by unfold rowsL; simp; omega
  exact ⟨by omega, SB.of_sum (by omega) (by omega), SB2.of_sum (by unfold rowsL; simp; omega) h1, by omega, h1, by omega⟩
/-- The same, marked from k on. -/
def MkL (lo hi : Nat) (A : Option Addr) (n c : Nat) (E : Option Addr) (en ec : Nat) (C : Option Addr) (m d : Nat) (st : Lz) (k : Int) (w : World) : Prop :=
  n = st.vs.length ∧ en = st.rs.length ∧ m = st.cs.length ∧ ∃ us, OwR lo hi 25 1 (.slice E en ec) en us w ∧ SSk lo hi (.slice A n c :: (us ++ [.slice C m d])) (lenOf (rowsL st)) (fun j => mks (k + offOf (rowsL st) j) (lenOf (rowsL st) j)) w
section
variable {lo hi lo' hi' n c en ec m d : Nat} {A E C : Option Addr} {st : Lz} {k : Int} {w w' : World}
theorem MkL.loc (lo hi : Nat) (A : Option Addr) (n c : Nat) (E : Option Addr) (en ec : Nat) (C : Option Addr) (m d : Nat) (st : Lz) (k : Int) : Loc lo hi (MkL lo hi A n c E en ec C m d st k) := by
  rintro w w' ⟨h0, h0', h0'', vs, h1, h2⟩ hk
  exact ⟨h0, h0', h0'', vs, h1.keep hk, h2.keep hk⟩
theorem lazy_start (h : OwL lo w.heap.size A n c E en ec C m d st w) : As lo w.heap.size (OwL lo w.heap.size A n c E en ec C m d st) w := ⟨h, Nat.le_refl _, OwL.loc _ _ _ _ _ _ _ _ _ _ _ _⟩
theorem As.lazy (h : As lo hi (OwL lo hi A n c E en ec C m d st) w) : LS3 w w.heap.size A E C st := h.it.reads.more h.le
end
end Go.Proofs.YtlcpgbbpjnkihaaGreat

namespace Go.Proofs.YtlcpgbbpjnkihaaGreat
set_option linter.unusedSimpArgs false
set_option linter.unusedVariables false
open Go.RowKit
set_option maxHeartbeats 1600000 in
theorem laws_szLazy (A E C : Option Addr) (n c en ec m d : Nat) (st : Lz) (l : Int) (w : World) (B : Nat) (hB : B ≤ w.heap.size) (hn : n = st.vs.length) (he : en = st.rs.length) (hc : m = st.cs.length) (h : LS3 w B A E C st) (hl0 : 0 ≤ l) (hl : l ≤ 2000000) (hm : n ≤ 9223372036854775807) (hem : en ≤ 9223372036854775807) (hcm : m ≤ 9223372036854775807) (hp : ∀ j, (st.rs.getD j []).length ≤ 9223372036854775807) :
    Calls Tryz.prog 9 #[.agg #[.slice A n c, .slice E en ec, .slice C m d], .int .i64 l] w fun e w' => e = .returned (.int .i64 (leftOf l (lsz st))) ∧ Below w.heap.size w w' := by
  have H := Lib.hid h.2.1
  have HC1 := Lib.hid fun (w : World) => laws_szIntS A n c l w hl0 hl hm
  have hls : lsz st = st.vs.length + (st.rs.length + (st.rs.map List.length).sum) + st.cs.length := rfl
  by_cases h1 : (n : Int) ≤ l
  case neg =>
    rw [leftOf_no h1] at HC1
    have hL : leftOf l (lsz st) = -1 := by unfold leftOf; rw [if_neg (by rw [hls]; omega)]
    rw [hL]
    clear h hn he hc hp hL hls
    go_enter Tryz.func9, Tryz.ntmps9
    go_wp2_with fail
    refine (HC1.out _).mono ?_
    rintro e w1 ⟨rfl, hb⟩
    go_wp2
    go_ret
    exact ⟨rfl, ((Below.refl _ _).alloc (Nat.le_refl _) _).trans (hb.mono (by simp))⟩
  rw [leftOf_ok h1] at HC1
  have HC2 := Lib.hid fun (w : World) (hB : B ≤ w.heap.size) (h : SS w B E st.rs) => laws_szIntSS E en ec st.rs (l - n) w B hB he h (by omega) (by omega) hem hp
  obtain ⟨z, hz⟩ : ∃ z : Nat, z = st.rs.length + (st.rs.map List.length).sum := ⟨_, rfl⟩
  rw [← hz] at HC2 hls
  by_cases h2 : (z : Int) ≤ l - n
  case neg =>
    rw [leftOf_no h2] at HC2
    have hL : leftOf l (lsz st) = -1 := by unfold leftOf; rw [if_neg (by rw [hls]; omega)]
    rw [hL]
    have hq1 : ¬ l - n < 0 := by omega
    clear h hn he hc hp hL hls hz
    go_enter Tryz.func9, Tryz.ntmps9
    go_wp2_with fail
    refine (HC1.out _).mono ?_
    rintro e w1 ⟨rfl, hb⟩
    have q1 : w1.cell? ⟨w.heap.size, 1, none⟩ = some (.slice E en ec) := (hb.cell (p := ⟨w.heap.size, 1, none⟩) (by simp)).trans (by go_simp)
    have hs1 : w.heap.size < w1.heap.size := by have := hb.size; simp at this; omega
    go_wp2_with fail
    refine (HC2.out _ (by omega) ((H.out.alloc hB _).below hb (by simp; omega))).mono ?_
    rintro e w2 ⟨rfl, hb2⟩
    go_wp2
    go_ret
    exact ⟨rfl, (((Below.refl _ _).alloc (Nat.le_refl _) _).trans (hb.mono (by simp))).trans (hb2.mono (by omega))⟩
  rw [leftOf_ok h2] at HC2
  have HC3 := Lib.hid fun (w : World) => laws_szIntS C m d (l - n - z) w (by omega) (by omega) hcm
  have hL : leftOf l (lsz st) = leftOf (l - n - z) m := by unfold leftOf; rw [hls]; split <;> split <;> omega
  rw [hL]
  have hL2 : leftOf (l - n - z) m = -1 ∨ 0 ≤ leftOf (l - n - z) m := by unfold leftOf; split <;> omega
  generalize leftOf (l - n - z) m = L at *
  have hq1 : ¬ l - n < 0 := by omega
  have hq2 : ¬ l - n - z < 0 := by omega
  clear h hn he hc hp hL hls hz
  rcases hL2 with rfl | hL2
  all_goals
    go_enter Tryz.func9, Tryz.ntmps9
    go_wp2_with fail
    refine (HC1.out _).mono ?_
    rintro e w1 ⟨rfl, hb⟩
    have q1 : w1.cell? ⟨w.heap.size, 1, none⟩ = some (.slice E en ec) := (hb.cell (p := ⟨w.heap.size, 1, none⟩) (by simp)).trans (by go_simp)
    have q1b : w1.cell? ⟨w.heap.size, 2, none⟩ = some (.slice C m d) := (hb.cell (p := ⟨w.heap.size, 2, none⟩) (by simp)).trans (by go_simp)
    have hs1 : w.heap.size < w1.heap.size := by have := hb.size; simp at this; omega
    go_wp2_with fail
    refine (HC2.out _ (by omega) ((H.out.alloc hB _).below hb (by simp; omega))).mono ?_
    rintro e w2 ⟨rfl, hb2⟩
    have q2 : w2.cell? ⟨w.heap.size, 2, none⟩ = some (.slice C m d) := (hb2.cell (p := ⟨w.heap.size, 2, none⟩) (by show w.heap.size < w1.heap.size; omega)).trans q1b
    have hB2 := (((Below.refl w.heap.size w).alloc (Nat.le_refl _) (.cells #[.slice A n c, .slice E en ec, .slice C m d] 28)).trans (hb.mono (by simp))).trans (hb2.mono (by omega))
    go_wp2_with fail
    refine (HC3.out _).mono ?_
    rintro e w3 ⟨rfl, hb3⟩
    go_wp2
    go_ret
    exact ⟨rfl, hB2.trans (hb3.mono hB2.size)⟩
set_option maxHeartbeats 1600000 in
theorem laws_eqLazy (A E C A' E' C' : Option Addr) (n c en ec m d n' c' en' ec' m' d' : Nat) (st st' : Lz) (w : World) (B : Nat) (hB : B ≤ w.heap.size) (hn : n = st.vs.length) (he : en = st.rs.length) (hm : m = st.cs.length) (hn' : n' = st'.vs.length) (he' : en' = st'.rs.length) (hm' : m' = st'.cs.length) (h : LS3 w B A E C st) (h' : LS3 w B A' E' C' st') (hb1 : LB st) (hb2 : LB st') :
    Calls Tryz.prog 14 #[.agg #[.slice A n c, .slice E en ec, .slice C m d], .agg #[.slice A' n' c', .slice E' en' ec', .slice C' m' d']] w fun e w' => e = .returned (.bool (decide (st = st'))) ∧ Below w.heap.size w w' := by
  have hd : decide (st = st') = (decide (st.vs = st'.vs) && (decide (st.rs = st'.rs) && decide (st.cs = st'.cs))) := by
    obtain ⟨a, b, k⟩ := st
    obtain ⟨a', b', k'⟩ := st'
    by_cases h1 : a = a' <;> by_cases h2 : b = b' <;> by_cases h3 : k = k' <;> simp [h1, h2, h3]
  rw [hd]
  have HC1 := Lib.hid fun (w : World) (hB : B ≤ w.heap.size) (h : IS w B A st.vs) (h' : IS w B A' st'.vs) => laws_eqIntS A A' n n' c c' st.vs st'.vs w B hB hn hn' h h' (by have := hb1.1; omega) (by have := hb2.1; omega)
  have HC2 := Lib.hid fun (w : World) (hB : B ≤ w.heap.size) (h : SS w B E st.rs) (h' : SS w B E' st'.rs) => laws_eqIntSS E E' en en' ec ec' st.rs st'.rs w B hB he he' h h' hb1.2.1 hb2.2.1
  have HC3 := Lib.hid fun (w : World) (hB : B ≤ w.heap.size) (h : IS w B C st.cs) (h' : IS w B C' st'.cs) => laws_eqIntS C C' m m' d d' st.cs st'.cs w B hB hm hm' h h' (by have := hb1.2.2.2.2.2; omega) (by have := hb2.2.2.2.2.2; omega)
  have HA := Lib.hid ((h.alloc hB (.cells #[.slice A n c, .slice E en ec, .slice C m d] 31)).alloc (by simp; omega) (.cells #[.slice A' n' c', .slice E' en' ec', .slice C' m' d'] 31))
  have HA' := Lib.hid ((h'.alloc hB (.cells #[.slice A n c, .slice E en ec, .slice C m d] 31)).alloc (by simp; omega) (.cells #[.slice A' n' c', .slice E' en' ec', .slice C' m' d'] 31))
  have hB0 : Below w.heap.size w ((w.alloc (.cells #[.slice A n c, .slice E en ec, .slice C m d] 31)).alloc (.cells #[.slice A' n' c', .slice E' en' ec', .slice C' m' d'] 31)) := ((Below.refl _ _).alloc (Nat.le_refl _) _).alloc (by simp) _
  generalize decide (st.vs = st'.vs) = b1 at *
  generalize decide (st.rs = st'.rs) = b2 at *
  generalize decide (st.cs = st'.cs) = b3 at *
  clear hd hn he hm hn' he' hm' h h' hb1 hb2
  cases b1
  · go_enter Tryz.func14, Tryz.ntmps14
    go_wp2_with fail
    refine (HC1.out _ (by simp; omega) HA.out.1 HA'.out.1).mono ?_
    rintro e w1 ⟨rfl, hb⟩
    go_wp2
    go_ret
    exact ⟨rfl, hB0.trans (hb.mono hB0.size)⟩
  · cases b2
    · go_enter Tryz.func14, Tryz.ntmps14
      go_wp2_with fail
      refine (HC1.out _ (by simp; omega) HA.out.1 HA'.out.1).mono ?_
      rintro e w1 ⟨rfl, hb⟩
      have q1 : w1.cell? ⟨w.heap.size, 1, none⟩ = some (.slice E en ec) := (hb.cell (p := ⟨w.heap.size, 1, none⟩) (by simp; omega)).trans (by go_simp)
      have q2 : w1.cell? ⟨w.heap.size + 1, 1, none⟩ = some (.slice E' en' ec') := (hb.cell (p := ⟨w.heap.size + 1, 1, none⟩) (by simp)).trans (by go_simp)
      have HS := Lib.hid (HA.out.2.1.below hb (by simp; omega))
      have HS' := Lib.hid (HA'.out.2.1.below hb (by simp; omega))
      have hB1 := hB0.trans (hb.mono hB0.size)
      go_wp2_with fail
      refine (HC2.out _ (Nat.le_trans hB hB1.size) HS.out HS'.out).mono ?_
      rintro e w2 ⟨rfl, hb2⟩
      go_wp2
      go_ret
      exact ⟨rfl, hB1.trans (hb2.mono hB1.size)⟩
    · cases b3
      all_goals
        go_enter Tryz.func14, Tryz.ntmps14
        go_wp2_with fail
        refine (HC1.out _ (by simp; omega) HA.out.1 HA'.out.1).mono ?_
        rintro e w1 ⟨rfl, hb⟩
        have q1 : w1.cell? ⟨w.heap.size, 1, none⟩ = some (.slice E en ec) := (hb.cell (p := ⟨w.heap.size, 1, none⟩) (by simp; omega)).trans (by go_simp)
        have q2 : w1.cell? ⟨w.heap.size + 1, 1, none⟩ = some (.slice E' en' ec') := (hb.cell (p := ⟨w.heap.size + 1, 1, none⟩) (by simp)).trans (by go_simp)
        have q3 : w1.cell? ⟨w.heap.size, 2, none⟩ = some (.slice C m d) := (hb.cell (p := ⟨w.heap.size, 2, none⟩) (by simp; omega)).trans (by go_simp)
        have q4 : w1.cell? ⟨w.heap.size + 1, 2, none⟩ = some (.slice C' m' d') := (hb.cell (p := ⟨w.heap.size + 1, 2, none⟩) (by simp)).trans (by go_simp)
        have HS := Lib.hid (HA.out.2.1.below hb (by simp; omega))
        have HS' := Lib.hid (HA'.out.2.1.below hb (by simp; omega))
        have HT := Lib.hid (HA.out.2.2.below hb (by simp; omega))
        have HT' := Lib.hid (HA'.out.2.2.below hb (by simp; omega))
        have hB1 := hB0.trans (hb.mono hB0.size)
        have hs1 : w.heap.size + 2 ≤ w1.heap.size := by have := hb.size; simp at this; omega
        go_wp2_with fail
        refine (HC2.out _ (Nat.le_trans hB hB1.size) HS.out HS'.out).mono ?_
        rintro e w2 ⟨rfl, hb2⟩
        have q5 := (hb2.cell (p := ⟨w.heap.size, 2, none⟩) (by show w.heap.size < w1.heap.size; omega)).trans q3
        have q6 := (hb2.cell (p := ⟨w.heap.size + 1, 2, none⟩) (by show w.heap.size + 1 < w1.heap.size; omega)).trans q4
        have hB2 := hB1.trans (hb2.mono hB1.size)
        have HT2 := Lib.hid (HT.out.below hb2 (Nat.le_trans hB hB1.size))
        have HT2' := Lib.hid (HT'.out.below hb2 (Nat.le_trans hB hB1.size))
        go_wp2_with fail
        refine (HC3.out _ (Nat.le_trans hB hB2.size) HT2.out HT2'.out).mono ?_
        rintro e w3 ⟨rfl, hb3⟩
        go_wp2
        go_ret
        exact ⟨rfl, hB2.trans (hb3.mono hB2.size)⟩
end Go.Proofs.YtlcpgbbpjnkihaaGreat

namespace Go.Proofs.YtlcpgbbpjnkihaaGreat
set_option linter.unusedSimpArgs false
set_option linter.unusedVariables false
open Go.RowKit
/-- The three cells of a box. -/
structure Bx3 (b : Nat) (x y z : Value) (w : World) : Prop where
  lt : b < w.heap.size
  c0 : w.cell? ⟨b, 0, none⟩ = some x
  c1 : w.cell? ⟨b, 1, none⟩ = some y
  c2 : w.cell? ⟨b, 2, none⟩ = some z
  f : ∀ j, w.frozen? ⟨b, j, none⟩ = false
theorem Bx3.step {b : Nat} {x y z : Value} {w w' : World} {C : Nat} (h : Bx3 b x y z w) (hb : Below C w w') (hC : b < C) : Bx3 b x y z w' :=
  ⟨Nat.lt_of_lt_of_le h.lt hb.size, (hb.cell (p := ⟨b, 0, none⟩) hC).trans h.c0, (hb.cell (p := ⟨b, 1, none⟩) hC).trans h.c1, (hb.cell (p := ⟨b, 2, none⟩) hC).trans h.c2, fun j => (hb.frozen (p := ⟨b, j, none⟩) hC).trans (h.f j)⟩
theorem Bx3.other {b g j : Nat} {x y z u : Value} {w : World} (h : Bx3 b x y z w) (hg : b ≠ g) : Bx3 b x y z (w.setCell ⟨g, j, none⟩ u) := by
  have k (i : Nat) : (w.setCell ⟨g, j, none⟩ u).cell? ⟨b, i, none⟩ = w.cell? ⟨b, i, none⟩ := World.cell?_setCell_other _ _ _ _ (by intro e; cases e; exact hg rfl)
  exact ⟨by simpa [World.setCell] using h.lt, (k 0).trans h.c0, (k 1).trans h.c1, (k 2).trans h.c2, fun i => (World.frozen?_setCell _ _ _ _).trans (h.f i)⟩
theorem Bx3.set0 {b : Nat} {x y z u : Value} {w : World} (h : Bx3 b x y z w) : Bx3 b u y z (w.setCell ⟨b, 0, none⟩ u) :=
  ⟨by simpa [World.setCell] using h.lt, World.cell?_setCell_same _ _ _ h.c0, (World.cell?_setCell_other _ _ _ _ (by simp)).trans h.c1, (World.cell?_setCell_other _ _ _ _ (by simp)).trans h.c2, fun i => (World.frozen?_setCell _ _ _ _).trans (h.f i)⟩
theorem Bx3.set1 {b : Nat} {x y z u : Value} {w : World} (h : Bx3 b x y z w) : Bx3 b x u z (w.setCell ⟨b, 1, none⟩ u) :=
  ⟨by simpa [World.setCell] using h.lt, (World.cell?_setCell_other _ _ _ _ (by simp)).trans h.c0, World.cell?_setCell_same _ _ _ h.c1, (World.cell?_setCell_other _ _ _ _ (by simp)).trans h.c2, fun i => (World.frozen?_setCell _ _ _ _).trans (h.f i)⟩
theorem box3_start (w : World) (x y z : Value) (t : TypeId) : Bx3 w.heap.size x y z (w.alloc (.cells #[x, y, z] t)) :=
  ⟨by simp, by go_simp, by go_simp, by go_simp, fun j => by go_simp⟩
theorem Bx3.alloc {b : Nat} {x y z : Value} {w : World} (h : Bx3 b x y z w) (o : Obj) : Bx3 b x y z (w.alloc o) := h.step ((Below.refl w.heap.size w).alloc (Nat.le_refl _) o) h.lt
set_option maxRecDepth 100000 in
set_option maxHeartbeats 1600000 in
theorem laws_toLazy (A E C : Option Addr) (n c en ec m d : Nat) (st : Lz) (w : World) (B : Nat) (hB : B ≤ w.heap.size) (hn : n = st.vs.length) (he : en = st.rs.length) (hm : m = st.cs.length) (h : LS3 w B A E C st) (hb : LB st) :
    Calls Tryz.prog 12 #[.agg #[.slice A n c, .slice E en ec, .slice C m d]] w fun e w' => RetL w st e w' := by
  have hn1 : n ≤ 2000000 := by have := hb.1; omega
  have hm1 : m ≤ 2000000 := by have := hb.2.2.2.2.2; omega
  have HC1 := Lib.hid fun (w : World) (hB : B ≤ w.heap.size) (h : IS w B A st.vs) => laws_toIntS A n c st.vs w B hB hn h hn1
  have HC2 := Lib.hid fun (w : World) (hB : B ≤ w.heap.size) (h : SS w B E st.rs) => laws_toIntSS E en ec st.rs w B hB he h hb.2.1
  have HC3 := Lib.hid fun (w : World) (hB : B ≤ w.heap.size) (h : IS w B C st.cs) => laws_toIntS C m d st.cs w B hB hm h hm1
  have HN := Lib.hid hn
  have HE := Lib.hid he
  have HM := Lib.hid hm
  have HL := Lib.hid ((((h.alloc hB (.cells #[.slice A n c, .slice E en ec, .slice C m d] 28)).alloc (by simp; omega) (.cells #[.slice none 0 0, .slice none 0 0, .slice none 0 0] 31)).alloc (by simp; omega) (.cells #[.slice none 0 0, .slice none 0 0, .slice none 0 0] 31)))
  have hB0 : Below w.heap.size w (((w.alloc (.cells #[.slice A n c, .slice E en ec, .slice C m d] 28)).alloc (.cells #[.slice none 0 0, .slice none 0 0, .slice none 0 0] 31)).alloc (.cells #[.slice none 0 0, .slice none 0 0, .slice none 0 0] 31)) := (((Below.refl _ _).alloc (Nat.le_refl _) _).alloc (by simp) _).alloc (by simp; omega) _
  have X0 := Lib.hid (((box3_start w (.slice A n c) (.slice E en ec) (.slice C m d) 28).alloc (.cells #[.slice none 0 0, .slice none 0 0, .slice none 0 0] 31)).alloc (.cells #[.slice none 0 0, .slice none 0 0, .slice none 0 0] 31))
  have X1 := Lib.hid ((box3_start (w.alloc (.cells #[.slice A n c, .slice E en ec, .slice C m d] 28)) (.slice none 0 0) (.slice none 0 0) (.slice none 0 0) 31).alloc (.cells #[.slice none 0 0, .slice none 0 0, .slice none 0 0] 31))
  have X2 := Lib.hid (box3_start ((w.alloc (.cells #[.slice A n c, .slice E en ec, .slice C m d] 28)).alloc (.cells #[.slice none 0 0, .slice none 0 0, .slice none 0 0] 31)) (.slice none 0 0) (.slice none 0 0) (.slice none 0 0) 31)
  clear hn he hm h hb
  go_enter Tryz.func12, Tryz.ntmps12
  go_wp2_with fail
  generalize hW0 : (((w.alloc (.cells #[.slice A n c, .slice E en ec, .slice C m d] 28)).alloc (.cells #[.slice none 0 0, .slice none 0 0, .slice none 0 0] 31)).alloc (.cells #[.slice none 0 0, .slice none 0 0, .slice none 0 0] 31)) = W0 at *
  have hw0 : W0.heap.size = w.heap.size + 3 := by rw [← hW0]; simp
  have hw0a : w.heap.size + 3 ≤ W0.heap.size := by omega
  have hw0b : W0.heap.size ≤ w.heap.size + 3 := by omega
  clear hW0 hw0
  refine (HC1.out W0 (Nat.le_trans hB hB0.size) HL.out.1).mono ?_
  rintro e w1 ⟨rfl, ho1, hb1⟩
  simp only [World.size_alloc] at X1 X2
  have hs1 := hb1.size
  have Y0 := Lib.hid (X0.out.step hb1 (by omega))
  have Y1 := Lib.hid (X1.out.step hb1 (by omega))
  have Y2 := Lib.hid (X2.out.step hb1 (by omega))
  have hlt1 : W0.heap.size < w1.heap.size := (ho1.lt _ rfl).2
  have c1 := Y0.out.c1
  have d0 := Y2.out.c0
  have d1 := Y2.out.f 0
  obtain ⟨V1, hV1⟩ : ∃ V : Value, V = .slice (some ⟨W0.heap.size, 0, none⟩) n n := ⟨_, rfl⟩
  obtain ⟨w2, hw2⟩ : ∃ w2 : World, w2 = w1.setCell ⟨w.heap.size + 1 + 1, 0, none⟩ V1 := ⟨_, rfl⟩
  have hs2 : w2.heap.size = w1.heap.size := by rw [hw2]; simp [World.setCell]
  have hbA : Below w.heap.size w w2 := by rw [hw2]; exact (hB0.trans (hb1.mono (by omega))).setCell (by simp; omega) _
  have HL2 := Lib.hid (show LS3 w2 B A E C st from by rw [hw2]; exact (HL.out.below hb1 (by omega)).setCell (by omega) _)
  have Z0 := Lib.hid (show Bx3 _ _ _ _ w2 from by rw [hw2]; exact Y0.out.other (by omega))
  have Z1 := Lib.hid (show Bx3 _ _ _ _ w2 from by rw [hw2]; exact Y1.out.other (by omega))
  have Z2 := Lib.hid (show Bx3 _ V1 _ _ w2 from by rw [hw2]; exact Y2.out.set0)
  have ho2 := ownsRow_setCell_below ho1 (a := ⟨w.heap.size + 1 + 1, 0, none⟩) (by simp; omega) V1
  rw [← hw2] at ho2
  have HO := Lib.hid ho2
  have HV := Lib.hid hV1
  have HB2 := Lib.hid hbA
  have hw2' : w.heap.size + 3 ≤ w2.heap.size := by omega
  have hlt2 : W0.heap.size < w2.heap.size := by omega
  clear hb1 ho1 ho2 X0 X1 X2 Y0 Y1 Y2 HL HC1 hbA
  go_wp2_with fail
  rw [← hV1, ← hw2]
  clear hw2 hV1 c1 d0 d1
  refine (HC2.out w2 (by omega) HL2.out.2.1).mono ?_
  rintro e w3 ⟨v3, rfl, ho3, hb3⟩
  rw [← HE.out] at ho3
  obtain ⟨A3, c3, rfl⟩ := ho3.form
  have hs3 := hb3.size
  have Y0 := Lib.hid (Z0.out.step hb3 (by omega))
  have Y1 := Lib.hid (Z1.out.step hb3 (by omega))
  have Y2 := Lib.hid (Z2.out.step hb3 (by omega))
  have c2 := Y0.out.c2
  have d0 := Y2.out.c1
  have d1 := Y2.out.f 1
  obtain ⟨V3, hV3⟩ : ∃ V : Value, V = .slice A3 en c3 := ⟨_, rfl⟩
  obtain ⟨w4, hw4⟩ : ∃ w4 : World, w4 = w3.setCell ⟨w.heap.size + 1 + 1, 1, none⟩ V3 := ⟨_, rfl⟩
  have hs4 : w4.heap.size = w3.heap.size := by rw [hw4]; simp [World.setCell]
  have HB4 : Hid (Below w.heap.size w w4) := by rw [hw4]; exact (HB2.out.trans (hb3.mono (by omega))).setCell (by simp; omega) _
  have HL4 := Lib.hid (show LS3 w4 B A E C st from by rw [hw4]; exact (HL2.out.below hb3 (by omega)).setCell (by omega) _)
  have Q0 := Lib.hid (show Bx3 _ _ _ _ w4 from by rw [hw4]; exact Y0.out.other (by omega))
  have Q1 := Lib.hid (show Bx3 _ _ _ _ w4 from by rw [hw4]; exact Y1.out.other (by omega))
  have Q2 := Lib.hid (show Bx3 _ V1 V3 _ w4 from by rw [hw4]; exact Y2.out.set1)
  have ho4 := ownsRow_setCell_below (own_below HO.out hb3) (a := ⟨w.heap.size + 1 + 1, 1, none⟩) (by simp; omega) V3
  rw [← hw4] at ho4
  have ho4s : OwSS w2.heap.size w3.heap.size (.slice A3 en c3) en st.rs w4 := by rw [hw4]; exact OwSS.loc _ _ _ _ _ _ _ ho3 fun k hk _ => Below.heap_setCell _ _ _ _ (by simp; omega)
  have HO4 := Lib.hid ho4
  have HS4 := Lib.hid ho4s
  have HV3 := Lib.hid hV3
  clear hb3 ho3 ho4 ho4s Y0 Y1 Y2 Z0 Z1 Z2 HL2 HC2 HO HB2
  go_wp2_with fail
  rw [← hV3, ← hw4]
  clear hw4 hV3 c2 d0 d1
  refine (HC3.out w4 (by omega) HL4.out.2.2).mono ?_
  rintro e w5 ⟨rfl, ho5, hb5⟩
  have hs5 := hb5.size
  have R1 := Lib.hid (Q1.out.step hb5 (by omega))
  have R2 := Lib.hid (Q2.out.step hb5 (by omega))
  have d0 := R2.out.c0
  have d1 := R2.out.c1
  have d2 := R2.out.c2
  have f2 := R2.out.f 2
  have e0 := R1.out.c0
  have e1 := R1.out.c1
  have e2 := R1.out.c2
  have g0 := R1.out.f 0
  have g1 := R1.out.f 1
  have g2 := R1.out.f 2
  rw [HV.out] at d0
  rw [HV3.out] at d1
  have hlt5 := ho5.lt _ rfl
  have HOL : Hid (OwL (w.heap.size + 1 + 1 + 1) w5.heap.size (some ⟨W0.heap.size, 0, none⟩) n n A3 en c3 (some ⟨w4.heap.size, 0, none⟩) m m st w5) := by
    have r1 := own_below HO4.out hb5
    try rw [HV.out] at r1
    have r2 := OwSS.loc _ _ _ _ _ _ _ HS4.out fun k _ hk => hb5.block k (by omega)
    refine OwL.join (mid := w2.heap.size) (mid2 := w4.heap.size) ⟨own_mono r1 (by omega), fun k hk => by cases hk; exact hlt2⟩ HN.out (by rw [hs4]; exact r2) ⟨ho5, fun k hk => (ho5.lt k hk).2⟩ HM.out (by omega) (by omega) hs5
  have HB5 := Lib.hid (HB4.out.trans (hb5.mono (by omega)))
  clear hb5 ho5 Q0 Q1 Q2 R1 R2 HL4 HC3 HO4 HS4 HB4 hlt5
  go_wp2
  refine bodyPost_ret (v := .agg #[.slice (some ⟨W0.heap.size, 0, none⟩) n n, .slice A3 en c3, .slice (some ⟨w4.heap.size, 0, none⟩) m m]) (by simp [results, Tryz.results12, go_sem, d0, d1, d2, e0, e1, e2]) rfl ?_
  have o1 := HOL.out.setCell (a := ⟨w.heap.size + 1 + 1, 2, none⟩) (by simp) (.slice (some ⟨w3.heap.size, 0, none⟩) m m)
  have o2 := o1.setCell (a := ⟨w.heap.size + 1, 0, none⟩) (by simp) (.slice (some ⟨W0.heap.size, 0, none⟩) n n)
  have o3 := o2.setCell (a := ⟨w.heap.size + 1, 1, none⟩) (by simp) (.slice A3 en c3)
  have o4 := o3.setCell (a := ⟨w.heap.size + 1, 2, none⟩) (by simp) (.slice (some ⟨w3.heap.size, 0, none⟩) m m)
  refine ⟨_, _, _, _, _, _, _, _, _, rfl, ?_, (((HB5.out.setCell (by simp; omega) _).setCell (by simp) _).setCell (by simp) _).setCell (by simp) _⟩
  refine o4.mono (lo' := w.heap.size) (by omega) ?_
  simp [World.setCell]
set_option maxRecDepth 100000 in
set_option maxHeartbeats 1600000 in
theorem mark_lazy (lo hi : Nat) (A : Option Addr) (n c : Nat) (E : Option Addr) (en ec : Nat) (C : Option Addr) (m d : Nat) (st : Lz) (k : Int) (w : World) (h : As lo hi (OwL lo hi A n c E en ec C m d st) w) (hb : LB st) (hk : 0 ≤ k) (hk' : k ≤ 562949953421312) :
    Calls Tryz.prog 17 #[.agg #[.slice A n c, .slice E en ec, .slice C m d], .int .i64 k] w fun e w' => MkS lo hi (MkL lo hi A n c E en ec C m d st k) w (k + (((rowsL st).map List.length).sum : Nat)) e w' := by
  have h2 := h.alloc (.cells #[.slice A n c, .slice E en ec, .slice C m d] 31)
  have hle0 := h.le
  obtain ⟨hn, hen, hm, us, hr, hss⟩ := h2.it
  have hul : us.length = en := by have := hr.1.1; omega
  have hr0 : OwR lo hi 3 1 (.slice A n c) n (st.vs.map (Value.int .i64)) (w.alloc (.cells #[.slice A n c, .slice E en ec, .slice C m d] 31)) := h2.it.row0
  have hn1 : n ≤ 2000000 := by have := hb.1; omega
  have hm1 : m ≤ 2000000 := by have := hb.2.2.2.2.2; omega
  have HM0 := Lib.hid (laws_markIntS lo n _ _ k _ hr0.1 hk (by omega) hn1)
  have hrl : (rowsL st).length = 1 + en + 1 := by unfold rowsL; simp; omega
  have hsum : ((rowsL st).map List.length).sum = offOf (rowsL st) (1 + en) + m := by
    have h1 := offOf_succ (rowsL st) (1 + en) (by omega)
    rw [← offOf_all, hrl, h1]
    have : lenOf (rowsL st) (1 + en) = m := by unfold lenOf; rw [Nat.add_comm, hen, rowsL_last, hm]
    omega
  have hoff1 : offOf (rowsL st) 1 = n := by unfold offOf rowsL; simp [hn]
  have hin0 := hss.congr (cont' := mkTo (rowsL st) k 0) (fun j _ => by rw [mkTo_zero])
  have hidx : ∀ j, j < en → (Value.slice A n c :: (us ++ [.slice C m d]))[1 + j]? = us[j]? := fun j hj => by rw [Nat.add_comm, List.getElem?_cons_succ, List.getElem?_append_left (by omega)]
  have hidl : (Value.slice A n c :: (us ++ [.slice C m d]))[1 + en]? = some (.slice C m d) := by rw [Nat.add_comm, List.getElem?_cons_succ, ← hul]; simp
  have hvl : (Value.slice A n c :: (us ++ [.slice C m d])).length = (rowsL st).length := by rw [hrl]; simp; omega
  have hlenl : m = lenOf (rowsL st) (1 + en) := by unfold lenOf; rw [Nat.add_comm, hen, rowsL_last, hm]
  have HIN0 := Lib.hid hin0
  have HR := Lib.hid hr
  have HSUM := Lib.hid hsum
  have HOFF := Lib.hid hoff1
  have HN := Lib.hid hn
  have HEN := Lib.hid hen
  have HM := Lib.hid hm
  have HLB := Lib.hid hb
  have HIDX := Lib.hid hidx
  have HIDL := Lib.hid hidl
  have HVL := Lib.hid hvl
  have HLL := Lib.hid hlenl
  have HRL := Lib.hid hrl
  have hl0 : n = lenOf (rowsL st) 0 := by unfold lenOf rowsL; simp [hn]
  have HL0 := Lib.hid hl0
  have hoffb : (offOf (rowsL st) (1 + en) : Int) + m ≤ 1048576 := by have := hb.2.2.2.2.1; omega
  clear h hr hss hin0 hsum hoff1 hn hen hm hb hul hr0 h2 hidx hidl hvl hlenl hrl hl0
  go_enter Tryz.func17, Tryz.ntmps17
  go_wp2_with fail
  refine HM0.out.mono ?_
  rintro e w1 hmk
  have he := hmk.1
  have HS1 := Lib.hid (HIN0.out.mark (J := 0) (A := A) (m := n) (c := c) rfl HL0.out (by simpa [offOf] using hmk))
  have HR1 : Hid (OwR lo hi 25 1 (.slice E en ec) en us w1) := by
    obtain ⟨A0, m0, c0, r1, _, r3⟩ := HIN0.out.row 0 (by simp)
    simp only [List.getElem?_cons_zero, Option.some.injEq, Value.slice.injEq] at r1
    obtain ⟨rfl, rfl, rfl⟩ := r1
    exact ⟨HR.out.1.kept hmk.2.2 (blocks_ne HR.out.1 r3.1 ints_ne_int.symm), HR.out.2⟩
  have HT1 : Hid (Tch lo hi w w1) := (Tch.of_below ((Below.refl _ _).alloc (Nat.le_refl _) _)).trans (Tch.of_grown hmk.2.2 fun q hq => HIN0.out.lt 0 _ q rfl hq)
  have hbx : w1.heap[w.heap.size]? = (w.alloc (.cells #[.slice A n c, .slice E en ec, .slice C m d] 31)).heap[w.heap.size]? := hmk.2.2.block w.heap.size (by simp) fun hq => by
    have hx := HIN0.out.lt 0 _ w.heap.size rfl hq.symm
    omega
  have q1 : w1.cell? ⟨w.heap.size, 1, none⟩ = some (.slice E en ec) := (World.cell?_of_block (a := ⟨w.heap.size, 1, none⟩) hbx).trans (by go_simp)
  have q2 : w1.cell? ⟨w.heap.size, 2, none⟩ = some (.slice C m d) := (World.cell?_of_block (a := ⟨w.heap.size, 2, none⟩) hbx).trans (by go_simp)
  have hw1 : w.heap.size < w1.heap.size := by have := hmk.2.2.size; simp at this; omega
  rw [Nat.mul_one] at he
  subst he
  clear hmk HM0 HIN0 HR hbx
  have HC := Lib.hid (laws_markRows lo hi en 1 (.slice E en ec) us (.slice A n c :: (us ++ [.slice C m d])) (rowsL st) k (k + n) w1 (by rw [HOFF.out]) HR1.out HIDX.out HVL.out (by rw [HRL.out]; omega) HS1.out HLB.out.2.2.1 HLB.out.2.2.2.2.1 hk hk')
  go_wp2_with fail
  refine HC.out.mono ?_
  rintro e w2 ⟨he, hr2, hs2, ht2⟩
  subst he
  have HR2 := Lib.hid hr2
  have HS2 := Lib.hid hs2
  have HT2 := Lib.hid (HT1.out.trans ht2)
  have q3 : w2.cell? ⟨w.heap.size, 2, none⟩ = some (.slice C m d) := (World.cell?_of_block (a := ⟨w.heap.size, 2, none⟩) (ht2.block w.heap.size hw1 (.inr hle0))).trans q2
  obtain ⟨A9, m9, c9, r1, r2, r3⟩ := hs2.row (1 + en) (by rw [HVL.out, HRL.out]; omega)
  rw [HIDL.out] at r1
  cases r1
  have HRC := Lib.hid r3.1
  clear hr2 hs2 ht2 HC r2 r3 HS1 HR1 HT1
  obtain ⟨o, ho⟩ : ∃ o : Nat, o = offOf (rowsL st) (1 + en) := ⟨_, rfl⟩
  have HO := Lib.hid ho
  rw [← ho] at hoffb
  rw [← ho]
  clear ho
  have HM2 := Lib.hid (laws_markIntS lo m _ _ (k + o) w2 HRC.out (by omega) (by omega) hm1)
  go_wp2_with fail
  refine HM2.out.mono ?_
  rintro e w3 hmk
  have he := hmk.1
  rw [HO.out] at hmk
  have HS3 := Lib.hid (HS2.out.mark (J := 1 + en) (A := C) (m := m) (c := d) HIDL.out HLL.out hmk)
  have HR3 : Hid (OwR lo hi 25 1 (.slice E en ec) en us w3) := ⟨HR2.out.1.kept hmk.2.2 (blocks_ne HR2.out.1 HRC.out ints_ne_int.symm), HR2.out.2⟩
  have HT3 : Hid (Tch lo hi w w3) := HT2.out.trans (Tch.of_grown hmk.2.2 fun q hq => HS2.out.lt (1 + en) _ q HIDL.out hq)
  rw [Nat.mul_one] at he
  subst he
  clear hmk HM2
  go_wp2
  go_ret
  refine ⟨ret_i (by rw [HSUM.out, HO.out]; omega), ⟨⟨HN.out, HEN.out, HM.out, us, HR3.out, HS3.out.congr fun j hj => ?_⟩, ?_, MkL.loc _ _ _ _ _ _ _ _ _ _ _ _ _⟩, HT3.out⟩
  · try unfold mkTo
    rw [if_pos (by rw [HVL.out, HRL.out] at hj; omega)]
  · have := HT3.out.size
    omega
end Go.Proofs.YtlcpgbbpjnkihaaGreat

namespace Go.Proofs.YtlcpgbbpjnkihaaGreat
set_option linter.unusedSimpArgs false
set_option linter.unusedVariables false
open Go.RowKit
section
variable {w w' : World} {B B' D lo hi n c en ec m d : Nat} {A E C : Option Addr} {e : Lz} {st : Lz}
theorem own_ncap {base e' size n c : Nat} {A : Option Addr} {xs : List Value} (h : w.ownsRow base e' size (.slice A n c) n xs) : n ≤ c := by
  rcases h.2 with ⟨hv, h0⟩ | ⟨g, cap, cur, hv, _, _, h1, _⟩
  · omega
  · simp only [Value.slice.injEq] at hv
    obtain ⟨_, _, rfl⟩ := hv
    exact h1
theorem OwSS.caps {xss : List (List Int)} (h : OwSS lo hi (.slice E n c) n xss w) : SC w E n := by
  obtain ⟨h0, us, h1, h2⟩ := h
  intro b off hE j hj A' m d hc
  subst hE
  have hul : us.length = n := by have := h1.1.1; omega
  obtain ⟨A'', m', c', r1, r2, r3⟩ := h2.row j (by omega)
  rcases h1.1.2 with ⟨hv, hz⟩ | ⟨g, cap, cur, hv, _⟩
  · omega
  · simp only [Value.slice.injEq, Option.some.injEq, Addr.mk.injEq, and_true, true_and] at hv
    obtain ⟨⟨rfl, rfl⟩, rfl⟩ := hv
    have h3 := h1.1.cellAt j (by omega)
    rw [Nat.zero_add, h3, r1] at hc
    cases hc
    exact own_ncap r3.1
theorem As.lazy4 (h : As lo hi (OwL lo hi A n c E en ec C m d st) w) : LS4 w w.heap.size A E C st := by
  refine ⟨h.lazy, ?_⟩
  have := h.it.lists.caps
  rw [h.it.2.1] at this
  exact this
end
set_option maxRecDepth 100000 in
set_option maxHeartbeats 1600000 in
theorem held_lazy (lo hi : Nat) (A : Option Addr) (n c : Nat) (E : Option Addr) (en ec : Nat) (C : Option Addr) (m d : Nat) (st : Lz) (k : Int) (w : World) (h : As lo hi (MkL lo hi A n c E en ec C m d st k) w) (hb : LB st) (hk : 0 ≤ k) (hk' : k ≤ 562949953421312) :
    Calls Tryz.prog 18 #[.agg #[.slice A n c, .slice E en ec, .slice C m d], .int .i64 k] w fun e w' => e = .returned (.int .i64 (k + (((rowsL st).map List.length).sum : Nat))) ∧ Below w.heap.size w w' := by
  have h2 := h.alloc (.cells #[.slice A n c, .slice E en ec, .slice C m d] 31)
  obtain ⟨hn, hen, hm, us, hr, hss⟩ := h2.it
  have hul : us.length = en := by have := hr.1.1; omega
  have hn1 : n ≤ 2000000 := by have := hb.1; omega
  have hm1 : m ≤ 2000000 := by have := hb.2.2.2.2.2; omega
  have hrl : (rowsL st).length = 1 + en + 1 := by unfold rowsL; simp; omega
  have hlenl : m = lenOf (rowsL st) (1 + en) := by unfold lenOf; rw [Nat.add_comm, hen, rowsL_last, hm]
  have hsum : ((rowsL st).map List.length).sum = offOf (rowsL st) (1 + en) + m := by
    have h1 := offOf_succ (rowsL st) (1 + en) (by omega)
    rw [← offOf_all, hrl, h1]
    omega
  have hoff1 : offOf (rowsL st) 1 = n := by unfold offOf rowsL; simp [hn]
  have hidx : ∀ j, j < en → (Value.slice A n c :: (us ++ [.slice C m d]))[1 + j]? = us[j]? := fun j hj => by rw [Nat.add_comm, List.getElem?_cons_succ, List.getElem?_append_left (by omega)]
  have hidl : (Value.slice A n c :: (us ++ [.slice C m d]))[1 + en]? = some (.slice C m d) := by rw [Nat.add_comm, List.getElem?_cons_succ, ← hul]; simp
  have hvl : (Value.slice A n c :: (us ++ [.slice C m d])).length = (rowsL st).length := by rw [hrl]; simp; omega
  have hr0 : OwR lo hi 3 1 (.slice A n c) n (mks k n) (w.alloc (.cells #[.slice A n c, .slice E en ec, .slice C m d] 31)) := by
    obtain ⟨A', m', c', r1, r2, r3⟩ := hss.row 0 (by simp)
    simp only [List.getElem?_cons_zero, Option.some.injEq, Value.slice.injEq] at r1
    obtain ⟨rfl, rfl, rfl⟩ := r1
    rw [← r2] at r3
    simpa [offOf] using r3
  have hrC : OwR lo hi 3 1 (.slice C m d) m (mks (k + offOf (rowsL st) (1 + en)) m) (w.alloc (.cells #[.slice A n c, .slice E en ec, .slice C m d] 31)) := by
    obtain ⟨A', m', c', r1, r2, r3⟩ := hss.row (1 + en) (by rw [hvl, hrl]; omega)
    rw [hidl] at r1
    cases r1
    rw [← hlenl] at r3
    exact r3
  have HM0 := Lib.hid (laws_heldIntS lo n _ k _ hr0.1 hk (by omega) hn1)
  have HRC := Lib.hid hrC
  have HSS := Lib.hid hss
  have HR := Lib.hid hr
  have HSUM := Lib.hid hsum
  have HOFF := Lib.hid hoff1
  have HEN := Lib.hid hen
  have HLB := Lib.hid hb
  have HIDX := Lib.hid hidx
  have HVL := Lib.hid hvl
  have HRL := Lib.hid hrl
  have hoffb : (offOf (rowsL st) (1 + en) : Int) + m ≤ 1048576 := by have := hb.2.2.2.2.1; omega
  clear h hr hss hsum hoff1 hn hen hm hb hul hr0 hrC h2 hidx hidl hvl hrl hlenl
  go_enter Tryz.func18, Tryz.ntmps18
  go_wp2_with fail
  refine HM0.out.mono ?_
  rintro e w1 ⟨rfl, hb⟩
  have q1 : w1.cell? ⟨w.heap.size, 1, none⟩ = some (.slice E en ec) := (hb.cell (p := ⟨w.heap.size, 1, none⟩) (by simp)).trans (by go_simp)
  have q2 : w1.cell? ⟨w.heap.size, 2, none⟩ = some (.slice C m d) := (hb.cell (p := ⟨w.heap.size, 2, none⟩) (by simp)).trans (by go_simp)
  have hnn : ¬ k + (n : Int) < 0 := by omega
  have hw1 : w.heap.size < w1.heap.size := by have := hb.size; simp at this; omega
  have HR1 : Hid (OwR lo hi 25 1 (.slice E en ec) en us w1) := ⟨own_below HR.out.1 hb, HR.out.2⟩
  have HS1 : Hid (SSk lo hi (.slice A n c :: (us ++ [.slice C m d])) (lenOf (rowsL st)) (fun j => mks (k + offOf (rowsL st) j) (lenOf (rowsL st) j)) w1) :=
    ⟨fun j hj => by obtain ⟨A', m, c', r1, r2, r3⟩ := HSS.out.row j hj; exact ⟨A', m, c', r1, r2, r3.step hb⟩, HSS.out.apart⟩
  have HC := Lib.hid (laws_heldRows lo hi en 1 (.slice E en ec) us (.slice A n c :: (us ++ [.slice C m d])) (rowsL st) k (k + n) w1 (by rw [HOFF.out]) HR1.out HIDX.out HVL.out (by rw [HRL.out]; omega) HS1.out HLB.out.2.2.1 HLB.out.2.2.2.2.1 hk hk')
  have HRC1 := Lib.hid (show OwR lo hi 3 1 (.slice C m d) m (mks (k + offOf (rowsL st) (1 + en)) m) w1 from ⟨own_below HRC.out.1 hb, HRC.out.2⟩)
  have HB1 := Lib.hid (((Below.refl w.heap.size w).alloc (Nat.le_refl _) (.cells #[.slice A n c, .slice E en ec, .slice C m d] 31)).trans (hb.mono (by simp)))
  clear hb HM0 HSS HR HR1 HS1 HRC
  go_wp2_with fail
  refine HC.out.mono ?_
  rintro e w2 ⟨he, hb2⟩
  subst he
  have q3 : w2.cell? ⟨w.heap.size, 2, none⟩ = some (.slice C m d) := (hb2.cell (p := ⟨w.heap.size, 2, none⟩) hw1).trans q2
  have HRC2 := Lib.hid (show OwR lo hi 3 1 (.slice C m d) m (mks (k + offOf (rowsL st) (1 + en)) m) w2 from ⟨own_below HRC1.out.1 hb2, HRC1.out.2⟩)
  have HB2 := Lib.hid (HB1.out.trans (hb2.mono (Nat.le_of_lt hw1)))
  obtain ⟨o, ho⟩ : ∃ o : Nat, o = offOf (rowsL st) (1 + en) := ⟨_, rfl⟩
  have HO := Lib.hid ho
  rw [← ho]
  rw [← ho] at HRC2 hoffb
  have ho' : ¬ k + (o : Int) < 0 := by omega
  clear ho hb2 HRC1 HB1 HC
  have HM2 := Lib.hid (laws_heldIntS lo m _ (k + o) w2 HRC2.out.1 (by omega) (by omega) hm1)
  go_wp2_with fail
  refine HM2.out.mono ?_
  rintro e w3 ⟨rfl, hb3⟩
  go_wp2
  go_ret
  exact ⟨ret_i (by rw [HSUM.out, HO.out]; omega), HB2.out.trans (hb3.mono HB2.out.size)⟩
theorem markw_lazy (lo hi : Nat) (A : Option Addr) (n c : Nat) (E : Option Addr) (en ec : Nat) (C : Option Addr) (m d : Nat) (st : Lz) (k : Int) (w : World) (h : As lo hi (OwL lo hi A n c E en ec C m d st) w) (hb : LB st) (hk : 0 ≤ k) (hk' : k ≤ 562949953421312) :
    Calls Tryz.prog 17 #[.agg #[.slice A n c, .slice E en ec, .slice C m d], .int .i64 k] w fun e w' => MkW lo hi w k (k + 6000000000000) e w' := by
  refine (mark_lazy lo hi A n c E en ec C m d st k w h hb hk hk').mono ?_
  rintro e w' ⟨he, _, ht⟩
  have := hb.2.2.2.2.1
  exact ⟨_, he, by omega, by omega, ht⟩
end Go.Proofs.YtlcpgbbpjnkihaaGreat

namespace Go.Proofs.YtlcpgbbpjnkihaaGreat
set_option linter.unusedSimpArgs false
set_option linter.unusedVariables false
open Go.RowKit
theorem Bx.as3 {b : Nat} {v u x : Value} {w : World} (h : Bx b [v, u, x] w) : As b (b + 1) (fun w' => w'.cell? ⟨b, 0, none⟩ = some v ∧ w'.cell? ⟨b, 1, none⟩ = some u ∧ w'.cell? ⟨b, 2, none⟩ = some x) w := ⟨⟨h.c 0 _ rfl, h.c 1 _ rfl, h.c 2 _ rfl⟩, h.lt, box3_loc _ _ _ _⟩
theorem Bx.tch {b : Nat} (w : World) (j : Nat) (u : Value) : Tch b (b + 1) w (w.setCell ⟨b, j, none⟩ u) := Tch.of_grown (grown_setCell0 w b j u) fun k hk => by cases hk; omega
end Go.Proofs.YtlcpgbbpjnkihaaGreat

namespace Go.Proofs.YtlcpgbbpjnkihaaGreat
set_option linter.unusedSimpArgs false
set_option linter.unusedVariables false
open Go.RowKit
-- WANT spec_validGraph spec_validCells impl_ValidCells spec_copyIntsA impl_copyOf OwL RetL nil join of_apart LB of_small okC okC_parts validG_parts validG validC Rw OwSS snoc nil setCell OwnI at_ form OwR of_own start keep mono step SSk put grown ne lt row apart GS IS at_ nodes below alloc more As mean_len box4_start RetI noCtx info_ints1 info_int info_parts own_form own_below own_mono cell_one_new made_rows cpTo lists blocks_ne ints_ne_int Tch Below bcell own_heap Bx3 other set0 set1 set2 box3_start loc SB SB2 rowsL lsz startF GB validC_parts okC_len colOK own_keep own_ncap drew
theorem Bx3.set2 {b : Nat} {x y z u : Value} {w : World} (h : Bx3 b x y z w) : Bx3 b x y u (w.setCell ⟨b, 2, none⟩ u) :=
  ⟨by simpa [World.setCell] using h.lt, (World.cell?_setCell_other _ _ _ _ (by simp)).trans h.c0, (World.cell?_setCell_other _ _ _ _ (by simp)).trans h.c1, World.cell?_setCell_same _ _ _ h.c2, fun i => (World.frozen?_setCell _ _ _ _).trans (h.f i)⟩
end Go.Proofs.YtlcpgbbpjnkihaaGreat

namespace Go.Proofs.YtlcpgbbpjnkihaaGreat
set_option linter.unusedSimpArgs false
set_option linter.unusedVariables false
open Go.RowKit
theorem Tch.set1 {g b : Nat} {w w1 : World} (h : Tch g (g + 1) w w1) (hb : w.heap.size ≤ b) (j : Nat) (x : Value) : Tch g (g + 1) w (w1.setCell ⟨b, j, none⟩ x) := by
  refine ⟨h.os, h.tape, h.output, by simpa [World.setCell] using h.size, fun k hk hr => ?_⟩
  exact (Below.heap_setCell _ _ _ _ (by show k ≠ b; omega)).trans (h.block k hk hr)
theorem Tch.set5 {g : Nat} {w w1 : World} {x0 x1 x2 x3 x4 : Value} (h : Tch g (g + 1) w w1) : Tch g (g + 1) w (((((w1.setCell ⟨w.heap.size, 0, none⟩ x0).setCell ⟨w.heap.size, 1, none⟩ x1).setCell ⟨w.heap.size, 2, none⟩ x2).setCell ⟨w.heap.size, 3, none⟩ x3).setCell ⟨w.heap.size, 4, none⟩ x4) :=
  ((((h.set1 (Nat.le_refl _) 0 x0).set1 (Nat.le_refl _) 1 x1).set1 (Nat.le_refl _) 2 x2).set1 (Nat.le_refl _) 3 x3).set1 (Nat.le_refl _) 4 x4
end Go.Proofs.YtlcpgbbpjnkihaaGreat

namespace Go.Proofs.YtlcpgbbpjnkihaaGreat
set_option linter.unusedSimpArgs false
set_option linter.unusedVariables false
open Go.RowKit
theorem PS.set0 {w : World} {B g : Nat} {A : Option Addr} {ps : List Pt} (h : PS w B A ps) (hne : ∀ b off, A = some ⟨b, off, none⟩ → b ≠ g) (j : Nat) (x : Value) : PS (w.setCell ⟨g, j, none⟩ x) B A ps := by
  intro hn
  obtain ⟨b, off, e, hb, hc⟩ := h hn
  have hbg := hne b off e
  have k : ∀ i : Nat, (w.setCell ⟨g, j, none⟩ x).cell? ⟨b, i, none⟩ = w.cell? ⟨b, i, none⟩ := fun i => World.cell?_setCell_other _ _ _ _ (by intro e; cases e; exact hbg rfl)
  refine ⟨b, off, e, hb, fun i hi => ?_⟩
  obtain ⟨a0, a1, a2, a3, a4⟩ := hc i hi
  exact ⟨(k _).trans a0, (k _).trans a1, (k _).trans a2, (k _).trans a3, (k _).trans a4⟩
theorem IS.set0 {w : World} {B g : Nat} {A : Option Addr} {xs : List Int} (h : IS w B A xs) (hne : ∀ b off, A = some ⟨b, off, none⟩ → b ≠ g) (j : Nat) (x : Value) : IS (w.setCell ⟨g, j, none⟩ x) B A xs := by
  intro hn
  obtain ⟨b, off, e, hb, hc⟩ := h hn
  have hbg := hne b off e
  exact ⟨b, off, e, hb, fun i hi => (World.cell?_setCell_other _ _ _ _ (by intro e; cases e; exact hbg rfl)).trans (hc i hi)⟩
end Go.Proofs.YtlcpgbbpjnkihaaGreat

namespace Go.Proofs.YtlcpgbbpjnkihaaGreat
set_option linter.unusedSimpArgs false
set_option linter.unusedVariables false
open Go.RowKit
theorem IS.tch {w w' : World} {B a b : Nat} {g : Nat} {xs : List Int} (h : IS w B (some ⟨g, 0, none⟩) xs) (ht : Tch a b w w') (hg : g < a ∨ b ≤ g) (hB : B ≤ w.heap.size) : IS w' B (some ⟨g, 0, none⟩) xs := by
  intro hn
  obtain ⟨b', off, e, hb, hc⟩ := h hn
  cases e
  exact ⟨g, 0, rfl, hb, fun j hj => (World.cell?_of_block (a := ⟨g, 0 + j, none⟩) (ht.block g (by omega) hg)).trans (hc j hj)⟩
end Go.Proofs.YtlcpgbbpjnkihaaGreat
