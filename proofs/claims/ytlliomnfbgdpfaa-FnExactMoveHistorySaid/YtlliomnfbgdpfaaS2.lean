/- Words and contracts for memory that the texts behind use. -/
import Derived.Test.YtlliomnfbgdpfaaS0
import Derived.Test.YtlliomnfbgdpfaaS1
import Derived.WalkKit
import Derived.Laws.OwnMore
import Derived.Deep.Draws
import Derived.Test.YtlliomnfbgdpfaaProg
import Derived.WalkSpells
import Derived.WalkLawsBesides
import Derived.Outline
import Derived.Lib.Hide
import Derived.BigQuiet
import Derived.Deep.QuietTactic
import Derived.StillTailTactics
import Derived.Deep.LoopGhost
import Derived.Laws.MakeOwn
import Derived.WalkSmall
import Derived.RegionTactic
import Derived.BigRegion
import Derived.Deep.RegionWith
import Derived.Deep.RegionHeld3
import Derived.Maps.AppendAt
import Derived.Laws.CopyOwn
import Derived.Test.YtlliomnfbgdpfaaRows
import Derived.ProofKit
import Derived.OpenShut
import Derived.ShutString
import Derived.ChangeOld
import Derived.Below
import Derived.Deep.Slices
import Derived.Deep.Fields

namespace Go.Proofs.Ytlliomnfbgdpfaa
set_option linter.unusedSimpArgs false
set_option linter.unusedVariables false
open Go.RowKit
/-- Five cells written one after the other. -/
def set5 (xs : List Value) (j : Nat) (p : Pt) : List Value :=
  ((((xs.set j (.int .i64 p.k)).set (j + 1) (.int .i64 p.a)).set (j + 2) (.int .i64 p.b)).set (j + 3) (.int .i64 p.c)).set (j + 4) (.int .i64 p.n)
theorem take_set5 (xs : List Value) (j : Nat) (p : Pt) (h : j + 5 ≤ xs.length) : (set5 xs j p).take (j + 5) = xs.take j ++ p.cells := by
  apply List.ext_getElem?
  intro i
  have hl : (xs.take j).length = j := by simp; omega
  rcases Nat.lt_or_ge i j with h1 | h1
  · rw [List.getElem?_append_left (by omega)]
    simp [set5, show i < j + 5 by omega, h1, show ¬ j = i by omega, show ¬ j + 1 = i by omega, show ¬ j + 2 = i by omega, show ¬ j + 3 = i by omega, show ¬ j + 4 = i by omega]
  · rw [List.getElem?_append_right (by omega), hl]
    obtain ⟨d, rfl⟩ : ∃ d, i = j + d := ⟨i - j, by omega⟩
    rw [Nat.add_sub_cancel_left]
    match d with
    | 0 => simp [set5, Pt.cells, List.getElem?_set]; omega
    | 1 => simp [set5, Pt.cells, List.getElem?_set]; omega
    | 2 => simp [set5, Pt.cells, List.getElem?_set]; omega
    | 3 => simp [set5, Pt.cells, List.getElem?_set]; omega
    | 4 => simp [set5, Pt.cells, List.getElem?_set]; omega
    | d + 5 => simp [Pt.cells]; omega
theorem own_set5 {w : World} {base e n cap g : Nat} {xs : List Value} (h : w.ownsRow base e 5 (.slice (some ⟨g, 0, none⟩) n cap) n xs) (j : Nat) (p : Pt) :
    (((((w.setCell ⟨g, j, none⟩ (.int .i64 p.k)).setCell ⟨g, j + 1, none⟩ (.int .i64 p.a)).setCell ⟨g, j + 2, none⟩ (.int .i64 p.b)).setCell ⟨g, j + 3, none⟩ (.int .i64 p.c)).setCell ⟨g, j + 4, none⟩ (.int .i64 p.n)).ownsRow base e 5 (.slice (some ⟨g, 0, none⟩) n cap) n (set5 xs j p) :=
  (((((h.stored j (.int .i64 p.k)).1.stored (j + 1) (.int .i64 p.a)).1.stored (j + 2) (.int .i64 p.b)).1.stored (j + 3) (.int .i64 p.c)).1.stored (j + 4) (.int .i64 p.n)).1
theorem below_set5 {B : Nat} {a w : World} (h : Below B a w) {g : Nat} (hg : B ≤ g) (j : Nat) (p : Pt) :
    Below B a (((((w.setCell ⟨g, j, none⟩ (.int .i64 p.k)).setCell ⟨g, j + 1, none⟩ (.int .i64 p.a)).setCell ⟨g, j + 2, none⟩ (.int .i64 p.b)).setCell ⟨g, j + 3, none⟩ (.int .i64 p.c)).setCell ⟨g, j + 4, none⟩ (.int .i64 p.n)) :=
  ((((h.setCell (p := ⟨g, j, none⟩) hg _).setCell (p := ⟨g, j + 1, none⟩) hg _).setCell (p := ⟨g, j + 2, none⟩) hg _).setCell (p := ⟨g, j + 3, none⟩) hg _).setCell (p := ⟨g, j + 4, none⟩) hg _
end Go.Proofs.Ytlliomnfbgdpfaa

namespace Go.Proofs.Ytlliomnfbgdpfaa
set_option linter.unusedSimpArgs false
set_option linter.unusedVariables false
open Go.RowKit
def eqPt (p q : Pt) : Bool := p.k == q.k && p.a == q.a && p.b == q.b && p.c == q.c && p.n == q.n
theorem eqPt_iff (p q : Pt) : eqPt p q = true ↔ p = q := by
  obtain ⟨a, b, c, d, e⟩ := p
  obtain ⟨a', b', c', d', e'⟩ := q
  simp [eqPt, and_assoc]
set_option maxHeartbeats 800000 in
theorem laws_eqPart (p q : Pt) (w : World) :
    Calls Try.prog 106 #[.agg #[.int .i64 p.k, .int .i64 p.a, .int .i64 p.b, .int .i64 p.c, .int .i64 p.n], .agg #[.int .i64 q.k, .int .i64 q.a, .int .i64 q.b, .int .i64 q.c, .int .i64 q.n]] w fun e w' => e = .returned (.bool (eqPt p q)) ∧ Below w.heap.size w w' := by
  obtain ⟨k, a, b, c, n⟩ := p
  obtain ⟨k', a', b', c', n'⟩ := q
  go_enter Try.func106, Try.ntmps106
  go_wp2
  all_goals
    go_ret
    refine ⟨ret_b ?_, ((Below.refl _ _).alloc (Nat.le_refl _) _).alloc (by simp) _⟩
    simp_all [eqPt, bne]
set_option maxRecDepth 100000 in
set_option maxHeartbeats 800000 in
theorem laws_eqPartS (A A' : Option Addr) (n n' c c' : Nat) (ps qs : List Pt) (w : World) (B : Nat) (hB : B ≤ w.heap.size) (hn : n = ps.length) (hn' : n' = qs.length) (h : PS w B A ps) (h' : PS w B A' qs) (hs : n ≤ 2000000) (hs' : n' ≤ 2000000) :
    Calls Try.prog 97 #[.slice A n c, .slice A' n' c'] w fun e w' => e = .returned (.bool (decide (ps = qs))) ∧ Below w.heap.size w w' := by
  by_cases hl : n = n'
  · have hne : ((n : Int) != (n' : Int)) = false := by simp [hl]
    have HL := Lib.hid hl
    have HN := Lib.hid hn
    have HN' := Lib.hid hn'
    have H := Lib.hid h
    have H' := Lib.hid h'
    clear hl hn hn' h h'
    go_enter Try.func97, Try.ntmps97
    go_wp2
    go_loopw [5] (fun i wr => ∃ k : Nat, k ≤ n ∧ i = .int .i64 k ∧ Hid (ps.take k = qs.take k) ∧ Below w.heap.size w wr) (fun i _ => n - (intOf i).toNat)
    case atStart => exact ⟨0, Nat.zero_le _, rfl, by simp [Hid], Below.refl _ _⟩
    case round =>
      obtain ⟨k, hk, rfl, HT, hb⟩ := hrel
      by_cases hlt : k < n
      · obtain ⟨b, off, rfl, hbB, hc⟩ := H.out (by have := HN.out; omega)
        obtain ⟨b', off', rfl, hbB', hc'⟩ := H'.out (by have := HN'.out; have := HL.out; omega)
        obtain ⟨c0, c1, c2, c3, c4⟩ := hc k (by have := HN.out; omega)
        obtain ⟨d0, d1, d2, d3, d4⟩ := hc' k (by have := HN'.out; have := HL.out; omega)
        clear hc hc' H H'
        have hlt' : k < n' := by have := HL.out; omega
        have b0 := (hb.cell (p := ⟨b, off + k * 5, none⟩) (by simp; omega)).trans c0
        have b1 := (hb.cell (p := ⟨b, off + k * 5 + 1, none⟩) (by simp; omega)).trans c1
        have b2 := (hb.cell (p := ⟨b, off + k * 5 + 2, none⟩) (by simp; omega)).trans c2
        have b3 := (hb.cell (p := ⟨b, off + k * 5 + 3, none⟩) (by simp; omega)).trans c3
        have b4 := (hb.cell (p := ⟨b, off + k * 5 + 4, none⟩) (by simp; omega)).trans c4
        have e0 := (hb.cell (p := ⟨b', off' + k * 5, none⟩) (by simp; omega)).trans d0
        have e1 := (hb.cell (p := ⟨b', off' + k * 5 + 1, none⟩) (by simp; omega)).trans d1
        have e2 := (hb.cell (p := ⟨b', off' + k * 5 + 2, none⟩) (by simp; omega)).trans d2
        have e3 := (hb.cell (p := ⟨b', off' + k * 5 + 3, none⟩) (by simp; omega)).trans d3
        have e4 := (hb.cell (p := ⟨b', off' + k * 5 + 4, none⟩) (by simp; omega)).trans d4
        clear c0 c1 c2 c3 c4 d0 d1 d2 d3 d4
        generalize hp : ps.getD k default = p at *
        generalize hq : qs.getD k default = q at *
        have HP := Lib.hid hp
        have HQ := Lib.hid hq
        clear hp hq
        go_wp2
        go_still_tail 8, (by kernel_rfl)
        go_wp2_with (go_at_call 106; refine (laws_eqPart _ _ _).mono ?_; rintro e w1 ⟨rfl, hb1⟩)
        · have ht : (!eqPt p q) = true := by assumption
          go_ret
          refine ⟨ret_b ?_, hb.drew.trans (hb1.mono hb.size)⟩
          have hne : ps.getD k default ≠ qs.getD k default := by
            rw [HP.out, HQ.out]; intro e; rw [(eqPt_iff p q).2 e] at ht; cases ht
          simp [getD_ne ps qs k hne]
        · have ht : (!eqPt p q) = false := by assumption
          have he : ps.getD k default = qs.getD k default := by
            rw [HP.out, HQ.out]; exact (eqPt_iff p q).1 (by simpa using ht)
          have hts := take_step ps qs k (by have := HN.out; omega) (by have := HN'.out; omega) HT.out he
          clear he
          go_roundw
          case rel => exact ⟨k + 1, by omega, by go_num, hts, hb.drew.trans (hb1.mono hb.size)⟩
          case measure => simp [intOf]; omega
      · go_wp2
        go_ret
        refine ⟨ret_b ?_, hb⟩
        have hkn : k = n := by omega
        have := take_all_eq ps qs n HN.out (HL.out.trans HN'.out) (by rw [← hkn]; exact HT.out)
        simp [this]
  · have hne : ((n : Int) != (n' : Int)) = true := by simp; omega
    have hf : decide (ps = qs) = false := by
      rw [decide_eq_false_iff_not]; rintro rfl; omega
    rw [hf]
    clear hl hn hn' h h' hf
    go_enter Try.func97, Try.ntmps97
    go_wp2
    go_ret
    exact ⟨rfl, Below.refl _ _⟩
set_option maxHeartbeats 400000 in
theorem laws_eqFormula (A A' : Option Addr) (n n' c c' : Nat) (ps qs : List Pt) (w : World) (B : Nat) (hB : B ≤ w.heap.size) (hn : n = ps.length) (hn' : n' = qs.length) (h : PS w B A ps) (h' : PS w B A' qs) (hs : n ≤ 2000000) (hs' : n' ≤ 2000000) :
    Calls Try.prog 81 #[.agg #[.slice A n c], .agg #[.slice A' n' c']] w fun e w' => e = .returned (.bool (decide (ps = qs))) ∧ Below w.heap.size w w' := by
  have H := Lib.hid h
  have H' := Lib.hid h'
  have HN := Lib.hid hn
  have HN' := Lib.hid hn'
  clear hn hn' h h'
  go_enter Try.func81, Try.ntmps81
  go_wp2_with fail
  refine (laws_eqPartS _ _ _ _ _ _ ps qs _ B (by simp; omega) HN.out HN'.out ((H.out.alloc hB _).alloc (by simp; omega) _) ((H'.out.alloc hB _).alloc (by simp; omega) _) hs hs').mono ?_
  rintro e w1 ⟨rfl, hb⟩
  go_wp2
  all_goals
    go_ret
    exact ⟨ret_b (by simp_all), ((Below.refl _ _).alloc (Nat.le_refl _) _).alloc (by simp) _ |>.trans (hb.mono (by simp; omega))⟩
end Go.Proofs.Ytlliomnfbgdpfaa

namespace Go.Proofs.Ytlliomnfbgdpfaa
set_option linter.unusedSimpArgs false
set_option linter.unusedVariables false
open Go.RowKit
set_option maxHeartbeats 400000 in
theorem laws_toPart (p : Pt) (w : World) :
    Calls Try.prog 104 #[.agg #[.int .i64 p.k, .int .i64 p.a, .int .i64 p.b, .int .i64 p.c, .int .i64 p.n]] w fun e w' => e = .returned (.agg #[.int .i64 p.k, .int .i64 p.a, .int .i64 p.b, .int .i64 p.c, .int .i64 p.n]) ∧ Below w.heap.size w w' := by
  obtain ⟨k, a, b, c, n⟩ := p
  go_enter Try.func104, Try.ntmps104
  go_wp2
  refine bodyPost_ret (v := .agg #[.int .i64 k, .int .i64 a, .int .i64 b, .int .i64 c, .int .i64 n]) (by simp [results, Try.results104, go_sem]) rfl ⟨rfl, ?_⟩
  exact (((Below.refl _ _).alloc (Nat.le_refl _) _).alloc (by simp) _).alloc (by simp; omega) _
theorem info_part : (Try.prog.info? 103).map (fun i => (i.zero, i.size, i.bytes)) = some (some (.agg #[.int .i64 0, .int .i64 0, .int .i64 0, .int .i64 0, .int .i64 0]), 5, 40) := by kernel_rfl
set_option maxHeartbeats 800000 in
theorem laws_toPartS (A : Option Addr) (n c : Nat) (ps : List Pt) (w : World) (B : Nat) (hB : B ≤ w.heap.size) (hn : n = ps.length) (h : PS w B A ps) (hs : n ≤ 2000000) :
    Calls Try.prog 93 #[.slice A n c] w fun e w' => e = .returned (.slice (some ⟨w.heap.size, 0, none⟩) n n) ∧ w'.ownsRow w.heap.size 103 5 (.slice (some ⟨w.heap.size, 0, none⟩) n n) n (ps.flatMap Pt.cells) ∧ Below w.heap.size w w' := by
  obtain ⟨i0, hi, hz0, hz1, hz2⟩ := info_parts info_part
  obtain ⟨w0, hmk, hown0, hgr0⟩ := run_make_full (P := Try.prog) w w.heap.size 71 103 i0 _ 5 Try.underlying71 hi hz0 hz1 .i64 .i64 n (by rw [hz2]; omega) (by unfold maxLen; omega) (Nat.le_refl _)
  have H := Lib.hid h
  have HN := Lib.hid hn
  clear hn h
  go_enter Try.func93, Try.ntmps93
  go_wp2
  go_loopw [4] (fun i wr => ∃ (k : Nat) (xs : List Value), k ≤ n ∧ i = .int .i64 k ∧ Hid (wr.ownsRow w.heap.size 103 5 (.slice (some ⟨w.heap.size, 0, none⟩) n n) n xs) ∧ Hid (xs.take (k * 5) = (ps.take k).flatMap Pt.cells) ∧ Below w.heap.size w wr) (fun i _ => n - (intOf i).toNat)
  case atStart => exact ⟨0, _, Nat.zero_le _, rfl, hown0, by simp [Hid], ⟨hgr0.os, hgr0.tape, hgr0.output, hgr0.size, fun k hk => hgr0.block k hk (by simp)⟩⟩
  case round =>
    obtain ⟨k, xs, hk, rfl, HO, HT, hb⟩ := hrel
    by_cases hlt : k < n
    · obtain ⟨b, off, rfl, hbB, hc⟩ := H.out (by have := HN.out; omega)
      obtain ⟨c0, c1, c2, c3, c4⟩ := hc k (by have := HN.out; omega)
      clear hc H
      have b0 := (hb.cell (p := ⟨b, off + k * 5, none⟩) (by simp; omega)).trans c0
      have b1 := (hb.cell (p := ⟨b, off + k * 5 + 1, none⟩) (by simp; omega)).trans c1
      have b2 := (hb.cell (p := ⟨b, off + k * 5 + 2, none⟩) (by simp; omega)).trans c2
      have b3 := (hb.cell (p := ⟨b, off + k * 5 + 3, none⟩) (by simp; omega)).trans c3
      have b4 := (hb.cell (p := ⟨b, off + k * 5 + 4, none⟩) (by simp; omega)).trans c4
      clear c0 c1 c2 c3 c4
      generalize hp : ps.getD k default = p at *
      have HP := Lib.hid hp
      clear hp
      go_wp2_with fail
      refine (laws_toPart _ _).mono ?_
      rintro e w1 ⟨rfl, hb1⟩
      have hO1 := own_below HO.out hb1
      have hxl : xs.length = n * 5 := hO1.1
      have u0 := hO1.cellAt (k * 5) (by omega)
      have u1 := hO1.cellAt (k * 5 + 1) (by omega)
      have u2 := hO1.cellAt (k * 5 + 2) (by omega)
      have u3 := hO1.cellAt (k * 5 + 3) (by omega)
      have u4 := hO1.cellAt (k * 5 + 4) (by omega)
      rw [List.getElem?_eq_getElem (by omega)] at u0 u1 u2 u3 u4
      have f0 := hO1.frozenAt (k * 5)
      have f1 := hO1.frozenAt (k * 5 + 1)
      have f2 := hO1.frozenAt (k * 5 + 2)
      have f3 := hO1.frozenAt (k * 5 + 3)
      have f4 := hO1.frozenAt (k * 5 + 4)
      generalize xs[k * 5]'(by omega) = v0 at u0
      generalize xs[k * 5 + 1]'(by omega) = v1 at u1
      generalize xs[k * 5 + 2]'(by omega) = v2 at u2
      generalize xs[k * 5 + 3]'(by omega) = v3 at u3
      generalize xs[k * 5 + 4]'(by omega) = v4 at u4
      have HO1 := Lib.hid hO1
      have HXL := Lib.hid hxl
      clear hO1 hxl HO
      go_wp2
      go_roundw
      case rel =>
        have hx5 : (set5 xs (k * 5) p).take ((k + 1) * 5) = (ps.take (k + 1)).flatMap Pt.cells := by
          rw [show (k + 1) * 5 = k * 5 + 5 by omega, take_set5 xs (k * 5) p (by have := HXL.out; omega), HT.out, take_succ_getD ps k (by have := HN.out; omega), HP.out]
          simp
        exact ⟨k + 1, _, by omega, by go_num, own_set5 HO1.out (k * 5) p, hx5, below_set5 (hb.trans (hb1.mono hb.size)) (Nat.le_refl _) _ _⟩
      case measure => simp [intOf]; omega
    · go_wp2
      go_ret
      have hkn : k = n := by omega
      have hx : xs = ps.flatMap Pt.cells := by
        have h1 := HT.out
        have h2 : xs.length = n * 5 := HO.out.1
        rw [hkn, List.take_of_length_le (by omega), List.take_of_length_le (by have := HN.out; omega)] at h1
        exact h1
      exact ⟨by simp, by rw [← hx]; exact HO.out, hb⟩
/-- Returns a formula of fresh parts. -/
def RetF (w : World) (ps : List Pt) (e : Ending) (w' : World) : Prop := ∃ (A : Option Addr) (n c : Nat), e = .returned (.agg #[.slice A n c]) ∧ n = ps.length ∧ w'.ownsRow w.heap.size 103 5 (.slice A n c) n (ps.flatMap Pt.cells) ∧ Below w.heap.size w w'
set_option maxHeartbeats 800000 in
theorem laws_toFormula (A : Option Addr) (n c : Nat) (ps : List Pt) (w : World) (B : Nat) (hB : B ≤ w.heap.size) (hn : n = ps.length) (h : PS w B A ps) (hs : n ≤ 2000000) :
    Calls Try.prog 79 #[.agg #[.slice A n c]] w fun e w' => RetF w ps e w' := by
  have H := Lib.hid h
  have HN := Lib.hid hn
  clear hn h
  go_enter Try.func79, Try.ntmps79
  go_wp2_with fail
  refine (laws_toPartS _ _ _ ps _ B (by simp; omega) HN.out (((H.out.alloc hB _).alloc (by simp; omega) _).alloc (by simp; omega) _) hs).mono ?_
  rintro e w1 ⟨rfl, hown, hb⟩
  obtain ⟨hc, hf⟩ := bcell hb
  have HO := Lib.hid hown
  clear hown
  have hw1 : w.heap.size + 3 ≤ w1.heap.size := by have := hb.size; simp at this; omega
  have q1 : w1.cell? ⟨w.heap.size + 1, 0, none⟩ = some (.slice none 0 0) := by rw [hc _ _ (by simp)]; go_simp
  have q2 : w1.cell? ⟨w.heap.size + 1 + 1, 0, none⟩ = some (.slice none 0 0) := by rw [hc _ _ (by simp)]; go_simp
  have q3 : w1.frozen? ⟨w.heap.size + 1, 0, none⟩ = false := by rw [hf _ _ (by simp)]; go_simp
  have q4 : w1.frozen? ⟨w.heap.size + 1 + 1, 0, none⟩ = false := by rw [hf _ _ (by simp)]; go_simp
  clear hc hf
  go_wp2
  refine bodyPost_ret (v := .agg #[.slice (some ⟨w.heap.size + 1 + 1 + 1, 0, none⟩) n n]) (by simp [results, Try.results79, go_sem, q1]) rfl ?_
  have o1 := ownsRow_setCell_below HO.out (a := ⟨w.heap.size + 1 + 1, 0, none⟩) (by simp) (.slice (some ⟨w.heap.size + 1 + 1 + 1, 0, none⟩) n n)
  have o2 := ownsRow_setCell_below o1 (a := ⟨w.heap.size + 1, 0, none⟩) (by simp) (.slice (some ⟨w.heap.size + 1 + 1 + 1, 0, none⟩) n n)
  have o3 := own_mono (base' := w.heap.size) o2 (by simp; omega)
  simp only [World.size_alloc] at o3
  refine ⟨_, n, n, rfl, HN.out, o3, ?_⟩
  exact ((((((Below.refl _ _).alloc (Nat.le_refl _) _).alloc (by simp) _).alloc (by simp; omega) _).trans (hb.mono (by simp; omega))).setCell (by simp; omega) _).setCell (by simp) _
set_option maxHeartbeats 400000 in
theorem laws_szPartS (A : Option Addr) (n c : Nat) (l : Int) (w : World) (hl0 : 0 ≤ l) (hl : l ≤ 2000000) (hn : n ≤ 9223372036854775807) :
    Calls Try.prog 92 #[.slice A n c, .int .i64 l] w fun e w' => e = .returned (.int .i64 (if l - n < 0 then -1 else l - n)) ∧ w = w' := by
  by_cases h : l - n < 0
  · rw [if_pos h]
    go_enter Try.func92, Try.ntmps92
    go_wp2
    go_ret
    exact ⟨rfl, rfl⟩
  · rw [if_neg h]
    go_enter Try.func92, Try.ntmps92
    go_wp2
    go_ret
    exact ⟨rfl, rfl⟩
set_option maxHeartbeats 400000 in
theorem laws_szFormula (A : Option Addr) (n c : Nat) (l : Int) (w : World) (hl0 : 0 ≤ l) (hl : l ≤ 2000000) (hn : n ≤ 9223372036854775807) :
    Calls Try.prog 78 #[.agg #[.slice A n c], .int .i64 l] w fun e w' => e = .returned (.int .i64 (if l - n < 0 then -1 else l - n)) ∧ Below w.heap.size w w' := by
  have HS := laws_szPartS A n c l
  by_cases h : l - n < 0
  · rw [if_pos h]
    have HC : ∀ w : World, Calls Try.prog 92 #[.slice A n c, .int .i64 l] w fun e w' => e = .returned (.int .i64 (-1)) ∧ w = w' := fun w => by
      have := HS w hl0 hl hn
      rwa [if_pos h] at this
    have HH := Lib.hid HC
    clear HC HS
    go_enter Try.func78, Try.ntmps78
    go_wp2_with fail
    refine (HH.out _).mono ?_
    rintro e w' ⟨rfl, rfl⟩
    go_wp2
    go_ret
    exact ⟨rfl, (Below.refl _ _).alloc (Nat.le_refl _) _⟩
  · rw [if_neg h]
    have HC : ∀ w : World, Calls Try.prog 92 #[.slice A n c, .int .i64 l] w fun e w' => e = .returned (.int .i64 (l - n)) ∧ w = w' := fun w => by
      have := HS w hl0 hl hn
      rwa [if_neg h] at this
    have HH := Lib.hid HC
    clear HC HS
    go_enter Try.func78, Try.ntmps78
    go_wp2_with fail
    refine (HH.out _).mono ?_
    rintro e w' ⟨rfl, rfl⟩
    go_wp2
    go_ret
    exact ⟨rfl, (Below.refl _ _).alloc (Nat.le_refl _) _⟩
end Go.Proofs.Ytlliomnfbgdpfaa

namespace Go.Proofs.Ytlliomnfbgdpfaa
set_option linter.unusedSimpArgs false
set_option linter.unusedVariables false
open Go.RowKit
/-- A box of the call's own. -/
theorem box_loc (g : Nat) (v : Value) : Loc g (g + 1) fun w => w.cell? ⟨g, 0, none⟩ = some v :=
  fun w w' h hk => (World.cell?_of_block (a := ⟨g, 0, none⟩) (hk g (Nat.le_refl _) (Nat.lt_succ_self _))).trans h
theorem box_new (w : World) (v : Value) (t : TypeId) : As w.heap.size (w.heap.size + 1) (fun w' => w'.cell? ⟨w.heap.size, 0, none⟩ = some v) (w.alloc (.cells #[v] t)) :=
  ⟨by go_simp, by simp, box_loc _ _⟩
theorem box2_loc (g : Nat) (v u : Value) : Loc g (g + 1) fun w => w.cell? ⟨g, 0, none⟩ = some v ∧ w.cell? ⟨g, 1, none⟩ = some u :=
  fun w w' h hk => ⟨(World.cell?_of_block (a := ⟨g, 0, none⟩) (hk g (Nat.le_refl _) (Nat.lt_succ_self _))).trans h.1, (World.cell?_of_block (a := ⟨g, 1, none⟩) (hk g (Nat.le_refl _) (Nat.lt_succ_self _))).trans h.2⟩
theorem box2_new (w : World) (v u : Value) (t : TypeId) : As w.heap.size (w.heap.size + 1) (fun w' => w'.cell? ⟨w.heap.size, 0, none⟩ = some v ∧ w'.cell? ⟨w.heap.size, 1, none⟩ = some u) (w.alloc (.cells #[v, u] t)) :=
  ⟨⟨by go_simp, by go_simp⟩, by simp, box2_loc _ _ _⟩
end Go.Proofs.Ytlliomnfbgdpfaa

namespace Go.Proofs.Ytlliomnfbgdpfaa
set_option linter.unusedSimpArgs false
set_option linter.unusedVariables false
open Go.RowKit
def gsz (gs : List Nd) : Nat := gs.length + (gs.map fun d => d.ps.length).sum
theorem sum_getD (l : List Nat) (j : Nat) : l.getD j 0 ≤ l.sum := by
  induction l generalizing j with
  | nil => simp
  | cons x l ih =>
    cases j with
    | zero => simp
    | succ j => have := ih j; simp only [List.getD_cons_succ, List.sum_cons]; omega
theorem GB.of_gsz {gs : List Nd} (h : gsz gs ≤ 1048576) : GB gs := by
  unfold gsz at h
  refine ⟨by omega, fun j => ?_⟩
  have := sum_getD (gs.map fun d => d.ps.length) j
  have e : (gs.map fun d => d.ps.length).getD j 0 = (gs.getD j default).ps.length := by
    by_cases hj : j < gs.length
    · simp [List.getD, hj]
    · simp [List.getD, List.getElem?_eq_none (show gs.length ≤ j by omega)]; rfl
  omega
theorem sum_take_succ (gs : List Nd) (k : Nat) (h : k < gs.length) : ((gs.take (k + 1)).map fun d => d.ps.length).sum = ((gs.take k).map fun d => d.ps.length).sum + (gs.getD k default).ps.length := by
  rw [take_succ_getD gs k h, List.map_append, List.sum_append]; simp
theorem sum_take_le (gs : List Nd) (k : Nat) : ((gs.take k).map fun d => d.ps.length).sum ≤ (gs.map fun d => d.ps.length).sum := by
  have : (gs.map fun d => d.ps.length).sum = ((gs.take k).map fun d => d.ps.length).sum + ((gs.drop k).map fun d => d.ps.length).sum := by
    rw [← List.sum_append, ← List.map_append, List.take_append_drop]
  omega
end Go.Proofs.Ytlliomnfbgdpfaa

namespace Go.Proofs.Ytlliomnfbgdpfaa
set_option linter.unusedSimpArgs false
set_option linter.unusedVariables false
open Go.RowKit
/-- Returns a node of fresh parts. -/
def RetNd (w : World) (d : Nd) (e : Ending) (w' : World) : Prop := ∃ (A : Option Addr) (n c : Nat), e = .returned (.agg #[.int .i64 d.k, .slice A n c]) ∧ n = d.ps.length ∧ w'.ownsRow w.heap.size 103 5 (.slice A n c) n (d.ps.flatMap Pt.cells) ∧ Below w.heap.size w w'
set_option maxHeartbeats 800000 in
theorem laws_toNode (A : Option Addr) (k : Int) (n c : Nat) (ps : List Pt) (w : World) (B : Nat) (hB : B ≤ w.heap.size) (hn : n = ps.length) (h : PS w B A ps) (hs : n ≤ 2000000) :
    Calls Try.prog 64 #[.agg #[.int .i64 k, .slice A n c]] w fun e w' => RetNd w ⟨k, ps⟩ e w' := by
  have H := Lib.hid h
  have HN := Lib.hid hn
  clear hn h
  go_enter Try.func64, Try.ntmps64
  go_wp2_with fail
  refine (laws_toFormula A n c ps _ B (by simp; omega) HN.out (((H.out.alloc hB _).alloc (by simp; omega) _).alloc (by simp; omega) _) hs).mono ?_
  rintro e w1 ⟨A1, n1, c1, rfl, hn1, hown, hb⟩
  obtain ⟨hc, hf⟩ := bcell hb
  have HO := Lib.hid hown
  have HN1 := Lib.hid hn1
  clear hown hn1
  have hw1 : w.heap.size + 3 ≤ w1.heap.size := by have := hb.size; simp at this; omega
  have q1 : w1.cell? ⟨w.heap.size + 1, 0, none⟩ = some (.int .i64 0) := by rw [hc _ _ (by simp)]; go_simp
  have q2 : w1.cell? ⟨w.heap.size + 1, 1, none⟩ = some (.slice none 0 0) := by rw [hc _ _ (by simp)]; go_simp
  have q3 : w1.cell? ⟨w.heap.size + 1 + 1, 0, none⟩ = some (.int .i64 k) := by rw [hc _ _ (by simp)]; go_simp
  have q4 : w1.cell? ⟨w.heap.size + 1 + 1, 1, none⟩ = some (.slice none 0 0) := by rw [hc _ _ (by simp)]; go_simp
  have q5 : w1.frozen? ⟨w.heap.size + 1, 0, none⟩ = false := by rw [hf _ _ (by simp)]; go_simp
  have q6 : w1.frozen? ⟨w.heap.size + 1, 1, none⟩ = false := by rw [hf _ _ (by simp)]; go_simp
  have q7 : w1.frozen? ⟨w.heap.size + 1 + 1, 0, none⟩ = false := by rw [hf _ _ (by simp)]; go_simp
  have q8 : w1.frozen? ⟨w.heap.size + 1 + 1, 1, none⟩ = false := by rw [hf _ _ (by simp)]; go_simp
  clear hc hf
  go_wp2
  refine bodyPost_ret (v := .agg #[.int .i64 k, .slice A1 n1 c1]) (by simp [results, Try.results64, go_sem, q1, q2, q3, q4]) rfl ?_
  have o1 := ownsRow_setCell_below HO.out (a := ⟨w.heap.size + 1 + 1, 1, none⟩) (by simp) (.slice A1 n1 c1)
  have o2 := ownsRow_setCell_below o1 (a := ⟨w.heap.size + 1, 0, none⟩) (by simp) (.int .i64 k)
  have o3 := ownsRow_setCell_below o2 (a := ⟨w.heap.size + 1, 1, none⟩) (by simp) (.slice A1 n1 c1)
  refine ⟨A1, n1, c1, rfl, HN1.out, own_mono o3 (by simp; omega), ?_⟩
  exact (((((((Below.refl _ _).alloc (Nat.le_refl _) _).alloc (by simp) _).alloc (by simp; omega) _).trans (hb.mono (by simp; omega))).setCell (by simp; omega) _).setCell (by simp) _).setCell (by simp) _
/-- Two cells written one after the other. -/
def set2 (xs : List Value) (j : Nat) (x y : Value) : List Value := (xs.set j x).set (j + 1) y
theorem set2_get (xs : List Value) (j : Nat) (x y : Value) (h : j + 1 < xs.length) : (set2 xs j x y)[j]? = some x ∧ (set2 xs j x y)[j + 1]? = some y ∧ ∀ i, i ≠ j → i ≠ j + 1 → (set2 xs j x y)[i]? = xs[i]? := by
  unfold set2
  refine ⟨?_, ?_, fun i h1 h2 => ?_⟩
  · rw [List.getElem?_set, if_neg (by omega), List.getElem?_set, if_pos rfl, if_pos (by omega)]
  · rw [List.getElem?_set, if_pos rfl, if_pos (by simpa using h)]
  · rw [List.getElem?_set, if_neg (by omega), List.getElem?_set, if_neg (by omega)]
theorem own_set2 {w : World} {base e size n cap g : Nat} {xs : List Value} (h : w.ownsRow base e size (.slice (some ⟨g, 0, none⟩) n cap) n xs) (j : Nat) (x y : Value) :
    ((w.setCell ⟨g, j, none⟩ x).setCell ⟨g, j + 1, none⟩ y).ownsRow base e size (.slice (some ⟨g, 0, none⟩) n cap) n (set2 xs j x y) :=
  ((h.stored j x).1.stored (j + 1) y).1
theorem info_node : (Try.prog.info? 75).map (fun i => (i.zero, i.size, i.bytes)) = some (some (.agg #[.int .i64 0, .slice none 0 0]), 2, 32) := by kernel_rfl
set_option maxRecDepth 100000 in
set_option maxHeartbeats 800000 in
theorem laws_toNodeS (A : Option Addr) (n c : Nat) (gs : List Nd) (w : World) (B : Nat) (hB : B ≤ w.heap.size) (hn : n = gs.length) (h : GS w B A gs) (hs : GB gs) :
    Calls Try.prog 34 #[.slice A n c] w fun e w' => e = .returned (.slice (some ⟨w.heap.size, 0, none⟩) n n) ∧ OwG w.heap.size w'.heap.size (.slice (some ⟨w.heap.size, 0, none⟩) n n) n gs w' ∧ Below w.heap.size w w' := by
  have hn1 : n ≤ 1048576 := by rw [hn]; exact hs.1
  obtain ⟨i0, hi, hz0, hz1, hz2⟩ := info_parts info_node
  obtain ⟨w0, hmk, hown0, hgr0⟩ := run_make_full (P := Try.prog) w w.heap.size 31 75 i0 _ 2 Try.underlying31 hi hz0 hz1 .i64 .i64 n (by rw [hz2]; omega) (by unfold maxLen; omega) (Nat.le_refl _)
  have H := Lib.hid h
  have HN := Lib.hid hn
  have HS := Lib.hid hs
  clear hn h hs
  go_enter Try.func34, Try.ntmps34
  go_wp2
  go_loopw [4] (fun i wr => ∃ (k : Nat) (xs : List Value), k ≤ n ∧ i = .int .i64 k ∧ Hid (wr.ownsRow w.heap.size 75 2 (.slice (some ⟨w.heap.size, 0, none⟩) n n) n xs) ∧ Hid (∀ j, j < k → ∃ x y, xs[j * 2]? = some x ∧ xs[j * 2 + 1]? = some y ∧ NdO (w.heap.size + 1) wr.heap.size (gs.getD j default) x y wr) ∧ Below w.heap.size w wr ∧ w.heap.size < wr.heap.size) (fun i _ => n - (intOf i).toNat)
  case atStart => exact ⟨0, _, Nat.zero_le _, rfl, hown0, by intro j hj; omega, ⟨hgr0.os, hgr0.tape, hgr0.output, hgr0.size, fun k hk => hgr0.block k hk (by simp)⟩, (hown0.lt _ rfl).2⟩
  case round =>
    obtain ⟨k, xs, hk, rfl, HO, HT, hb, hsz⟩ := hrel
    by_cases hlt : k < n
    · obtain ⟨b, off, rfl, hbB, hc⟩ := H.out (by have := HN.out; omega)
      obtain ⟨c0, A1, n1, c1, c2, hn1', hps⟩ := hc k (by have := HN.out; omega)
      have hnb := HS.out.2 k
      clear hc H
      have b0 := (hb.cell (p := ⟨b, off + k * 2, none⟩) (by simp; omega)).trans c0
      have b1 := (hb.cell (p := ⟨b, off + k * 2 + 1, none⟩) (by simp; omega)).trans c2
      have HPS := Lib.hid (hps.below hb hB)
      clear c0 c2 hps
      generalize hp : gs.getD k default = d at *
      have HP := Lib.hid hp
      have HN1 := Lib.hid hn1'
      have hn1b : n1 ≤ 2000000 := by omega
      clear hp hn1'
      go_wp2_with fail
      refine (laws_toNode A1 d.k n1 c1 d.ps _ B (by omega) HN1.out HPS.out hn1b).mono ?_
      rintro e w1 ⟨A2, n2, c2, rfl, hn2, hown2, hb1⟩
      have hO1 := own_below HO.out hb1
      have hxl : xs.length = n * 2 := hO1.1
      have u0 := hO1.cellAt (k * 2) (by omega)
      have u1 := hO1.cellAt (k * 2 + 1) (by omega)
      rw [List.getElem?_eq_getElem (by omega)] at u0 u1
      have f0 := hO1.frozenAt (k * 2)
      have f1 := hO1.frozenAt (k * 2 + 1)
      generalize xs[k * 2]'(by omega) = v0 at u0
      generalize xs[k * 2 + 1]'(by omega) = v1 at u1
      have HO1 := Lib.hid hO1
      have HXL := Lib.hid hxl
      have HOW2 := Lib.hid hown2
      have HN2 := Lib.hid hn2
      clear hO1 hxl HO hown2 hn2
      go_wp2
      go_roundw
      case rel =>
        obtain ⟨s0, s1, s2⟩ := set2_get xs (k * 2) (.int .i64 d.k) (.slice A2 n2 c2) (by have := HXL.out; omega)
        refine ⟨k + 1, _, by omega, by go_num, own_set2 HO1.out (k * 2) _ _, ?_, ((hb.trans (hb1.mono hb.size)).setCell (Nat.le_refl _) _).setCell (Nat.le_refl _) _, by have := hb1.size; simp [World.setCell]; omega⟩
        intro j hj
        have hnew : NdO (w.heap.size + 1) w1.heap.size d (.int .i64 d.k) (.slice A2 n2 c2) w1 := ⟨rfl, A2, n2, c2, rfl, HN2.out, own_mono HOW2.out (by omega), fun k' hk' => (HOW2.out.lt k' hk').2⟩
        rcases Nat.lt_or_ge j k with h1 | h1
        · obtain ⟨x, y, hx, hy, hd⟩ := HT.out j h1
          refine ⟨x, y, by rw [s2 _ (by omega) (by omega)]; exact hx, by rw [s2 _ (by omega) (by omega)]; exact hy, ?_⟩
          have := ((hd.keep fun q _ hq => hb1.block q hq).mono (Nat.le_refl _) hb1.size : NdO (w.heap.size + 1) w1.heap.size _ x y w1)
          simpa [World.setCell] using (this.setCell (a := ⟨w.heap.size, k * 2, none⟩) (by simp) (.int .i64 d.k)).setCell (a := ⟨w.heap.size, k * 2 + 1, none⟩) (by simp) (.slice A2 n2 c2)
        · obtain rfl : j = k := by omega
          refine ⟨_, _, s0, s1, ?_⟩
          rw [HP.out]
          simpa [World.setCell] using (hnew.setCell (a := ⟨w.heap.size, j * 2, none⟩) (by simp) (.int .i64 d.k)).setCell (a := ⟨w.heap.size, j * 2 + 1, none⟩) (by simp) (.slice A2 n2 c2)
      case measure => simp [intOf]; omega
    · go_wp2
      go_ret
      have hkn : k = n := by omega
      subst hkn
      refine ⟨by simp, ⟨HN.out, xs, OwR.start HO.out, fun j hj => ?_⟩, hb⟩
      obtain ⟨x, y, hx, hy, hd⟩ := HT.out j hj
      exact ⟨x, y, hx, hy, hd.mono (by omega) (Nat.le_refl _)⟩
/-- Returns a graph of fresh nodes. -/
def RetGr (w : World) (gs : List Nd) (e : Ending) (w' : World) : Prop := ∃ (A : Option Addr) (n c : Nat), e = .returned (.agg #[.slice A n c]) ∧ n = gs.length ∧ OwG w.heap.size w'.heap.size (.slice A n c) n gs w' ∧ Below w.heap.size w w'
set_option maxHeartbeats 800000 in
theorem laws_toGraph (A : Option Addr) (n c : Nat) (gs : List Nd) (w : World) (B : Nat) (hB : B ≤ w.heap.size) (hn : n = gs.length) (h : GS w B A gs) (hs : GB gs) :
    Calls Try.prog 11 #[.agg #[.slice A n c]] w fun e w' => RetGr w gs e w' := by
  have H := Lib.hid h
  have HN := Lib.hid hn
  have HS := Lib.hid hs
  clear hn h hs
  go_enter Try.func11, Try.ntmps11
  go_wp2_with fail
  refine (laws_toNodeS _ _ _ gs _ B (by simp; omega) HN.out (((H.out.alloc hB _).alloc (by simp; omega) _).alloc (by simp; omega) _) HS.out).mono ?_
  rintro e w1 ⟨rfl, hown, hb⟩
  obtain ⟨hc, hf⟩ := bcell hb
  have HO := Lib.hid hown
  clear hown
  have hw1 : w.heap.size + 3 ≤ w1.heap.size := by have := hb.size; simp at this; omega
  have q1 : w1.cell? ⟨w.heap.size + 1, 0, none⟩ = some (.slice none 0 0) := by rw [hc _ _ (by simp)]; go_simp
  have q2 : w1.cell? ⟨w.heap.size + 1 + 1, 0, none⟩ = some (.slice none 0 0) := by rw [hc _ _ (by simp)]; go_simp
  have q3 : w1.frozen? ⟨w.heap.size + 1, 0, none⟩ = false := by rw [hf _ _ (by simp)]; go_simp
  have q4 : w1.frozen? ⟨w.heap.size + 1 + 1, 0, none⟩ = false := by rw [hf _ _ (by simp)]; go_simp
  clear hc hf
  go_wp2
  refine bodyPost_ret (v := .agg #[.slice (some ⟨w.heap.size + 1 + 1 + 1, 0, none⟩) n n]) (by simp [results, Try.results11, go_sem, q1]) rfl ?_
  have o1 := HO.out.setCell (a := ⟨w.heap.size + 1 + 1, 0, none⟩) (by simp) (.slice (some ⟨w.heap.size + 1 + 1 + 1, 0, none⟩) n n)
  have o2 := o1.setCell (a := ⟨w.heap.size + 1, 0, none⟩) (by simp) (.slice (some ⟨w.heap.size + 1 + 1 + 1, 0, none⟩) n n)
  have o3 := o2.mono (lo' := w.heap.size) (hi' := w1.heap.size) (by simp; omega) (Nat.le_refl _)
  simp only [World.size_alloc] at o3
  refine ⟨_, n, n, rfl, HN.out, by simpa [World.setCell] using o3, ?_⟩
  exact ((((((Below.refl _ _).alloc (Nat.le_refl _) _).alloc (by simp) _).alloc (by simp; omega) _).trans (hb.mono (by simp; omega))).setCell (by simp; omega) _).setCell (by simp) _
end Go.Proofs.Ytlliomnfbgdpfaa

namespace Go.Proofs.Ytlliomnfbgdpfaa
set_option linter.unusedSimpArgs false
set_option linter.unusedVariables false
open Go.RowKit
set_option maxHeartbeats 800000 in
theorem laws_szNode (A : Option Addr) (k : Int) (n c : Nat) (l : Int) (w : World) (hl0 : 0 ≤ l) (hl : l ≤ 2000000) (hn : n ≤ 9223372036854775807) :
    Calls Try.prog 62 #[.agg #[.int .i64 k, .slice A n c], .int .i64 l] w fun e w' => e = .returned (.int .i64 (if l - n < 0 then -1 else l - n)) ∧ Below w.heap.size w w' := by
  have HS := laws_szFormula A n c l
  by_cases h : l - n < 0
  · rw [if_pos h]
    have HC : ∀ w : World, Calls Try.prog 78 #[.agg #[.slice A n c], .int .i64 l] w fun e w' => e = .returned (.int .i64 (-1)) ∧ Below w.heap.size w w' := fun w => by
      have := HS w hl0 hl hn
      rwa [if_pos h] at this
    have HH := Lib.hid HC
    clear HC HS
    go_enter Try.func62, Try.ntmps62
    go_wp2_with fail
    refine (HH.out _).mono ?_
    rintro e w' ⟨rfl, hb⟩
    go_wp2
    go_ret
    exact ⟨rfl, ((Below.refl _ _).alloc (Nat.le_refl _) _).trans (hb.mono (by simp))⟩
  · rw [if_neg h]
    have HC : ∀ w : World, Calls Try.prog 78 #[.agg #[.slice A n c], .int .i64 l] w fun e w' => e = .returned (.int .i64 (l - n)) ∧ Below w.heap.size w w' := fun w => by
      have := HS w hl0 hl hn
      rwa [if_neg h] at this
    have HH := Lib.hid HC
    clear HC HS
    go_enter Try.func62, Try.ntmps62
    go_wp2_with fail
    refine (HH.out _).mono ?_
    rintro e w' ⟨rfl, hb⟩
    go_wp2
    go_ret
    exact ⟨rfl, ((Below.refl _ _).alloc (Nat.le_refl _) _).trans (hb.mono (by simp))⟩
set_option maxRecDepth 100000 in
set_option maxHeartbeats 800000 in
theorem laws_szNodeS (A : Option Addr) (n c : Nat) (gs : List Nd) (l : Int) (w : World) (B : Nat) (hB : B ≤ w.heap.size) (hn : n = gs.length) (h : GS w B A gs) (hl0 : 0 ≤ l) (hl : l ≤ 2000000) (hm : n ≤ 9223372036854775807) (hm' : ∀ j, (gs.getD j default).ps.length ≤ 9223372036854775807) :
    Calls Try.prog 31 #[.slice A n c, .int .i64 l] w fun e w' => e = .returned (.int .i64 (leftOf l (gsz gs))) ∧ Below w.heap.size w w' := by
  by_cases hln : l - n < 0
  · have e : leftOf l (gsz gs) = -1 := by unfold leftOf; rw [if_neg (by unfold gsz; omega)]
    rw [e]
    clear e h hn hm'
    go_enter Try.func31, Try.ntmps31
    go_wp2
    go_ret
    exact ⟨rfl, Below.refl _ _⟩
  have H := Lib.hid h
  have HN := Lib.hid hn
  have HM := Lib.hid hm'
  clear hn h hm'
  go_enter Try.func31, Try.ntmps31
  go_wp2
  go_loopw [5, 1] (fun i u wr => ∃ (k : Nat) (q : Int), k ≤ n ∧ i = .int .i64 k ∧ u = .int .i64 q ∧ 0 ≤ q ∧ q ≤ 2000000 ∧ Hid (q = l - n - (((gs.take k).map fun d => d.ps.length).sum : Nat)) ∧ Below w.heap.size w wr) (fun i _ _ => n - (intOf i).toNat)
  case atStart => exact ⟨0, l - n, Nat.zero_le _, rfl, rfl, by omega, by omega, by simp [Hid], Below.refl _ _⟩
  case round =>
    obtain ⟨k, q, hk, rfl, rfl, hq0, hq, HQ, hb⟩ := hrel
    by_cases hlt : k < n
    · obtain ⟨b, off, rfl, hbB, hc⟩ := H.out (by have := HN.out; omega)
      obtain ⟨c0, A1, n1, c1, c2, hn1', hps⟩ := hc k (by have := HN.out; omega)
      have hnb := HM.out k
      clear hc H hps
      have b0 := (hb.cell (p := ⟨b, off + k * 2, none⟩) (by simp; omega)).trans c0
      have b1 := (hb.cell (p := ⟨b, off + k * 2 + 1, none⟩) (by simp; omega)).trans c2
      clear c0 c2
      have hst := sum_take_succ gs k (by have := HN.out; omega)
      have htl := sum_take_le gs (k + 1)
      generalize gs.getD k default = d at *
      have hnb1 : n1 ≤ 9223372036854775807 := by omega
      have HST := Lib.hid hst
      have HTL := Lib.hid htl
      have HN1 := Lib.hid hn1'
      clear hst htl hn1' hnb
      by_cases h1 : q - n1 < 0
      · have HC : ∀ w : World, Calls Try.prog 62 #[.agg #[.int .i64 d.k, .slice A1 n1 c1], .int .i64 q] w fun e w' => e = .returned (.int .i64 (-1)) ∧ Below w.heap.size w w' := fun w => by
          have := laws_szNode A1 d.k n1 c1 q w hq0 hq hnb1
          rwa [if_pos h1] at this
        have HH := Lib.hid HC
        clear HC
        go_wp2_with fail
        refine (HH.out _).mono ?_
        rintro e w' ⟨rfl, hb1⟩
        go_wp2
        go_ret
        refine ⟨ret_i ?_, hb.trans (hb1.mono hb.size)⟩
        unfold leftOf
        rw [if_neg]
        have a1 := HST.out; have a2 := HTL.out; have a3 := HN1.out; have a4 := HQ.out; have a5 := HN.out
        unfold gsz
        omega
      · have HC : ∀ w : World, Calls Try.prog 62 #[.agg #[.int .i64 d.k, .slice A1 n1 c1], .int .i64 q] w fun e w' => e = .returned (.int .i64 (q - n1)) ∧ Below w.heap.size w w' := fun w => by
          have := laws_szNode A1 d.k n1 c1 q w hq0 hq hnb1
          rwa [if_neg h1] at this
        have HH := Lib.hid HC
        clear HC
        go_wp2_with fail
        refine (HH.out _).mono ?_
        rintro e w' ⟨rfl, hb1⟩
        go_wp2
        go_roundw
        case rel => exact ⟨k + 1, q - n1, by omega, by go_num, rfl, by omega, by omega, by have a1 := HST.out; have a3 := HN1.out; have a4 := HQ.out; show q - n1 = _; omega, hb.trans (hb1.mono hb.size)⟩
        case measure => simp [intOf]; omega
    · obtain rfl : k = n := by omega
      go_wp2
      go_ret
      refine ⟨ret_i ?_, hb⟩
      have a4 := HQ.out
      have a5 := HN.out
      rw [a5, List.take_of_length_le (Nat.le_refl _)] at a4
      unfold leftOf
      rw [if_pos (by unfold gsz; omega), a4]
      unfold gsz
      omega
set_option maxHeartbeats 800000 in
theorem laws_szGraph (A : Option Addr) (n c : Nat) (gs : List Nd) (l : Int) (w : World) (B : Nat) (hB : B ≤ w.heap.size) (hn : n = gs.length) (h : GS w B A gs) (hl0 : 0 ≤ l) (hl : l ≤ 2000000) (hm : n ≤ 9223372036854775807) (hm' : ∀ j, (gs.getD j default).ps.length ≤ 9223372036854775807) :
    Calls Try.prog 8 #[.agg #[.slice A n c], .int .i64 l] w fun e w' => e = .returned (.int .i64 (leftOf l (gsz gs))) ∧ Below w.heap.size w w' := by
  have H := Lib.hid h
  have HC := Lib.hid fun (w : World) (hB : B ≤ w.heap.size) (h : GS w B A gs) => laws_szNodeS A n c gs l w B hB hn h hl0 hl hm hm'
  have hL : leftOf l (gsz gs) = -1 ∨ 0 ≤ leftOf l (gsz gs) := by unfold leftOf; split <;> omega
  generalize leftOf l (gsz gs) = L at *
  clear h hn hm'
  rcases hL with rfl | hL
  all_goals
    go_enter Try.func8, Try.ntmps8
    go_wp2_with fail
    refine (HC.out _ (by simp; omega) (H.out.alloc hB _)).mono ?_
    rintro e w' ⟨rfl, hb⟩
    go_wp2
    go_ret
    exact ⟨rfl, ((Below.refl _ _).alloc (Nat.le_refl _) _).trans (hb.mono (by simp))⟩
def eqNd (d e : Nd) : Bool := decide (d = e)
theorem eqNd_iff (d e : Nd) : eqNd d e = true ↔ d = e := by simp [eqNd]
set_option maxHeartbeats 800000 in
theorem laws_eqNode (A A' : Option Addr) (k k' : Int) (n n' c c' : Nat) (ps qs : List Pt) (w : World) (B : Nat) (hB : B ≤ w.heap.size) (hn : n = ps.length) (hn' : n' = qs.length) (h : PS w B A ps) (h' : PS w B A' qs) (hs : n ≤ 2000000) (hs' : n' ≤ 2000000) :
    Calls Try.prog 67 #[.agg #[.int .i64 k, .slice A n c], .agg #[.int .i64 k', .slice A' n' c']] w fun e w' => e = .returned (.bool (eqNd ⟨k, ps⟩ ⟨k', qs⟩)) ∧ Below w.heap.size w w' := by
  have hd : eqNd ⟨k, ps⟩ ⟨k', qs⟩ = (!(k != k') && decide (ps = qs)) := by
    simp only [eqNd, Nd.mk.injEq]
    by_cases h1 : k = k' <;> by_cases h2 : ps = qs <;> simp [h1, h2]
  rw [hd]
  have H := Lib.hid h
  have H' := Lib.hid h'
  have HN := Lib.hid hn
  have HN' := Lib.hid hn'
  clear hn hn' h h' hd
  cases hk : (k != k')
  · go_enter Try.func67, Try.ntmps67
    go_wp2_with fail
    refine (laws_eqFormula _ _ _ _ _ _ ps qs _ B (by simp; omega) HN.out HN'.out ((H.out.alloc hB _).alloc (by simp; omega) _) ((H'.out.alloc hB _).alloc (by simp; omega) _) hs hs').mono ?_
    rintro e w1 ⟨rfl, hb⟩
    go_wp2
    all_goals
      go_ret
      exact ⟨ret_b (by simp_all), ((Below.refl _ _).alloc (Nat.le_refl _) _).alloc (by simp) _ |>.trans (hb.mono (by simp; omega))⟩
  · go_enter Try.func67, Try.ntmps67
    go_wp2
    go_ret
    exact ⟨rfl, ((Below.refl _ _).alloc (Nat.le_refl _) _).alloc (by simp) _⟩
set_option maxRecDepth 100000 in
set_option maxHeartbeats 1600000 in
theorem laws_eqNodeS (A A' : Option Addr) (n n' c c' : Nat) (gs hs : List Nd) (w : World) (B : Nat) (hB : B ≤ w.heap.size) (hn : n = gs.length) (hn' : n' = hs.length) (h : GS w B A gs) (h' : GS w B A' hs) (hb1 : GB gs) (hb2 : GB hs) :
    Calls Try.prog 38 #[.slice A n c, .slice A' n' c'] w fun e w' => e = .returned (.bool (decide (gs = hs))) ∧ Below w.heap.size w w' := by
  have hm1 : n ≤ 1048576 := by rw [hn]; exact hb1.1
  have hm2 : n' ≤ 1048576 := by rw [hn']; exact hb2.1
  by_cases hl : n = n'
  · have hne : ((n : Int) != (n' : Int)) = false := by simp [hl]
    have HL := Lib.hid hl
    have HN := Lib.hid hn
    have HN' := Lib.hid hn'
    have H := Lib.hid h
    have H' := Lib.hid h'
    have HB1 := Lib.hid hb1
    have HB2 := Lib.hid hb2
    clear hl hn hn' h h' hb1 hb2
    go_enter Try.func38, Try.ntmps38
    go_wp2
    go_loopw [5] (fun i wr => ∃ k : Nat, k ≤ n ∧ i = .int .i64 k ∧ Hid (gs.take k = hs.take k) ∧ Below w.heap.size w wr) (fun i _ => n - (intOf i).toNat)
    case atStart => exact ⟨0, Nat.zero_le _, rfl, by simp [Hid], Below.refl _ _⟩
    case round =>
      obtain ⟨k, hk, rfl, HT, hb⟩ := hrel
      by_cases hlt : k < n
      · obtain ⟨b, off, rfl, hbB, hc⟩ := H.out (by have := HN.out; omega)
        obtain ⟨b', off', rfl, hbB', hc'⟩ := H'.out (by have := HN'.out; have := HL.out; omega)
        obtain ⟨c0, A1, n1, c1, c2, hn1', hps⟩ := hc k (by have := HN.out; omega)
        obtain ⟨d0, A2, n2, d1, d2, hn2', hqs⟩ := hc' k (by have := HN'.out; have := HL.out; omega)
        have hx1 := HB1.out.2 k
        have hx2 := HB2.out.2 k
        clear hc hc' H H'
        have hlt' : k < n' := by have := HL.out; omega
        have b0 := (hb.cell (p := ⟨b, off + k * 2, none⟩) (by simp; omega)).trans c0
        have b1 := (hb.cell (p := ⟨b, off + k * 2 + 1, none⟩) (by simp; omega)).trans c2
        have e0 := (hb.cell (p := ⟨b', off' + k * 2, none⟩) (by simp; omega)).trans d0
        have e1 := (hb.cell (p := ⟨b', off' + k * 2 + 1, none⟩) (by simp; omega)).trans d2
        have HPS := Lib.hid (hps.below hb hB)
        have HQS := Lib.hid (hqs.below hb hB)
        clear c0 c2 d0 d2 hps hqs
        generalize hp : gs.getD k default = p at *
        generalize hq : hs.getD k default = q at *
        have HP := Lib.hid hp
        have HQ := Lib.hid hq
        have HN1 := Lib.hid hn1'
        have HN2 := Lib.hid hn2'
        have hy1 : n1 ≤ 2000000 := by omega
        have hy2 : n2 ≤ 2000000 := by omega
        clear hp hq hn1' hn2' hx1 hx2
        go_wp2
        go_still_tail 8, (by kernel_rfl)
        go_wp2_with (go_at_call 67; refine (laws_eqNode _ _ _ _ _ _ _ _ p.ps q.ps wr.drew B (Nat.le_trans hB hb.size) HN1.out HN2.out HPS.out HQS.out hy1 hy2).mono ?_; rintro e w1 ⟨rfl, hb1⟩)
        · have ht : (!eqNd p q) = true := by assumption
          go_ret
          refine ⟨ret_b ?_, hb.drew.trans (hb1.mono hb.size)⟩
          have hne : gs.getD k default ≠ hs.getD k default := by
            rw [HP.out, HQ.out]; intro e; rw [(eqNd_iff p q).2 e] at ht; cases ht
          simp [getD_ne gs hs k hne]
        · have ht : (!eqNd p q) = false := by assumption
          have he : gs.getD k default = hs.getD k default := by
            rw [HP.out, HQ.out]; exact (eqNd_iff p q).1 (by simpa using ht)
          have hts := take_step gs hs k (by have := HN.out; omega) (by have := HN'.out; omega) HT.out he
          clear he
          go_roundw
          case rel => exact ⟨k + 1, by omega, by go_num, hts, hb.drew.trans (hb1.mono hb.size)⟩
          case measure => simp [intOf]; omega
      · go_wp2
        go_ret
        refine ⟨ret_b ?_, hb⟩
        have hkn : k = n := by omega
        have := take_all_eq gs hs n HN.out (HL.out.trans HN'.out) (by rw [← hkn]; exact HT.out)
        simp [this]
  · have hne : ((n : Int) != (n' : Int)) = true := by simp; omega
    have hf : decide (gs = hs) = false := by
      rw [decide_eq_false_iff_not]; rintro rfl; omega
    rw [hf]
    clear hl hn hn' h h' hf hb1 hb2
    go_enter Try.func38, Try.ntmps38
    go_wp2
    go_ret
    exact ⟨rfl, Below.refl _ _⟩
set_option maxHeartbeats 400000 in
theorem laws_eqGraph (A A' : Option Addr) (n n' c c' : Nat) (gs hs : List Nd) (w : World) (B : Nat) (hB : B ≤ w.heap.size) (hn : n = gs.length) (hn' : n' = hs.length) (h : GS w B A gs) (h' : GS w B A' hs) (hb1 : GB gs) (hb2 : GB hs) :
    Calls Try.prog 14 #[.agg #[.slice A n c], .agg #[.slice A' n' c']] w fun e w' => e = .returned (.bool (decide (gs = hs))) ∧ Below w.heap.size w w' := by
  have H := Lib.hid h
  have H' := Lib.hid h'
  have HN := Lib.hid hn
  have HN' := Lib.hid hn'
  have HB1 := Lib.hid hb1
  have HB2 := Lib.hid hb2
  clear hn hn' h h' hb1 hb2
  go_enter Try.func14, Try.ntmps14
  go_wp2_with fail
  refine (laws_eqNodeS _ _ _ _ _ _ gs hs _ B (by simp; omega) HN.out HN'.out ((H.out.alloc hB _).alloc (by simp; omega) _) ((H'.out.alloc hB _).alloc (by simp; omega) _) HB1.out HB2.out).mono ?_
  rintro e w1 ⟨rfl, hb⟩
  go_wp2
  all_goals
    go_ret
    exact ⟨ret_b (by simp_all), ((Below.refl _ _).alloc (Nat.le_refl _) _).alloc (by simp) _ |>.trans (hb.mono (by simp; omega))⟩
end Go.Proofs.Ytlliomnfbgdpfaa

namespace Go.Proofs.Ytlliomnfbgdpfaa
set_option linter.unusedSimpArgs false
set_option linter.unusedVariables false
open Go.RowKit
/-- Of what was there when the law began nothing has turned. -/
def Bl (W wk : World) : Prop := Below W.heap.size W wk
theorem Bl.step {W wk wl : World} (h : Bl W wk) (hb : Below wk.heap.size wk wl) : Bl W wl := Below.trans h (hb.mono (Below.size h))
theorem Bl.alloc {W wk : World} (h : Bl W wk) (o : Obj) : Bl W (wk.alloc o) := h.step ((Below.refl _ _).alloc (Nat.le_refl _) o)
theorem Bl.refl (W : World) : Bl W W := Below.refl _ _
theorem Bl.le {W wk : World} (h : Bl W wk) : W.heap.size ≤ wk.heap.size := Below.size h
theorem OwG.ncap {lo hi n c : Nat} {A : Option Addr} {gs : List Nd} {w : World} (h : OwG lo hi (.slice A n c) n gs w) : n ≤ c := by
  obtain ⟨_, xs, h1, _⟩ := h
  rcases h1.1.2 with ⟨hv, hz⟩ | ⟨g, cap, cur, hv, _, _, h2, _⟩
  · omega
  · simp only [Value.slice.injEq] at hv
    obtain ⟨_, _, rfl⟩ := hv
    exact h2
/-- A graph of the call's own, in blocks lo to hi - 1. -/
theorem graph_start {lo n c : Nat} {A : Option Addr} {gs : List Nd} {w : World} (h : OwG lo w.heap.size (.slice A n c) n gs w) : As lo w.heap.size (OwG lo w.heap.size (.slice A n c) n gs) w := ⟨h, Nat.le_refl _, OwG.loc _ _ _ _ _⟩
end Go.Proofs.Ytlliomnfbgdpfaa

namespace Go.Proofs.Ytlliomnfbgdpfaa
set_option linter.unusedSimpArgs false
set_option linter.unusedVariables false
open Go.ChangeShapes Go.WideShapes Go.ChangeAt Go.RowKit Go.Deep
theorem own : ownKnob Try.prog.godebug = none := by kernel_rfl
theorem laidOut : laidOutB Try.prog = true := by kernel_rfl
theorem cells_lawPart : Try.prog.cellsOf 130 = 5 := by kernel_rfl
theorem cells_int : Try.prog.cellsOf 3 = 1 := by kernel_rfl
theorem cells_lawFormula : Try.prog.cellsOf 85 = 1 := by kernel_rfl
theorem cells_lawParts : Try.prog.cellsOf 83 = 1 := by kernel_rfl
theorem add_of (b off n : Nat) : (⟨b, off, none⟩ : Addr).add n = ⟨b, off + n, none⟩ := by
  unfold Addr.add
  by_cases h : n = 0 <;> simp [h]
theorem add_add' (a : Addr) (i j : Nat) : (a.add i).add j = a.add (i + j) := by
  unfold Addr.add
  by_cases hi : i = 0 <;> by_cases hj : j = 0 <;> simp [hi, hj, Nat.add_assoc]
theorem one_of_list (cs : List Value) (h : cs.length = 1) : ∃ c, cs = [c] := by
  match cs, h with
  | [c], _ => exact ⟨c, rfl⟩
theorem choose_parts (f : Nat → Nat → Option Value) (len : Nat) (hp : ∀ i, i < len → ∃ p : Pt, ∀ j, j < 5 → f i j = p.cells[j]?) :
    ∃ ps : List Pt, ps.length = len ∧ ∀ i, i < len → ∀ j, j < 5 → f i j = (ps.getD i default).cells[j]? := by
  induction len with
  | zero => exact ⟨[], rfl, fun i hi => by omega⟩
  | succ k ih =>
    obtain ⟨ps, hl, hps⟩ := ih (fun i hi => hp i (by omega))
    obtain ⟨p, hpp⟩ := hp k (by omega)
    refine ⟨ps ++ [p], by simp [hl], fun i hi j hj => ?_⟩
    rcases Nat.lt_or_ge i k with h1 | h1
    · rw [hps i h1 j hj]; simp [List.getD, List.getElem?_append, hl, h1]
    · obtain rfl : i = k := by omega
      rw [hpp j hj]; simp [List.getD, List.getElem?_append, hl]
section
variable {H : Type} {enc : TypeId × Value → H} {w : World} {base : Nat} {spare : Nat → Bool} {held : Bool}
set_option maxRecDepth 100000 in
theorem part_cells {fuel : Nat} {cs : List Value} {x : DataW H × List MemPlace} (h : DataW.trod enc Try.prog w base spare held fuel 130 cs = some x) :
    ∃ p : Pt, cs = p.cells := by
  obtain ⟨xs, n, _, _, hl, hxl, hf⟩ := DataW.trod_struct Try.underlying130 h
  rw [cells_lawPart] at hl
  match cs, hl with
  | [c0, c1, c2, c3, c4], _ =>
    have key (c : Value) (m : Nat) (i : Nat) (hi : i < xs.length) (h1 : DataW.trod enc Try.prog w base spare held m 3 (List.take (Try.prog.cellsOf 3) (c :: ([c0, c1, c2, c3, c4] : List Value).drop (i + 1))) = xs[i]?) : ∃ k : Int, c = .int .i64 k := by
      rw [cells_int, List.getElem?_eq_getElem hi] at h1
      obtain ⟨k, e, _⟩ := DataW.trod_int Try.underlying3 h1
      exact ⟨k, by simpa using e⟩
    have hxl' : xs.length = 5 := hxl
    obtain ⟨k0, rfl⟩ := key c0 n 0 (by omega) (hf 0 _ rfl)
    obtain ⟨k1, rfl⟩ := key c1 n 1 (by omega) (hf 1 _ rfl)
    obtain ⟨k2, rfl⟩ := key c2 n 2 (by omega) (hf 2 _ rfl)
    obtain ⟨k3, rfl⟩ := key c3 n 3 (by omega) (hf 3 _ rfl)
    obtain ⟨k4, rfl⟩ := key c4 n 4 (by omega) (hf 4 _ rfl)
    exact ⟨⟨k0, k1, k2, k3, k4⟩, rfl⟩
set_option maxRecDepth 100000 in
theorem open_parts {fuel : Nat} {cs : List Value} {x : DataW H × List MemPlace} (h : DataW.trod enc Try.prog w base spare held fuel 83 cs = some x) :
    ∃ (A : Option Addr) (n c : Nat) (ps : List Pt), cs = [.slice A n c] ∧ n = ps.length ∧ n ≤ 9223372036854775807 ∧ PS w w.heap.size A ps := by
  rcases open_slice Try.underlying83 h with ⟨rfl, _⟩ | ⟨a, len, cap, m, n, D, Pl, rfl, hb, hl, hm, hmm, _, hi⟩
  · exact ⟨none, 0, 0, [], rfl, rfl, by omega, PS.nil _ _ _⟩
  · have hlm : len ≤ m := by rw [hmm]; split <;> omega
    have hp : ∀ i, i < len → ∃ p : Pt, ∀ j, j < 5 → w.cell? (a.add (i * 5 + j)) = p.cells[j]? := by
      intro i hlt
      obtain ⟨cs', hc, ht⟩ := hi i (by omega)
      obtain ⟨p, rfl⟩ := part_cells ht
      rw [cells_lawPart] at hc
      obtain ⟨_, _, hat⟩ := World.cells?_some hc
      exact ⟨p, fun j hj => by rw [← add_add']; exact hat j hj⟩
    obtain ⟨ps, hlen, hps⟩ := choose_parts (fun i j => w.cell? (a.add (i * 5 + j))) len hp
    refine ⟨some a, len, cap, ps, rfl, hlen.symm, by unfold maxLen at hm; omega, fun hn => ?_⟩
    have h0 := hps 0 (by omega) 0 (by omega)
    obtain ⟨b, off, spot⟩ := a
    have hspot : spot = none := by
      have h1 : w.cell? ⟨b, off, spot⟩ = some (.int .i64 (ps.getD 0 default).k) := by simpa [Addr.add, Pt.cells] using h0
      exact World.cell?_spot h1
    subst hspot
    have hblk : b < w.heap.size := by
      have h1 : w.cell? ⟨b, off, none⟩ = some (.int .i64 (ps.getD 0 default).k) := by simpa [Addr.add, Pt.cells] using h0
      exact World.block_lt_of_cell? w _ h1
    refine ⟨b, off, rfl, hblk, fun j hj => ?_⟩
    have g := hps j (by omega)
    have g0 := g 0 (by omega)
    have g1 := g 1 (by omega)
    have g2 := g 2 (by omega)
    have g3 := g 3 (by omega)
    have g4 := g 4 (by omega)
    simp only [add_of] at g0 g1 g2 g3 g4
    exact ⟨g0, g1, g2, g3, g4⟩
end
end Go.Proofs.Ytlliomnfbgdpfaa

namespace Go.Proofs.Ytlliomnfbgdpfaa
set_option linter.unusedSimpArgs false
set_option linter.unusedVariables false
open Go.ChangeShapes Go.WideShapes Go.ChangeAt Go.RowKit Go.Deep
theorem cells_lawNode : Try.prog.cellsOf 87 = 2 := by kernel_rfl
theorem cells_lawGraph : Try.prog.cellsOf 24 = 1 := by kernel_rfl
theorem cells_lawNodes : Try.prog.cellsOf 22 = 1 := by kernel_rfl
theorem choose_list {α : Type} [Inhabited α] (P : Nat → α → Prop) (len : Nat) (hp : ∀ i, i < len → ∃ a, P i a) : ∃ l : List α, l.length = len ∧ ∀ i, i < len → P i (l.getD i default) := by
  induction len with
  | zero => exact ⟨[], rfl, fun i hi => by omega⟩
  | succ k ih =>
    obtain ⟨l, hl, hP⟩ := ih (fun i hi => hp i (by omega))
    obtain ⟨a, ha⟩ := hp k (by omega)
    refine ⟨l ++ [a], by simp [hl], fun i hi => ?_⟩
    rcases Nat.lt_or_ge i k with h1 | h1
    · have := hP i h1
      simpa [List.getD, List.getElem?_append, hl, h1] using this
    · obtain rfl : i = k := by omega
      simpa [List.getD, List.getElem?_append, hl] using ha
section
variable {H : Type} {enc : TypeId × Value → H} {w : World} {base : Nat} {spare : Nat → Bool} {held : Bool}
set_option maxRecDepth 100000 in
theorem node_cells {fuel : Nat} {cs : List Value} {x : DataW H × List MemPlace} (h : DataW.trod enc Try.prog w base spare held fuel 87 cs = some x) :
    ∃ (k : Int) (A : Option Addr) (n c : Nat) (ps : List Pt), cs = [.int .i64 k, .slice A n c] ∧ n = ps.length ∧ n ≤ 9223372036854775807 ∧ PS w w.heap.size A ps := by
  obtain ⟨xs, n, _, _, hl, hxl, hf⟩ := DataW.trod_struct Try.underlying87 h
  rw [cells_lawNode] at hl
  match cs, hl with
  | [c0, c1], _ =>
    have hxl' : xs.length = 2 := hxl
    have h0 : DataW.trod enc Try.prog w base spare held n 3 (List.take (Try.prog.cellsOf 3) [c0, c1]) = xs[0]? := hf 0 _ rfl
    have h1 : DataW.trod enc Try.prog w base spare held n 85 (List.take (Try.prog.cellsOf 85) [c1]) = xs[1]? := hf 1 _ rfl
    rw [cells_int, List.getElem?_eq_getElem (by omega)] at h0
    rw [cells_lawFormula, List.getElem?_eq_getElem (by omega)] at h1
    obtain ⟨k, e, _⟩ := DataW.trod_int Try.underlying3 h0
    have e0 : c0 = .int .i64 k := by simpa using e
    obtain ⟨ys, n2, _, _, hl2, hyl, hg⟩ := DataW.trod_struct Try.underlying85 h1
    have hyl' : ys.length = 1 := hyl
    have h2 : DataW.trod enc Try.prog w base spare held n2 83 (List.take (Try.prog.cellsOf 83) [c1]) = ys[0]? := hg 0 _ rfl
    rw [List.getElem?_eq_getElem (by omega)] at h2
    obtain ⟨A, n3, c', ps, e3, h3, h4, h5⟩ := open_parts h2
    rw [cells_lawParts] at e3
    have e1 : c1 = .slice A n3 c' := by simpa using e3
    exact ⟨k, A, n3, c', ps, by rw [e0, e1], h3, h4, h5⟩
set_option maxRecDepth 100000 in
theorem open_nodes {fuel : Nat} {cs : List Value} {x : DataW H × List MemPlace} (h : DataW.trod enc Try.prog w base spare held fuel 22 cs = some x) :
    ∃ (A : Option Addr) (n c : Nat) (gs : List Nd), cs = [.slice A n c] ∧ n = gs.length ∧ n ≤ 9223372036854775807 ∧ (∀ j, (gs.getD j default).ps.length ≤ 9223372036854775807) ∧ GS w w.heap.size A gs := by
  rcases open_slice Try.underlying22 h with ⟨rfl, _⟩ | ⟨a, len, cap, m, n, D, Pl, rfl, hb, hl, hm, hmm, _, hi⟩
  · exact ⟨none, 0, 0, [], rfl, rfl, by omega, fun j => by simp [List.getD]; exact Nat.zero_le _, GS.nil _ _ _⟩
  · have hlm : len ≤ m := by rw [hmm]; split <;> omega
    have hp : ∀ i, i < len → ∃ d : Nd, w.cell? (a.add (i * 2)) = some (.int .i64 d.k) ∧ ∃ A n c, w.cell? (a.add (i * 2 + 1)) = some (.slice A n c) ∧ n = d.ps.length ∧ n ≤ 9223372036854775807 ∧ PS w w.heap.size A d.ps := by
      intro i hlt
      obtain ⟨cs', hc, ht⟩ := hi i (by omega)
      obtain ⟨k, A, n, c, ps, rfl, h1, h2, h3⟩ := node_cells ht
      rw [cells_lawNode] at hc
      obtain ⟨_, _, hat⟩ := World.cells?_some hc
      have a0 := hat 0 (by simp)
      have a1 := hat 1 (by simp)
      rw [add_add'] at a0 a1
      exact ⟨⟨k, ps⟩, a0, A, n, c, a1, h1, h2, h3⟩
    obtain ⟨gs, hlen, hgs⟩ := choose_list _ len hp
    refine ⟨some a, len, cap, gs, rfl, hlen.symm, by unfold maxLen at hm; omega, fun j => ?_, fun hn => ?_⟩
    · by_cases hj : j < len
      · obtain ⟨_, A, n, c, _, h1, h2, _⟩ := hgs j hj
        omega
      · rw [show gs.getD j default = default by simp [List.getD, List.getElem?_eq_none (show gs.length ≤ j by omega)]]
        exact Nat.zero_le _
    · obtain ⟨h0, _⟩ := hgs 0 (by omega)
      obtain ⟨b, off, spot⟩ := a
      have h1 : w.cell? ⟨b, off, spot⟩ = some (.int .i64 (gs.getD 0 default).k) := by simpa [Addr.add] using h0
      have hspot : spot = none := World.cell?_spot h1
      subst hspot
      refine ⟨b, off, rfl, World.block_lt_of_cell? w _ h1, fun j hj => ?_⟩
      obtain ⟨g0, A, n, c, g1, g2, _, g3⟩ := hgs j (by omega)
      rw [add_of] at g0 g1
      exact ⟨g0, A, n, c, g1, g2, g3⟩
set_option maxRecDepth 100000 in
theorem open_graph {r : Reach} {b0 : Nat} {v : Value} {d : DataW H} {p : List MemPlace} (hv : Value.okWide Try.prog w r b0 24 v) (h : DataW.Trod enc Try.prog w base spare held 24 v d p) :
    ∃ (A : Option Addr) (n c : Nat) (gs : List Nd), v = .agg #[.slice A n c] ∧ n = gs.length ∧ n ≤ 9223372036854775807 ∧ (∀ j, (gs.getD j default).ps.length ≤ 9223372036854775807) ∧ GS w w.heap.size A gs := by
  obtain ⟨cs, rfl, hsz⟩ := okWide_struct Try.underlying24 hv
  obtain ⟨fuel, hf⟩ := h
  obtain ⟨xs, n, _, _, hl, hxl, hg⟩ := DataW.trod_struct Try.underlying24 hf
  obtain ⟨l⟩ := cs
  obtain ⟨c, rfl⟩ := one_of_list l (by rw [cells_lawGraph] at hsz; simpa using hsz)
  have hxl' : xs.length = 1 := hxl
  have h1 : DataW.trod enc Try.prog w base spare held n 22 (List.take (Try.prog.cellsOf 22) [c]) = xs[0]? := hg 0 _ rfl
  rw [List.getElem?_eq_getElem (by omega)] at h1
  obtain ⟨A, n, c', gs, e, h2, h3, h4, h5⟩ := open_nodes h1
  rw [cells_lawNodes] at e
  have e' : c = .slice A n c' := by simpa using e
  subst e'
  exact ⟨A, n, c', gs, rfl, h2, h3, h4, h5⟩
end
end Go.Proofs.Ytlliomnfbgdpfaa

namespace Go.Proofs.Ytlliomnfbgdpfaa
set_option linter.unusedSimpArgs false
set_option linter.unusedVariables false
open Go.ChangeShapes Go.WideShapes Go.ChangeAt Go.RowKit Go.Deep
theorem cells_intS : Try.prog.cellsOf 40 = 1 := by kernel_rfl
theorem cells_intSS : Try.prog.cellsOf 25 = 1 := by kernel_rfl
section
variable {H : Type} {enc : TypeId × Value → H} {w : World} {base : Nat} {spare : Nat → Bool} {held : Bool}
set_option maxRecDepth 100000 in
theorem open_intS {fuel : Nat} {cs : List Value} {x : DataW H × List MemPlace} (h : DataW.trod enc Try.prog w base spare held fuel 40 cs = some x) :
    ∃ (A : Option Addr) (n c : Nat) (xs : List Int), cs = [.slice A n c] ∧ n = xs.length ∧ n ≤ 9223372036854775807 ∧ IS w w.heap.size A xs := by
  rcases open_ints Try.underlying40 Try.underlying3 cells_int h with ⟨hcs, _⟩ | ⟨x, len0, cap0, zs, hcs, _, hl, hm, hz, _, hcell, _⟩
  · exact ⟨none, 0, 0, [], hcs, rfl, by omega, IS.nil _ _ _⟩
  · have hzl : len0 ≤ zs.length := by rw [hz]; split <;> omega
    refine ⟨some x, len0, cap0, zs.take len0, hcs, by simp; omega, by unfold maxLen at hm; omega, fun hn => ?_⟩
    have hlen : (zs.take len0).length = len0 := by simp; omega
    have h0 := hcell 0 (by omega)
    obtain ⟨b, off, spot⟩ := x
    have hspot : spot = none := by
      have h1 : w.cell? ⟨b, off, spot⟩ = some (.int .i64 (zs.getD 0 0)) := by simpa [Addr.add] using h0
      exact World.cell?_spot h1
    subst hspot
    have hblk : b < w.heap.size := by
      have h1 : w.cell? ⟨b, off, none⟩ = some (.int .i64 (zs.getD 0 0)) := by simpa [Addr.add] using h0
      exact World.block_lt_of_cell? w _ h1
    refine ⟨b, off, rfl, hblk, fun j hj => ?_⟩
    have g := hcell j (by omega)
    rw [add_of] at g
    rw [g]
    congr 2
    simp only [List.getD, List.getElem?_take, if_pos (show j < len0 by omega)]
set_option maxRecDepth 100000 in
theorem open_intSS {fuel : Nat} {cs : List Value} {x : DataW H × List MemPlace} (h : DataW.trod enc Try.prog w base spare held fuel 25 cs = some x) :
    ∃ (A : Option Addr) (n c : Nat) (xss : List (List Int)), cs = [.slice A n c] ∧ n = xss.length ∧ n ≤ 9223372036854775807 ∧ (∀ j, (xss.getD j []).length ≤ 9223372036854775807) ∧ SS w w.heap.size A xss := by
  rcases open_slice Try.underlying25 h with ⟨rfl, _⟩ | ⟨a, len, cap, m, n, D, Pl, rfl, hb, hl, hm, hmm, _, hi⟩
  · exact ⟨none, 0, 0, [], rfl, rfl, by omega, fun j => by simp [List.getD]; try exact Nat.zero_le _, SS.nil _ _ _⟩
  · have hlm : len ≤ m := by rw [hmm]; split <;> omega
    have hp : ∀ i, i < len → ∃ xs : List Int, ∃ A n c, w.cell? (a.add i) = some (.slice A n c) ∧ n = xs.length ∧ n ≤ 9223372036854775807 ∧ IS w w.heap.size A xs := by
      intro i hlt
      obtain ⟨cs', hc, ht⟩ := hi i (by omega)
      obtain ⟨A, n, c, xs, rfl, h1, h2, h3⟩ := open_intS ht
      rw [cells_intS] at hc
      obtain ⟨_, _, hat⟩ := World.cells?_some hc
      have a0 := hat 0 (by simp)
      rw [add_add', Nat.mul_one, Nat.add_zero] at a0
      exact ⟨xs, A, n, c, a0, h1, h2, h3⟩
    obtain ⟨xss, hlen, hxs⟩ := choose_list _ len hp
    refine ⟨some a, len, cap, xss, rfl, hlen.symm, by unfold maxLen at hm; omega, fun j => ?_, fun hn => ?_⟩
    · by_cases hj : j < len
      · obtain ⟨A, n, c, _, h1, h2, _⟩ := hxs j hj
        have h1' : n = (xss.getD j []).length := h1
        omega
      · rw [show xss.getD j [] = [] by simp [List.getD, List.getElem?_eq_none (show xss.length ≤ j by omega)]]
        exact Nat.zero_le _
    · obtain ⟨A, n, c, h0, _⟩ := hxs 0 (by omega)
      obtain ⟨b, off, spot⟩ := a
      have h1 : w.cell? ⟨b, off, spot⟩ = some (.slice A n c) := by simpa [Addr.add] using h0
      have hspot : spot = none := World.cell?_spot h1
      subst hspot
      refine ⟨b, off, rfl, World.block_lt_of_cell? w _ h1, fun j hj => ?_⟩
      obtain ⟨A, n, c, g0, g1, _, g3⟩ := hxs j (by omega)
      rw [add_of] at g0
      exact ⟨A, n, c, g0, g1, g3⟩
end
end Go.Proofs.Ytlliomnfbgdpfaa
