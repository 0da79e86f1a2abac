/- Lists of changes of keys: as lists of acts. -/
import Derived.Test.YtjlfabfejnpaaaaS16
import Derived.Laws.MakeOwn
import Derived.WalkSmall

namespace Go.Proofs.Ytjlfabfejnpaaaa
set_option linter.unusedSimpArgs false
set_option linter.unusedVariables false
open Go.RowKit

/-- The slice value is one of the call's own, of acts. -/
def OwnC (w : World) (base : Nat) (v : Value) (xs : List Ac) : Prop := w.ownsRow base 55 3 v xs.length (xs.flatMap Ac.cells)
/-- Returns a slice of fresh acts. -/
def RetC (w : World) (xs : List Ac) (e : Ending) (w' : World) : Prop := ∃ v, e = .returned v ∧ OwnC w' w.heap.size v xs ∧ Below w.heap.size w w'
theorem RetC.nil {w w' : World} (hb : Below w.heap.size w w') : RetC w [] (.returned (.slice none 0 0)) w' := ⟨_, rfl, World.ownsRow_nil _ _ _ _, hb⟩

theorem OwR.chgs {lo hi : Nat} {n c : Nat} {A : Option Addr} {ps : List Ac} {w : World} (h : OwR lo hi 55 3 (.slice A n c) n (ps.flatMap Ac.cells) w) : CS w hi A ps := by
  intro hn
  obtain ⟨b, off, rfl, _, hc⟩ := CS.of_own h.1 hn
  exact ⟨b, off, rfl, h.2 b rfl, hc⟩
theorem As.chgs {lo hi n c : Nat} {A : Option Addr} {ps : List Ac} {w : World} (h : As lo hi (OwR lo hi 55 3 (.slice A n c) n (ps.flatMap Ac.cells)) w) : CS w w.heap.size A ps := h.it.chgs.more h.le

set_option maxHeartbeats 800000 in
theorem laws_eqChange (p q : Ac) (w : World) :
    Calls Try.prog 55 #[.agg #[.int .i64 p.k, .int .i64 p.a, .int .i64 p.b], .agg #[.int .i64 q.k, .int .i64 q.a, .int .i64 q.b]] w fun e w' => e = .returned (.bool (eqAc p q)) ∧ Below w.heap.size w w' := by
  obtain ⟨k, a, b⟩ := p
  obtain ⟨k', a', b'⟩ := q
  go_enter Try.func55, Try.ntmps55
  go_wp2
  all_goals
    go_ret
    refine ⟨ret_b ?_, ((Below.refl _ _).alloc (Nat.le_refl _) _).alloc (by simp) _⟩
    simp_all [eqAc, bne]

set_option maxRecDepth 100000 in
set_option maxHeartbeats 800000 in
theorem laws_eqChangeS (A A' : Option Addr) (n n' c c' : Nat) (ps qs : List Ac) (w : World) (B : Nat) (hB : B ≤ w.heap.size) (hn : n = ps.length) (hn' : n' = qs.length) (h : CS w B A ps) (h' : CS w B A' qs) (hs : n ≤ 2000000) (hs' : n' ≤ 2000000) :
    Calls Try.prog 25 #[.slice A n c, .slice A' n' c'] w fun e w' => e = .returned (.bool (decide (ps = qs))) ∧ Below w.heap.size w w' := by
  by_cases hl : n = n'
  · have hne : ((n : Int) != (n' : Int)) = false := by simp [hl]
    have HL := Lib.hid hl
    have HN := Lib.hid hn
    have HN' := Lib.hid hn'
    have H := Lib.hid h
    have H' := Lib.hid h'
    clear hl hn hn' h h'
    go_enter Try.func25, Try.ntmps25
    go_wp2
    go_loopw [5] (fun i wr => ∃ k : Nat, k ≤ n ∧ i = .int .i64 k ∧ Hid (ps.take k = qs.take k) ∧ Below w.heap.size w wr) (fun i _ => n - (intOf i).toNat)
    case atStart => exact ⟨0, Nat.zero_le _, rfl, by simp [Hid], Below.refl _ _⟩
    case round =>
      obtain ⟨k, hk, rfl, HT, hb⟩ := hrel
      by_cases hlt : k < n
      · obtain ⟨b, off, rfl, hbB, hc⟩ := H.out (by have := HN.out; omega)
        obtain ⟨b', off', rfl, hbB', hc'⟩ := H'.out (by have := HN'.out; have := HL.out; omega)
        obtain ⟨c0, c1, c2⟩ := hc k (by have := HN.out; omega)
        obtain ⟨d0, d1, d2⟩ := hc' k (by have := HN'.out; have := HL.out; omega)
        clear hc hc' H H'
        have hlt' : k < n' := by have := HL.out; omega
        have b0 := (hb.cell (p := ⟨b, off + k * 3, none⟩) (by simp; omega)).trans c0
        have b1 := (hb.cell (p := ⟨b, off + k * 3 + 1, none⟩) (by simp; omega)).trans c1
        have b2 := (hb.cell (p := ⟨b, off + k * 3 + 2, none⟩) (by simp; omega)).trans c2
        have e0 := (hb.cell (p := ⟨b', off' + k * 3, none⟩) (by simp; omega)).trans d0
        have e1 := (hb.cell (p := ⟨b', off' + k * 3 + 1, none⟩) (by simp; omega)).trans d1
        have e2 := (hb.cell (p := ⟨b', off' + k * 3 + 2, none⟩) (by simp; omega)).trans d2
        clear c0 c1 c2 d0 d1 d2
        generalize hp : ps.getD k default = p at *
        generalize hq : qs.getD k default = q at *
        have HP := Lib.hid hp
        have HQ := Lib.hid hq
        clear hp hq
        go_wp2
        go_still_tail 8, (by kernel_rfl)
        go_wp2_with (go_at_call 55; refine (laws_eqChange _ _ _).mono ?_; rintro e w1 ⟨rfl, hb1⟩)
        · have ht : (!eqAc p q) = true := by assumption
          go_ret
          refine ⟨ret_b ?_, hb.drew.trans (hb1.mono hb.size)⟩
          have hne : ps.getD k default ≠ qs.getD k default := by
            rw [HP.out, HQ.out]; intro e; rw [(eqAc_iff p q).2 e] at ht; cases ht
          simp [getD_ne ps qs k hne]
        · have ht : (!eqAc p q) = false := by assumption
          have he : ps.getD k default = qs.getD k default := by
            rw [HP.out, HQ.out]; exact (eqAc_iff p q).1 (by simpa using ht)
          have hts := take_step ps qs k (by have := HN.out; omega) (by have := HN'.out; omega) HT.out he
          clear he
          go_roundw
          case rel => exact ⟨k + 1, by omega, by go_num, hts, hb.drew.trans (hb1.mono hb.size)⟩
          case measure => simp [intOf]; omega
      · go_wp2
        go_ret
        refine ⟨ret_b ?_, hb⟩
        have hkn : k = n := by omega
        have := take_all_eq ps qs n HN.out (HL.out.trans HN'.out) (by rw [← hkn]; exact HT.out)
        simp [this]
  · have hne : ((n : Int) != (n' : Int)) = true := by simp; omega
    have hf : decide (ps = qs) = false := by
      rw [decide_eq_false_iff_not]; rintro rfl; omega
    rw [hf]
    clear hl hn hn' h h' hf
    go_enter Try.func25, Try.ntmps25
    go_wp2
    go_ret
    exact ⟨rfl, Below.refl _ _⟩

set_option maxHeartbeats 400000 in
theorem laws_toChange (p : Ac) (w : World) :
    Calls Try.prog 58 #[.agg #[.int .i64 p.k, .int .i64 p.a, .int .i64 p.b]] w fun e w' => e = .returned (.agg #[.int .i64 p.k, .int .i64 p.a, .int .i64 p.b]) ∧ Below w.heap.size w w' := by
  obtain ⟨k, a, b⟩ := p
  go_enter Try.func58, Try.ntmps58
  go_wp2
  refine bodyPost_ret (v := .agg #[.int .i64 k, .int .i64 a, .int .i64 b]) (by simp [results, Try.results58, go_sem]) rfl ⟨rfl, ?_⟩
  exact (((Below.refl _ _).alloc (Nat.le_refl _) _).alloc (by simp) _).alloc (by simp; omega) _

theorem info_chg : (Try.prog.info? 55).map (fun i => (i.zero, i.size, i.bytes)) = some (some (.agg #[.int .i64 0, .int .i64 0, .int .i64 0]), 3, 24) := by kernel_rfl

set_option maxHeartbeats 800000 in
theorem laws_toChangeS (A : Option Addr) (n c : Nat) (ps : List Ac) (w : World) (B : Nat) (hB : B ≤ w.heap.size) (hn : n = ps.length) (h : CS w B A ps) (hs : n ≤ 2000000) :
    Calls Try.prog 30 #[.slice A n c] w fun e w' => e = .returned (.slice (some ⟨w.heap.size, 0, none⟩) n n) ∧ w'.ownsRow w.heap.size 55 3 (.slice (some ⟨w.heap.size, 0, none⟩) n n) n (ps.flatMap Ac.cells) ∧ Below w.heap.size w w' := by
  obtain ⟨i0, hi, hz0, hz1, hz2⟩ := info_parts info_chg
  obtain ⟨w0, hmk, hown0, hgr0⟩ := run_make_full (P := Try.prog) w w.heap.size 29 55 i0 _ 3 Try.underlying29 hi hz0 hz1 .i64 .i64 n (by rw [hz2]; omega) (by unfold maxLen; omega) (Nat.le_refl _)
  have H := Lib.hid h
  have HN := Lib.hid hn
  clear hn h
  go_enter Try.func30, Try.ntmps30
  go_wp2
  go_loopw [4] (fun i wr => ∃ (k : Nat) (xs : List Value), k ≤ n ∧ i = .int .i64 k ∧ Hid (wr.ownsRow w.heap.size 55 3 (.slice (some ⟨w.heap.size, 0, none⟩) n n) n xs) ∧ Hid (xs.take (k * 3) = (ps.take k).flatMap Ac.cells) ∧ Below w.heap.size w wr) (fun i _ => n - (intOf i).toNat)
  case atStart => exact ⟨0, _, Nat.zero_le _, rfl, hown0, by simp [Hid], ⟨hgr0.os, hgr0.tape, hgr0.output, hgr0.size, fun k hk => hgr0.block k hk (by simp)⟩⟩
  case round =>
    obtain ⟨k, xs, hk, rfl, HO, HT, hb⟩ := hrel
    by_cases hlt : k < n
    · obtain ⟨b, off, rfl, hbB, hc⟩ := H.out (by have := HN.out; omega)
      obtain ⟨c0, c1, c2⟩ := hc k (by have := HN.out; omega)
      clear hc H
      have b0 := (hb.cell (p := ⟨b, off + k * 3, none⟩) (by simp; omega)).trans c0
      have b1 := (hb.cell (p := ⟨b, off + k * 3 + 1, none⟩) (by simp; omega)).trans c1
      have b2 := (hb.cell (p := ⟨b, off + k * 3 + 2, none⟩) (by simp; omega)).trans c2
      clear c0 c1 c2
      generalize hp : ps.getD k default = p at *
      have HP := Lib.hid hp
      clear hp
      go_wp2_with fail
      refine (laws_toChange _ _).mono ?_
      rintro e w1 ⟨rfl, hb1⟩
      have hO1 := own_below HO.out hb1
      have hxl : xs.length = n * 3 := hO1.1
      have u0 := hO1.cellAt (k * 3) (by omega)
      have u1 := hO1.cellAt (k * 3 + 1) (by omega)
      have u2 := hO1.cellAt (k * 3 + 2) (by omega)
      rw [List.getElem?_eq_getElem (by omega)] at u0 u1 u2
      have f0 := hO1.frozenAt (k * 3)
      have f1 := hO1.frozenAt (k * 3 + 1)
      have f2 := hO1.frozenAt (k * 3 + 2)
      generalize xs[k * 3]'(by omega) = v0 at u0
      generalize xs[k * 3 + 1]'(by omega) = v1 at u1
      generalize xs[k * 3 + 2]'(by omega) = v2 at u2
      have HO1 := Lib.hid hO1
      have HXL := Lib.hid hxl
      clear hO1 hxl HO
      go_wp2
      go_roundw
      case rel =>
        have hx5 : (set3 xs (k * 3) p).take ((k + 1) * 3) = (ps.take (k + 1)).flatMap Ac.cells := by
          rw [show (k + 1) * 3 = k * 3 + 3 by omega, take_set3 xs (k * 3) p (by have := HXL.out; omega), HT.out, take_succ_getD ps k (by have := HN.out; omega), HP.out]
          simp
        exact ⟨k + 1, _, by omega, by go_num, own_set3 HO1.out (k * 3) p, hx5, below_set3 (hb.trans (hb1.mono hb.size)) (Nat.le_refl _) _ _⟩
      case measure => simp [intOf]; omega
    · go_wp2
      go_ret
      have hkn : k = n := by omega
      have hx : xs = ps.flatMap Ac.cells := by
        have h1 := HT.out
        have h2 : xs.length = n * 3 := HO.out.1
        rw [hkn, List.take_of_length_le (by omega), List.take_of_length_le (by have := HN.out; omega)] at h1
        exact h1
      exact ⟨by simp, by rw [← hx]; exact HO.out, hb⟩

set_option maxHeartbeats 400000 in
theorem laws_szChangeS (A : Option Addr) (n c : Nat) (l : Int) (w : World) (hl0 : 0 ≤ l) (hl : l ≤ 2000000) (hn : n ≤ 9223372036854775807) :
    Calls Try.prog 28 #[.slice A n c, .int .i64 l] w fun e w' => e = .returned (.int .i64 (if l - n < 0 then -1 else l - n)) ∧ w = w' := by
  by_cases h : l - n < 0
  · rw [if_pos h]
    go_enter Try.func28, Try.ntmps28
    go_wp2
    go_ret
    exact ⟨rfl, rfl⟩
  · rw [if_neg h]
    go_enter Try.func28, Try.ntmps28
    go_wp2
    go_ret
    exact ⟨rfl, rfl⟩
theorem sz_chgs (A : Option Addr) (n c : Nat) (ps : List Ac) (l : Int) (w : World) (hn : n = ps.length) (hl0 : 0 ≤ l) (hl : l ≤ 2000000) (hm : n ≤ 9223372036854775807) :
    Calls Try.prog 28 #[.slice A n c, .int .i64 l] w fun e w' => e = .returned (.int .i64 (leftOf l ps.length)) ∧ Below w.heap.size w w' := by
  have e : leftOf l ps.length = if l - n < 0 then -1 else l - n := by
    unfold leftOf
    rw [hn]
    split <;> split <;> omega
  rw [e]
  refine (laws_szChangeS A n c l w hl0 hl hm).mono ?_
  rintro e w' ⟨he, rfl⟩
  exact ⟨he, Below.refl _ _⟩

set_option maxRecDepth 100000 in
set_option maxHeartbeats 1600000 in
theorem laws_markChangeS (base n : Nat) (v : Value) (xs : List Value) (k : Int) (w : World) (h : w.ownsRow base 55 3 v n xs) (hk : 0 ≤ k) (hk' : k ≤ 1125899906842624) (hs : n ≤ 2000000) :
    Calls Try.prog 26 #[v, .int .i64 k] w fun e w' => Marked w base 55 3 v n k e w' := by
  rcases h.2 with ⟨rfl, rfl⟩ | ⟨g, cap, _, rfl, hbg, hgh, _⟩
  · clear h
    go_enter Try.func26, Try.ntmps26
    go_wp2
    go_loopw [5, 1] (fun i u wr => i = .int .i64 0 ∧ u = .int .i64 k ∧ wr = w) (fun i _ _ => 0)
    case atStart => exact ⟨rfl, rfl, rfl⟩
    case round =>
      obtain ⟨rfl, rfl, rfl⟩ := hrel
      go_wp2
      go_ret
      exact ⟨by simp, World.ownsRow_nil _ _ _ _, grown_refl _ _⟩
  · have HO := Lib.hid h
    have hgl : g < w.heap.size := (h.lt g rfl).2
    clear h hgh
    go_enter Try.func26, Try.ntmps26
    go_wp2
    go_loopw [5, 1] (fun i u wr => ∃ (j : Nat) (ys : List Value), j ≤ n ∧ i = .int .i64 j ∧ u = .int .i64 (k + ((j * 3 : Nat) : Int)) ∧ Hid (wr.ownsRow base 55 3 (.slice (some ⟨g, 0, none⟩) n cap) n ys) ∧ Hid (ys.take (j * 3) = mks k (j * 3)) ∧ Hid (w.grownBy wr (some g))) (fun i _ _ => n - (intOf i).toNat)
    case atStart => exact ⟨0, xs, by omega, rfl, by simp, HO.out, by simp [Hid, mks], grown_refl _ _⟩
    case round =>
      obtain ⟨j, ys, hj, rfl, rfl, HY, HT, HGR⟩ := hrel
      by_cases hlt : j < n
      · have hl : ys.length = n * 3 := HY.out.1
        have u0 := HY.out.cellAt (j * 3) (by omega)
        have u1 := HY.out.cellAt (j * 3 + 1) (by omega)
        have u2 := HY.out.cellAt (j * 3 + 2) (by omega)
        rw [List.getElem?_eq_getElem (by omega)] at u0 u1 u2
        have f0 := HY.out.frozenAt (j * 3)
        have f1 := HY.out.frozenAt (j * 3 + 1)
        have f2 := HY.out.frozenAt (j * 3 + 2)
        generalize ys[j * 3]'(by omega) = v0 at u0
        generalize ys[j * 3 + 1]'(by omega) = v1 at u1
        generalize ys[j * 3 + 2]'(by omega) = v2 at u2
        have HL := Lib.hid hl
        clear hl
        obtain ⟨k5, hk5⟩ : ∃ k5 : Int, k5 = k + ((j * 3 : Nat) : Int) := ⟨_, rfl⟩
        have hk0 : 0 ≤ k5 := by omega
        have hk1 : k5 ≤ 1125899916842624 := by omega
        rw [← hk5]
        have HK := Lib.hid hk5
        clear hk5
        go_wp2
        all_goals try (go_region; go_wp2)
        all_goals go_roundw
        case rel =>
          refine ⟨j + 1, _, by omega, by go_num, by have := HK.out; go_num, by first | exact own_set3 HY.out (j * 3) ⟨k5, k5 + 1, k5 + 1 + 1⟩ | exact (own_set3 HY.out (j * 3) ⟨k5, k5 + 1, k5 + 1 + 1⟩).drew, ?_, ?_⟩
          · rw [show (j + 1) * 3 = j * 3 + 3 by omega, take_set3 ys (j * 3) _ (by have := HL.out; omega), HT.out, mks_three k k5 _ HK.out]
            exact Lib.hid rfl
          · have a0 := HY.out.stored (j * 3) (.int .i64 k5)
            have a1 := a0.1.stored (j * 3 + 1) (.int .i64 (k5 + 1))
            have a2 := a1.1.stored (j * 3 + 2) (.int .i64 (k5 + 1 + 1))
            have a3 := grown_tr HGR.out (grown_tr a0.2 (grown_tr a1.2 a2.2))
            first | exact a3 | exact ⟨a3.os, a3.tape, a3.output, a3.size, a3.block⟩
        case measure => simp [intOf]; omega
      · obtain rfl : j = n := by omega
        go_wp2
        go_ret
        refine ⟨by simp, ?_, HGR.out⟩
        have h1 := HT.out
        have h2 : ys.length = j * 3 := HY.out.1
        rw [List.take_of_length_le (by omega)] at h1
        rw [← h1]
        exact HY.out

set_option maxRecDepth 100000 in
set_option maxHeartbeats 1600000 in
theorem laws_heldChangeS (base n : Nat) (v : Value) (k : Int) (w : World) (h : w.ownsRow base 55 3 v n (mks k (n * 3))) (hk : 0 ≤ k) (hk' : k ≤ 1125899906842624) (hs : n ≤ 2000000) :
    Calls Try.prog 27 #[v, .int .i64 k] w fun e w' => e = .returned (.int .i64 (k + ((n * 3 : Nat) : Int))) ∧ Below w.heap.size w w' := by
  obtain ⟨A, c, rfl⟩ := own_form h
  rcases h.2 with ⟨hv, rfl⟩ | ⟨g, cap, _, hv, hbg, hgh, _⟩
  · clear h hv
    go_enter Try.func27, Try.ntmps27
    go_wp2
    go_loop [5, 1] (fun i u => i = .int .i64 0 ∧ u = .int .i64 k) (fun i _ => 0)
    case atStart => exact ⟨rfl, rfl⟩
    case round =>
      obtain ⟨rfl, rfl⟩ := hrel
      go_wp2
      go_ret
      exact ⟨by simp, Below.refl _ _⟩
  · cases hv
    have HO := Lib.hid h
    clear h hgh
    go_enter Try.func27, Try.ntmps27
    go_wp2
    go_loopw [5, 1] (fun i u wr => ∃ j : Nat, j ≤ n ∧ i = .int .i64 j ∧ u = .int .i64 (k + ((j * 3 : Nat) : Int)) ∧ Below w.heap.size w wr) (fun i _ _ => n - (intOf i).toNat)
    case atStart => exact ⟨0, by omega, rfl, by simp, Below.refl _ _⟩
    case round =>
      obtain ⟨j, hj, rfl, rfl, hB⟩ := hrel
      by_cases hlt : j < n
      · have HOW := own_below HO.out hB
        have u0 := HOW.cellAt (j * 3) (by omega)
        have u1 := HOW.cellAt (j * 3 + 1) (by omega)
        have u2 := HOW.cellAt (j * 3 + 2) (by omega)
        rw [mks_get _ _ _ (by omega)] at u0 u1 u2
        obtain ⟨k5, hk5⟩ : ∃ k5 : Int, k5 = k + ((j * 3 : Nat) : Int) := ⟨_, rfl⟩
        have hk0 : 0 ≤ k5 := by omega
        have hk1 : k5 ≤ 1125899916842624 := by omega
        rw [show k + ((j * 3 + 1 : Nat) : Int) = k5 + 1 by omega] at u1
        rw [show k + ((j * 3 + 2 : Nat) : Int) = k5 + 1 + 1 by omega] at u2
        rw [← hk5] at u0
        rw [← hk5]
        have HK := Lib.hid hk5
        clear hk5 HOW
        go_wp2
        go_roundw
        case rel => exact ⟨j + 1, by omega, by go_num, by have := HK.out; go_num, hB⟩
        case measure => simp [intOf]; omega
      · obtain rfl : j = n := by omega
        go_wp2
        go_ret
        exact ⟨by simp, hB⟩

theorem mark_chgs (lo hi n : Nat) (v : Value) (xs : List Value) (k : Int) (w : World) (h : As lo hi (OwR lo hi 55 3 v n xs) w) (hk : 0 ≤ k) (hk' : k ≤ 562949953421312) (hs : n ≤ 2000000) :
    Calls Try.prog 26 #[v, .int .i64 k] w fun e w' => MkS lo hi (OwR lo hi 55 3 v n (mks k (n * 3))) w (k + ((n * 3 : Nat) : Int)) e w' := by
  refine (laws_markChangeS lo n v xs k w h.it.1 hk (by omega) hs).mono ?_
  rintro e w' ⟨he, ho, hg⟩
  have ht := Tch.of_grown (a := lo) (b := hi) hg fun k hk => ⟨(h.it.1.lt k hk).1, h.it.2 k hk⟩
  exact ⟨he, ⟨⟨ho, h.it.2⟩, Nat.le_trans h.le ht.size, OwR.loc _ _ _ _ _ _ _⟩, ht⟩
theorem held_chgs (lo hi n : Nat) (v : Value) (k : Int) (w : World) (h : As lo hi (OwR lo hi 55 3 v n (mks k (n * 3))) w) (hk : 0 ≤ k) (hk' : k ≤ 562949953421312) (hs : n ≤ 2000000) :
    Calls Try.prog 27 #[v, .int .i64 k] w fun e w' => e = .returned (.int .i64 (k + ((n * 3 : Nat) : Int))) ∧ Below w.heap.size w w' :=
  laws_heldChangeS lo n v k w h.it.1 hk (by omega) hs
theorem markw_chgs (lo hi n : Nat) (v : Value) (xs : List Value) (k : Int) (w : World) (h : As lo hi (OwR lo hi 55 3 v n xs) w) (hk : 0 ≤ k) (hk' : k ≤ 562949953421312) (hs : n ≤ 2000000) :
    Calls Try.prog 26 #[v, .int .i64 k] w fun e w' => MkW lo hi w k (k + 6000000000000) e w' := by
  refine (mark_chgs lo hi n v xs k w h hk hk' hs).mono ?_
  rintro e w' ⟨he, _, ht⟩
  exact ⟨_, he, by omega, by omega, ht⟩
end Go.Proofs.Ytjlfabfejnpaaaa
