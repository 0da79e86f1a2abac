/- Owners: the laws' own sizes and comparisons. -/
import Derived.Test.YtdcfmoaomlfijaaV2

namespace Go.Proofs.Ytdcfmoaomlfijaa
set_option linter.unusedSimpArgs false
set_option linter.unusedVariables false
open Go.RowKit

set_option maxHeartbeats 800000 in
theorem laws_szOwner (p : Int) (o : Bool) (A A' : Option Addr) (n c n' c' : Nat) (l : Int) (w : World) (hl0 : 0 ≤ l) (hl : l ≤ 2000000) (hn : n ≤ 9223372036854775807) (hn' : n' ≤ 9223372036854775807) :
    Calls Try.prog 39 #[.agg #[.int .i64 p, .bool o, .slice A n c, .slice A' n' c'], .int .i64 l] w fun e w' => e = .returned (.int .i64 (leftOf l (n + n'))) ∧ Below w.heap.size w w' := by
  have HC1 := Lib.hid fun (w : World) => laws_szIntS A n c l w hl0 hl hn
  by_cases h1 : (n : Int) ≤ l
  · rw [leftOf_ok h1] at HC1
    have HC2 := Lib.hid fun (w : World) => laws_szIntS A' n' c' (l - n) w (by omega) (by omega) hn'
    have hL : leftOf l (n + n') = leftOf (l - n) n' := by
      unfold leftOf; split <;> split <;> omega
    rw [hL]
    have hL2 : leftOf (l - n) n' = -1 ∨ 0 ≤ leftOf (l - n) n' := by unfold leftOf; split <;> omega
    generalize leftOf (l - n) n' = L at *
    have hq1 : ¬ l - n < 0 := by omega
    clear hL
    rcases hL2 with rfl | hL2
    all_goals
      go_enter Try.func39, Try.ntmps39
      go_wp2_with fail
      refine (HC1.out _).mono ?_
      rintro e w1 ⟨rfl, hb⟩
      have q1 : w1.cell? ⟨w.heap.size, 3, none⟩ = some (.slice A' n' c') := (hb.cell (p := ⟨w.heap.size, 3, none⟩) (by simp)).trans (by go_simp)
      have hs1 : w.heap.size < w1.heap.size := by have := hb.size; simp at this; omega
      go_wp2_with fail
      refine (HC2.out _).mono ?_
      rintro e w2 ⟨rfl, hb2⟩
      go_wp2
      go_ret
      exact ⟨rfl, (((Below.refl _ _).alloc (Nat.le_refl _) _).trans (hb.mono (by simp))).trans (hb2.mono (by omega))⟩
  · rw [leftOf_no h1] at HC1
    have hL : leftOf l (n + n') = -1 := by unfold leftOf; rw [if_neg (by omega)]
    rw [hL]
    clear hL
    go_enter Try.func39, Try.ntmps39
    go_wp2_with fail
    refine (HC1.out _).mono ?_
    rintro e w1 ⟨rfl, hb⟩
    go_wp2
    go_ret
    exact ⟨rfl, ((Below.refl _ _).alloc (Nat.le_refl _) _).trans (hb.mono (by simp))⟩

theorem offO_cl (ds : List On) (k : Nat) (h : k < ds.length) : offOf (rowsO ds) (k * 2 + 1) = offOf (rowsO ds) (k * 2) + (ds.getD k default).cl.length := by
  rw [offOf_succ _ _ (by rw [rowsO_len]; omega), lenOfO, rowO_cl]
theorem offO_cx (ds : List On) (k : Nat) (h : k < ds.length) : offOf (rowsO ds) ((k + 1) * 2) = offOf (rowsO ds) (k * 2 + 1) + (ds.getD k default).cx.length := by
  rw [show (k + 1) * 2 = (k * 2 + 1) + 1 by omega, offOf_succ _ _ (by rw [rowsO_len]; omega), lenOfO, rowO_cx]
theorem offO_succ (ds : List On) (k : Nat) (h : k < ds.length) : offOf (rowsO ds) ((k + 1) * 2) = offOf (rowsO ds) (k * 2) + ((ds.getD k default).cl.length + (ds.getD k default).cx.length) := by
  rw [offO_cx ds k h, offO_cl ds k h]; omega
theorem offO_all (ds : List On) : offOf (rowsO ds) (ds.length * 2) = ((rowsO ds).map List.length).sum := by rw [← rowsO_len, offOf_all]

set_option maxRecDepth 100000 in
set_option maxHeartbeats 800000 in
theorem laws_szOwnerS (A : Option Addr) (n c : Nat) (ds : List On) (l : Int) (w : World) (B : Nat) (hB : B ≤ w.heap.size) (hn : n = ds.length) (h : OS w B A ds) (hl0 : 0 ≤ l) (hl : l ≤ 2000000) (hm : n ≤ 9223372036854775807) (hm' : ∀ j, (ds.getD j default).cl.length ≤ 9223372036854775807 ∧ (ds.getD j default).cx.length ≤ 9223372036854775807) :
    Calls Try.prog 12 #[.slice A n c, .int .i64 l] w fun e w' => e = .returned (.int .i64 (leftOf l (osz ds))) ∧ Below w.heap.size w w' := by
  by_cases hln : l - n < 0
  · have e : leftOf l (osz ds) = -1 := by unfold leftOf; rw [if_neg (by unfold osz; omega)]
    rw [e]
    clear e h hn hm'
    go_enter Try.func12, Try.ntmps12
    go_wp2
    go_ret
    exact ⟨rfl, Below.refl _ _⟩
  have H := Lib.hid h
  have HN := Lib.hid hn
  have HM := Lib.hid hm'
  clear hn h hm'
  go_enter Try.func12, Try.ntmps12
  go_wp2
  go_loopw [5, 1] (fun i u wr => ∃ (k : Nat) (q : Int), k ≤ n ∧ i = .int .i64 k ∧ u = .int .i64 q ∧ 0 ≤ q ∧ q ≤ 2000000 ∧ Hid (q = l - n - (offOf (rowsO ds) (k * 2) : Nat)) ∧ Below w.heap.size w wr) (fun i _ _ => n - (intOf i).toNat)
  case atStart => exact ⟨0, l - n, Nat.zero_le _, rfl, rfl, by omega, by omega, by simp [Hid, offOf], Below.refl _ _⟩
  case round =>
    obtain ⟨k, q, hk, rfl, rfl, hq0, hq, HQ, hb⟩ := hrel
    by_cases hlt : k < n
    · obtain ⟨b, off, rfl, hbB, c0, c1, ⟨A1, n1, d1, c2, hn1', hp1⟩, A2, n2, d2, c3, hn2', hp2⟩ := H.out.at_ k (by have := HN.out; omega)
      have hnb := HM.out k
      have b0 := (hb.cell (p := ⟨b, off + k * 4, none⟩) (by simp; omega)).trans c0
      have b1 := (hb.cell (p := ⟨b, off + k * 4 + 1, none⟩) (by simp; omega)).trans c1
      have b2 := (hb.cell (p := ⟨b, off + k * 4 + 2, none⟩) (by simp; omega)).trans c2
      have b3 := (hb.cell (p := ⟨b, off + k * 4 + 3, none⟩) (by simp; omega)).trans c3
      have hst := offO_succ ds k (by have := HN.out; omega)
      have htl := offOf_le (rowsO ds) ((k + 1) * 2)
      clear c0 c1 c2 c3 hp1 hp2 H
      generalize ds.getD k default = d at *
      obtain ⟨dp, dO, dcl, dcx⟩ := d
      dsimp only at *
      have hnb1 : n1 ≤ 9223372036854775807 := by omega
      have hnb2 : n2 ≤ 9223372036854775807 := by omega
      rw [← hn1', ← hn2'] at hst
      have HST := Lib.hid hst
      have HTL := Lib.hid htl
      clear hst htl hn1' hn2' hnb
      have HC := Lib.hid fun (w : World) => laws_szOwner dp dO A1 A2 n1 d1 n2 d2 q w hq0 hq hnb1 hnb2
      by_cases h1 : ((n1 + n2 : Nat) : Int) ≤ q
      · rw [leftOf_ok h1] at HC
        obtain ⟨q2, hq2⟩ : ∃ q2 : Int, q2 = q - ((n1 + n2 : Nat) : Int) := ⟨_, rfl⟩
        rw [← hq2] at HC
        have hq3 : 0 ≤ q2 := by omega
        have hq4 : q2 ≤ 2000000 := by omega
        have HQ2 := Lib.hid hq2
        clear hq2 h1
        go_wp2_with fail
        refine (HC.out _).mono ?_
        rintro e w' ⟨rfl, hb1⟩
        go_wp2
        go_roundw
        case rel => exact ⟨k + 1, q2, by omega, by go_num, rfl, hq3, hq4, by have a1 := HST.out; have a3 := HQ2.out; have a4 := HQ.out; show q2 = _; omega, hb.trans (hb1.mono hb.size)⟩
        case measure => simp [intOf]; omega
      · rw [leftOf_no h1] at HC
        have HQ1 := Lib.hid h1
        clear h1
        go_wp2_with fail
        refine (HC.out _).mono ?_
        rintro e w' ⟨rfl, hb1⟩
        go_wp2
        go_ret
        refine ⟨ret_i ?_, hb.trans (hb1.mono hb.size)⟩
        unfold leftOf
        rw [if_neg]
        have a1 := HST.out; have a2 := HTL.out; have a3 := HQ1.out; have a4 := HQ.out; have a5 := HN.out
        unfold osz
        omega
    · obtain rfl : k = n := by omega
      go_wp2
      go_ret
      refine ⟨ret_i ?_, hb⟩
      have a4 := HQ.out
      have a5 := HN.out
      rw [a5, offO_all] at a4
      unfold leftOf
      rw [if_pos (by unfold osz; omega), a4]
      unfold osz
      omega

def eqOn (d e : On) : Bool := decide (d = e)
theorem eqOn_iff (d e : On) : eqOn d e = true ↔ d = e := by simp [eqOn]

set_option maxRecDepth 100000 in
set_option maxHeartbeats 800000 in
theorem laws_eqOwner (p p' : Int) (o o' : Bool) (A A' E E' : Option Addr) (n c n' c' m d m' d' : Nat) (xs ys xs' ys' : List Int) (w : World) (B : Nat) (hB : B ≤ w.heap.size) (hn : n = xs.length) (hn' : n' = ys.length) (hm : m = xs'.length) (hm' : m' = ys'.length)
    (h : IS w B A xs) (h' : IS w B A' ys) (k : IS w B E xs') (k' : IS w B E' ys') (hs : n ≤ 2000000) (hs' : n' ≤ 2000000) (hs2 : m ≤ 2000000) (hs2' : m' ≤ 2000000) :
    Calls Try.prog 45 #[.agg #[.int .i64 p, .bool o, .slice A n c, .slice A' n' c'], .agg #[.int .i64 p', .bool o', .slice E m d, .slice E' m' d']] w fun e w' => e = .returned (.bool (eqOn ⟨p, o, xs, ys⟩ ⟨p', o', xs', ys'⟩)) ∧ Below w.heap.size w w' := by
  have hd : eqOn ⟨p, o, xs, ys⟩ ⟨p', o', xs', ys'⟩ = (!(p != p') && (!(o != o') && (decide (xs = xs') && decide (ys = ys')))) := by
    simp only [eqOn, On.mk.injEq]
    by_cases h1 : p = p' <;> by_cases h2 : o = o' <;> by_cases h3 : xs = xs' <;> by_cases h4 : ys = ys' <;> simp [h1, h2, h3, h4]
  rw [hd]
  have HC1 := Lib.hid fun (w : World) (hB : B ≤ w.heap.size) (h : IS w B A xs) (k : IS w B E xs') => laws_eqIntS A E n m c d xs xs' w B hB hn hm h k hs hs2
  have HC2 := Lib.hid fun (w : World) (hB : B ≤ w.heap.size) (h : IS w B A' ys) (k : IS w B E' ys') => laws_eqIntS A' E' n' m' c' d' ys ys' w B hB hn' hm' h k hs' hs2'
  have H1 := Lib.hid h
  have H2 := Lib.hid h'
  have K1 := Lib.hid k
  have K2 := Lib.hid k'
  generalize decide (xs = xs') = b1 at *
  generalize decide (ys = ys') = b2 at *
  clear hd hn hn' hm hm' h h' k k'
  cases hp : (p != p')
  · by_cases ho : o = o'
    · subst ho
      cases o
      all_goals
          cases b1
          · go_enter Try.func45, Try.ntmps45
            go_wp2_with fail
            refine (HC1.out _ (by simp; omega) ((H1.out.alloc hB _).alloc (by simp; omega) _) ((K1.out.alloc hB _).alloc (by simp; omega) _)).mono ?_
            rintro e w1 ⟨rfl, hb⟩
            go_wp2
            go_ret
            exact ⟨rfl, (((Below.refl _ _).alloc (Nat.le_refl _) _).alloc (by simp) _).trans (hb.mono (by simp; omega))⟩
          · cases b2
            all_goals
              go_enter Try.func45, Try.ntmps45
              go_wp2_with fail
              refine (HC1.out _ (by simp; omega) ((H1.out.alloc hB _).alloc (by simp; omega) _) ((K1.out.alloc hB _).alloc (by simp; omega) _)).mono ?_
              rintro e w1 ⟨rfl, hb⟩
              have q1 : w1.cell? ⟨w.heap.size, 3, none⟩ = some (.slice A' n' c') := (hb.cell (p := ⟨w.heap.size, 3, none⟩) (by simp; omega)).trans (by go_simp)
              have q2 : w1.cell? ⟨w.heap.size + 1, 3, none⟩ = some (.slice E' m' d') := (hb.cell (p := ⟨w.heap.size + 1, 3, none⟩) (by simp)).trans (by go_simp)
              have hs1 : w.heap.size + 2 ≤ w1.heap.size := by have := hb.size; simp at this; omega
              have H3 := Lib.hid (show IS w1 B A' ys from ((H2.out.alloc hB _).alloc (by simp; omega) _).below hb (by simp; omega))
              have H4 := Lib.hid (show IS w1 B E' ys' from ((K2.out.alloc hB _).alloc (by simp; omega) _).below hb (by simp; omega))
              go_wp2_with fail
              refine (HC2.out _ (by omega) H3.out H4.out).mono ?_
              rintro e w2 ⟨rfl, hb2⟩
              go_wp2
              go_ret
              exact ⟨rfl, ((((Below.refl _ _).alloc (Nat.le_refl _) _).alloc (by simp) _).trans (hb.mono (by simp; omega))).trans (hb2.mono (by omega))⟩
    · have ho2 : (o = true ∧ o' = false) ∨ (o = false ∧ o' = true) := by cases o <;> cases o' <;> simp_all
      rcases ho2 with ⟨rfl, rfl⟩ | ⟨rfl, rfl⟩
      all_goals
        go_enter Try.func45, Try.ntmps45
        go_wp2
        go_ret
        exact ⟨rfl, ((Below.refl _ _).alloc (Nat.le_refl _) _).alloc (by simp) _⟩
  · go_enter Try.func45, Try.ntmps45
    go_wp2
    go_ret
    exact ⟨rfl, ((Below.refl _ _).alloc (Nat.le_refl _) _).alloc (by simp) _⟩

set_option maxRecDepth 100000 in
set_option maxHeartbeats 1600000 in
theorem laws_eqOwnerS (A A' : Option Addr) (n n' c c' : Nat) (gs hs : List On) (w : World) (B : Nat) (hB : B ≤ w.heap.size) (hn : n = gs.length) (hn' : n' = hs.length) (h : OS w B A gs) (h' : OS w B A' hs) (hb1 : OB gs) (hb2 : OB hs) :
    Calls Try.prog 16 #[.slice A n c, .slice A' n' c'] w fun e w' => e = .returned (.bool (decide (gs = hs))) ∧ Below w.heap.size w w' := by
  have hm1 : n ≤ 1048576 := by rw [hn]; exact hb1.1
  have hm2 : n' ≤ 1048576 := by rw [hn']; exact hb2.1
  by_cases hl : n = n'
  · have hne : ((n : Int) != (n' : Int)) = false := by simp [hl]
    have HL := Lib.hid hl
    have HN := Lib.hid hn
    have HN' := Lib.hid hn'
    have H := Lib.hid h
    have H' := Lib.hid h'
    have HB1 := Lib.hid hb1
    have HB2 := Lib.hid hb2
    clear hl hn hn' h h' hb1 hb2
    go_enter Try.func16, Try.ntmps16
    go_wp2
    go_loopw [5] (fun i wr => ∃ k : Nat, k ≤ n ∧ i = .int .i64 k ∧ Hid (gs.take k = hs.take k) ∧ Below w.heap.size w wr) (fun i _ => n - (intOf i).toNat)
    case atStart => exact ⟨0, Nat.zero_le _, rfl, by simp [Hid], Below.refl _ _⟩
    case round =>
      obtain ⟨k, hk, rfl, HT, hb⟩ := hrel
      by_cases hlt : k < n
      · obtain ⟨b, off, rfl, hbB, c0, c1, ⟨A1, n1, d1, c2, hn1', hp1⟩, A2, n2, d2, c3, hn2', hp2⟩ := H.out.at_ k (by have := HN.out; omega)
        obtain ⟨b', off', rfl, hbB', e0, e1, ⟨A3, n3, d3, e2, hn3', hp3⟩, A4, n4, d4, e3, hn4', hp4⟩ := H'.out.at_ k (by have := HN'.out; have := HL.out; omega)
        have hx1 := HB1.out.2.2 k
        have hx2 := HB2.out.2.2 k
        clear H H'
        have hlt' : k < n' := by have := HL.out; omega
        have b0 := (hb.cell (p := ⟨b, off + k * 4, none⟩) (by simp; omega)).trans c0
        have b1 := (hb.cell (p := ⟨b, off + k * 4 + 1, none⟩) (by simp; omega)).trans c1
        have b2 := (hb.cell (p := ⟨b, off + k * 4 + 2, none⟩) (by simp; omega)).trans c2
        have b3 := (hb.cell (p := ⟨b, off + k * 4 + 3, none⟩) (by simp; omega)).trans c3
        have g0 := (hb.cell (p := ⟨b', off' + k * 4, none⟩) (by simp; omega)).trans e0
        have g1 := (hb.cell (p := ⟨b', off' + k * 4 + 1, none⟩) (by simp; omega)).trans e1
        have g2 := (hb.cell (p := ⟨b', off' + k * 4 + 2, none⟩) (by simp; omega)).trans e2
        have g3 := (hb.cell (p := ⟨b', off' + k * 4 + 3, none⟩) (by simp; omega)).trans e3
        have HP1 := Lib.hid (hp1.below hb hB)
        have HP2 := Lib.hid (hp2.below hb hB)
        have HP3 := Lib.hid (hp3.below hb hB)
        have HP4 := Lib.hid (hp4.below hb hB)
        clear c0 c1 c2 c3 e0 e1 e2 e3 hp1 hp2 hp3 hp4
        generalize hp : gs.getD k default = p at *
        generalize hq : hs.getD k default = q at *
        obtain ⟨pp, po, pcl, pcx⟩ := p
        obtain ⟨qp, qo, qcl, qcx⟩ := q
        dsimp only at *
        have HP := Lib.hid hp
        have HQ := Lib.hid hq
        have HC := Lib.hid fun (w' : World) (hB : B ≤ w'.heap.size) (a1 : IS w' B A1 pcl) (a2 : IS w' B A2 pcx) (a3 : IS w' B A3 qcl) (a4 : IS w' B A4 qcx) => laws_eqOwner pp qp po qo A1 A2 A3 A4 n1 d1 n2 d2 n3 d3 n4 d4 pcl pcx qcl qcx w' B hB hn1' hn2' hn3' hn4' a1 a2 a3 a4 (by omega) (by omega) (by omega) (by omega)
        have HEQ := Lib.hid (eqOn_iff ⟨pp, po, pcl, pcx⟩ ⟨qp, qo, qcl, qcx⟩)
        generalize eqOn ⟨pp, po, pcl, pcx⟩ ⟨qp, qo, qcl, qcx⟩ = r at *
        clear hp hq hn1' hn2' hn3' hn4' hx1 hx2
        go_wp2
        go_still_tail 8, (by kernel_rfl)
        go_wp2_with fail
        refine (HC.out wr.drew (Nat.le_trans hB hb.size) HP1.out HP2.out HP3.out HP4.out).mono ?_
        rintro e w1 ⟨rfl, hb1⟩
        cases r
        · go_wp2
          go_ret
          refine ⟨ret_b ?_, hb.drew.trans (hb1.mono hb.size)⟩
          have hne : gs.getD k default ≠ hs.getD k default := by
            rw [HP.out, HQ.out]; intro e; exact absurd (HEQ.out.2 e) (by simp)
          simp [getD_ne gs hs k hne]
        · have he : gs.getD k default = hs.getD k default := by
            rw [HP.out, HQ.out]; exact HEQ.out.1 rfl
          have HTS := Lib.hid (take_step gs hs k (by have := HN.out; omega) (by have := HN'.out; omega) HT.out he)
          clear he
          go_wp2
          go_roundw
          case rel => exact ⟨k + 1, by omega, by go_num, HTS.out, hb.drew.trans (hb1.mono hb.size)⟩
          case measure => simp [intOf]; omega
      · go_wp2
        go_ret
        refine ⟨ret_b ?_, hb⟩
        have hkn : k = n := by omega
        have := take_all_eq gs hs n HN.out (HL.out.trans HN'.out) (by rw [← hkn]; exact HT.out)
        simp [this]
  · have hne : ((n : Int) != (n' : Int)) = true := by simp; omega
    have hf : decide (gs = hs) = false := by
      rw [decide_eq_false_iff_not]; rintro rfl; omega
    rw [hf]
    clear hl hn hn' h h' hf hb1 hb2
    go_enter Try.func16, Try.ntmps16
    go_wp2
    go_ret
    exact ⟨rfl, Below.refl _ _⟩
end Go.Proofs.Ytdcfmoaomlfijaa
