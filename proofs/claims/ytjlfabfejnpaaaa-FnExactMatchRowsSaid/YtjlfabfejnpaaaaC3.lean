/- Lists of rows of keys: as they read, of the call's own, marked; comparisons and marks. (Made out of XC1.) -/
import Derived.Test.YtjlfabfejnpaaaaS23

namespace Go.Proofs.Ytjlfabfejnpaaaa
set_option linter.unusedSimpArgs false
set_option linter.unusedVariables false
open Go.RowKit

/-- A row: its key, its number. -/
structure Rk where
  k : Int
  a : Int
deriving DecidableEq, Inhabited

def Rk.cells (p : Rk) : List Value := [.int .i64 p.k, .int .i64 p.a]

/-- The slice at A reads as the acts ps; it lies below block B. -/
def WS (w : World) (B : Nat) (A : Option Addr) (ps : List Rk) : Prop :=
  0 < ps.length → ∃ b off, A = some ⟨b, off, none⟩ ∧ b < B ∧ ∀ j, j < ps.length →
    w.cell? ⟨b, off + j * 2, none⟩ = some (.int .i64 (ps.getD j default).k) ∧ w.cell? ⟨b, off + j * 2 + 1, none⟩ = some (.int .i64 (ps.getD j default).a)

theorem WS.keep {w w' : World} {B : Nat} {A : Option Addr} {ps : List Rk} (h : WS w B A ps) (hk : ∀ p : Addr, p.block < B → w'.cell? p = w.cell? p) : WS w' B A ps := by
  intro hn
  obtain ⟨b, off, e, hb, hc⟩ := h hn
  refine ⟨b, off, e, hb, fun j hj => ?_⟩
  obtain ⟨h0, h1⟩ := hc j hj
  exact ⟨(hk _ hb).trans h0, (hk _ hb).trans h1⟩
theorem WS.more {w : World} {B B' : Nat} {A : Option Addr} {ps : List Rk} (h : WS w B A ps) (hB : B ≤ B') : WS w B' A ps := by
  intro hn
  obtain ⟨b, off, e, hb, hc⟩ := h hn
  exact ⟨b, off, e, by omega, hc⟩
theorem WS.below {w w' : World} {B C : Nat} {A : Option Addr} {ps : List Rk} (h : WS w B A ps) (hb : Below C w w') (hC : B ≤ C) : WS w' B A ps :=
  h.keep fun _ hp => hb.cell (Nat.lt_of_lt_of_le hp hC)
theorem WS.alloc {w : World} {B : Nat} {A : Option Addr} {ps : List Rk} (h : WS w B A ps) (hB : B ≤ w.heap.size) (o : Obj) : WS (w.alloc o) B A ps :=
  h.keep fun p hp => World.cell?_alloc_lt w o p (by omega)
theorem WS.nil (w : World) (B : Nat) (A : Option Addr) : WS w B A [] := fun h => absurd h (by simp)
theorem WS.step {A : Option Addr} {ps : List Rk} {wk wl : World} (h : WS wk wk.heap.size A ps) (hb : Below wk.heap.size wk wl) : WS wl wl.heap.size A ps := (h.below hb (Nat.le_refl _)).more hb.size
theorem WS.loc (B : Nat) (A : Option Addr) (ps : List Rk) : Loc 0 B fun w => WS w B A ps :=
  fun w w' h hk => h.keep fun p hp => World.cell?_of_block (hk p.block (Nat.zero_le _) hp)

/-- Two cells written one after the other. -/
def setW (xs : List Value) (j : Nat) (p : Rk) : List Value :=
  (xs.set j (.int .i64 p.k)).set (j + 1) (.int .i64 p.a)

theorem take_setW (xs : List Value) (j : Nat) (p : Rk) (h : j + 2 ≤ xs.length) : (setW xs j p).take (j + 2) = xs.take j ++ p.cells := by
  apply List.ext_getElem?
  intro i
  have hl : (xs.take j).length = j := by simp; omega
  rcases Nat.lt_or_ge i j with h1 | h1
  · rw [List.getElem?_append_left (by omega)]
    simp [setW, show i < j + 2 by omega, h1, show ¬ j = i by omega, show ¬ j + 1 = i by omega]
  · rw [List.getElem?_append_right (by omega), hl]
    obtain ⟨d, rfl⟩ : ∃ d, i = j + d := ⟨i - j, by omega⟩
    rw [Nat.add_sub_cancel_left]
    match d with
    | 0 => simp [setW, Rk.cells, List.getElem?_set]; omega
    | 1 => simp [setW, Rk.cells, List.getElem?_set]; omega
    | d + 2 => simp [Rk.cells]; omega

theorem own_setW {w : World} {base e n cap g : Nat} {xs : List Value} (h : w.ownsRow base e 2 (.slice (some ⟨g, 0, none⟩) n cap) n xs) (j : Nat) (p : Rk) :
    ((w.setCell ⟨g, j, none⟩ (.int .i64 p.k)).setCell ⟨g, j + 1, none⟩ (.int .i64 p.a)).ownsRow base e 2 (.slice (some ⟨g, 0, none⟩) n cap) n (setW xs j p) :=
  ((h.stored j (.int .i64 p.k)).1.stored (j + 1) (.int .i64 p.a)).1

theorem below_setW {B : Nat} {a w : World} (h : Below B a w) {g : Nat} (hg : B ≤ g) (j : Nat) (p : Rk) :
    Below B a ((w.setCell ⟨g, j, none⟩ (.int .i64 p.k)).setCell ⟨g, j + 1, none⟩ (.int .i64 p.a)) :=
  (h.setCell (p := ⟨g, j, none⟩) hg _).setCell (p := ⟨g, j + 1, none⟩) hg _

theorem length_rcells (ps : List Rk) : (ps.flatMap Rk.cells).length = ps.length * 2 := by
  induction ps with
  | nil => rfl
  | cons p l ih => simp [List.flatMap_cons, ih, Rk.cells]; omega

theorem rcells_get (ps : List Rk) (j : Nat) (h : j < ps.length) : (ps.flatMap Rk.cells)[j * 2]? = some (.int .i64 (ps.getD j default).k) ∧ (ps.flatMap Rk.cells)[j * 2 + 1]? = some (.int .i64 (ps.getD j default).a) := by
  induction ps generalizing j with
  | nil => simp at h
  | cons p l ih =>
    have e : (p :: l).flatMap Rk.cells = p.cells ++ l.flatMap Rk.cells := by simp [List.flatMap_cons]
    rw [e]
    match j with
    | 0 => simp [Rk.cells]
    | j + 1 =>
      have hj : j < l.length := by simpa using h
      have hc : p.cells.length = 2 := rfl
      obtain ⟨a0, a1⟩ := ih j hj
      have s (d : Nat) : (p.cells ++ l.flatMap Rk.cells)[(j + 1) * 2 + d]? = (l.flatMap Rk.cells)[j * 2 + d]? := by
        rw [List.getElem?_append_right (by omega), hc]; congr 1; omega
      have s0 := s 0
      simp only [Nat.add_zero] at s0
      rw [s0, s 1]
      simpa using ⟨a0, a1⟩

theorem WS.of_own {w : World} {base e n c : Nat} {A : Option Addr} {ps : List Rk} (h : w.ownsRow base e 2 (.slice A n c) n (ps.flatMap Rk.cells)) : WS w w.heap.size A ps := by
  intro hn
  have hl : ps.length = n := by have := h.1; rw [length_rcells] at this; omega
  rcases h.2 with ⟨_, h0⟩ | ⟨g, cap, cur, hv, _, hh, _⟩
  · omega
  · simp only [Value.slice.injEq] at hv
    obtain ⟨rfl, _, rfl⟩ := hv
    have hg : g < w.heap.size := by
      rcases Nat.lt_or_ge g w.heap.size with hlt | hge
      · exact hlt
      · rw [Array.getElem?_eq_none hge] at hh; cases hh
    refine ⟨g, 0, rfl, hg, fun j hj => ?_⟩
    obtain ⟨a0, a1⟩ := rcells_get ps j hj
    simp only [Nat.zero_add]
    rw [h.cellAt _ (by omega), h.cellAt _ (by omega)]
    exact ⟨a0, a1⟩

/-- The slice value is one of the call's own, of acts. -/
def OwnW (w : World) (base : Nat) (v : Value) (xs : List Rk) : Prop := w.ownsRow base 63 2 v xs.length (xs.flatMap Rk.cells)
/-- Returns a slice of fresh acts. -/
def RetW (w : World) (xs : List Rk) (e : Ending) (w' : World) : Prop := ∃ v, e = .returned v ∧ OwnW w' w.heap.size v xs ∧ Below w.heap.size w w'
theorem RetW.nil {w w' : World} (hb : Below w.heap.size w w') : RetW w [] (.returned (.slice none 0 0)) w' := ⟨_, rfl, World.ownsRow_nil _ _ _ _, hb⟩

theorem OwR.rowsW {lo hi : Nat} {n c : Nat} {A : Option Addr} {ps : List Rk} {w : World} (h : OwR lo hi 63 2 (.slice A n c) n (ps.flatMap Rk.cells) w) : WS w hi A ps := by
  intro hn
  obtain ⟨b, off, rfl, _, hc⟩ := WS.of_own h.1 hn
  exact ⟨b, off, rfl, h.2 b rfl, hc⟩
theorem As.rows {lo hi n c : Nat} {A : Option Addr} {ps : List Rk} {w : World} (h : As lo hi (OwR lo hi 63 2 (.slice A n c) n (ps.flatMap Rk.cells)) w) : WS w w.heap.size A ps := h.it.rowsW.more h.le

def eqRk (p q : Rk) : Bool := p.k == q.k && p.a == q.a

theorem eqRk_iff (p q : Rk) : eqRk p q = true ↔ p = q := by
  obtain ⟨a, b⟩ := p
  obtain ⟨a', b'⟩ := q
  simp [eqRk]

set_option maxHeartbeats 800000 in
theorem laws_eqRow (p q : Rk) (w : World) :
    Calls Try.prog 66 #[.agg #[.int .i64 p.k, .int .i64 p.a], .agg #[.int .i64 q.k, .int .i64 q.a]] w fun e w' => e = .returned (.bool (eqRk p q)) ∧ Below w.heap.size w w' := by
  obtain ⟨k, a⟩ := p
  obtain ⟨k', a'⟩ := q
  go_enter Try.func66, Try.ntmps66
  go_wp2
  all_goals
    go_ret
    refine ⟨ret_b ?_, ((Below.refl _ _).alloc (Nat.le_refl _) _).alloc (by simp) _⟩
    simp_all [eqRk, bne]

set_option maxRecDepth 100000 in
set_option maxHeartbeats 800000 in
theorem laws_eqRowS (A A' : Option Addr) (n n' c c' : Nat) (ps qs : List Rk) (w : World) (B : Nat) (hB : B ≤ w.heap.size) (hn : n = ps.length) (hn' : n' = qs.length) (h : WS w B A ps) (h' : WS w B A' qs) (hs : n ≤ 2000000) (hs' : n' ≤ 2000000) :
    Calls Try.prog 36 #[.slice A n c, .slice A' n' c'] w fun e w' => e = .returned (.bool (decide (ps = qs))) ∧ Below w.heap.size w w' := by
  by_cases hl : n = n'
  · have hne : ((n : Int) != (n' : Int)) = false := by simp [hl]
    have HL := Lib.hid hl
    have HN := Lib.hid hn
    have HN' := Lib.hid hn'
    have H := Lib.hid h
    have H' := Lib.hid h'
    clear hl hn hn' h h'
    go_enter Try.func36, Try.ntmps36
    go_wp2
    go_loopw [5] (fun i wr => ∃ k : Nat, k ≤ n ∧ i = .int .i64 k ∧ Hid (ps.take k = qs.take k) ∧ Below w.heap.size w wr) (fun i _ => n - (intOf i).toNat)
    case atStart => exact ⟨0, Nat.zero_le _, rfl, by simp [Hid], Below.refl _ _⟩
    case round =>
      obtain ⟨k, hk, rfl, HT, hb⟩ := hrel
      by_cases hlt : k < n
      · obtain ⟨b, off, rfl, hbB, hc⟩ := H.out (by have := HN.out; omega)
        obtain ⟨b', off', rfl, hbB', hc'⟩ := H'.out (by have := HN'.out; have := HL.out; omega)
        obtain ⟨c0, c1⟩ := hc k (by have := HN.out; omega)
        obtain ⟨d0, d1⟩ := hc' k (by have := HN'.out; have := HL.out; omega)
        clear hc hc' H H'
        have hlt' : k < n' := by have := HL.out; omega
        have b0 := (hb.cell (p := ⟨b, off + k * 2, none⟩) (by simp; omega)).trans c0
        have b1 := (hb.cell (p := ⟨b, off + k * 2 + 1, none⟩) (by simp; omega)).trans c1
        have e0 := (hb.cell (p := ⟨b', off' + k * 2, none⟩) (by simp; omega)).trans d0
        have e1 := (hb.cell (p := ⟨b', off' + k * 2 + 1, none⟩) (by simp; omega)).trans d1
        clear c0 c1 d0 d1
        generalize hp : ps.getD k default = p at *
        generalize hq : qs.getD k default = q at *
        have HP := Lib.hid hp
        have HQ := Lib.hid hq
        clear hp hq
        go_wp2
        go_still_tail 8, (by kernel_rfl)
        go_wp2_with (go_at_call 66; refine (laws_eqRow _ _ _).mono ?_; rintro e w1 ⟨rfl, hb1⟩)
        · have ht : (!eqRk p q) = true := by assumption
          go_ret
          refine ⟨ret_b ?_, hb.drew.trans (hb1.mono hb.size)⟩
          have hne : ps.getD k default ≠ qs.getD k default := by
            rw [HP.out, HQ.out]; intro e; rw [(eqRk_iff p q).2 e] at ht; cases ht
          simp [getD_ne ps qs k hne]
        · have ht : (!eqRk p q) = false := by assumption
          have he : ps.getD k default = qs.getD k default := by
            rw [HP.out, HQ.out]; exact (eqRk_iff p q).1 (by simpa using ht)
          have hts := take_step ps qs k (by have := HN.out; omega) (by have := HN'.out; omega) HT.out he
          clear he
          go_roundw
          case rel => exact ⟨k + 1, by omega, by go_num, hts, hb.drew.trans (hb1.mono hb.size)⟩
          case measure => simp [intOf]; omega
      · go_wp2
        go_ret
        refine ⟨ret_b ?_, hb⟩
        have hkn : k = n := by omega
        have := take_all_eq ps qs n HN.out (HL.out.trans HN'.out) (by rw [← hkn]; exact HT.out)
        simp [this]
  · have hne : ((n : Int) != (n' : Int)) = true := by simp; omega
    have hf : decide (ps = qs) = false := by
      rw [decide_eq_false_iff_not]; rintro rfl; omega
    rw [hf]
    clear hl hn hn' h h' hf
    go_enter Try.func36, Try.ntmps36
    go_wp2
    go_ret
    exact ⟨rfl, Below.refl _ _⟩

set_option maxHeartbeats 400000 in
theorem laws_toRow (p : Rk) (w : World) :
    Calls Try.prog 62 #[.agg #[.int .i64 p.k, .int .i64 p.a]] w fun e w' => e = .returned (.agg #[.int .i64 p.k, .int .i64 p.a]) ∧ Below w.heap.size w w' := by
  obtain ⟨k, a⟩ := p
  go_enter Try.func62, Try.ntmps62
  go_wp2
  refine bodyPost_ret (v := .agg #[.int .i64 k, .int .i64 a]) (by simp [results, Try.results62, go_sem]) rfl ⟨rfl, ?_⟩
  exact (((Below.refl _ _).alloc (Nat.le_refl _) _).alloc (by simp) _).alloc (by simp; omega) _

theorem info_row : (Try.prog.info? 63).map (fun i => (i.zero, i.size, i.bytes)) = some (some (.agg #[.int .i64 0, .int .i64 0]), 2, 16) := by kernel_rfl

set_option maxHeartbeats 800000 in
theorem laws_toRowS (A : Option Addr) (n c : Nat) (ps : List Rk) (w : World) (B : Nat) (hB : B ≤ w.heap.size) (hn : n = ps.length) (h : WS w B A ps) (hs : n ≤ 2000000) :
    Calls Try.prog 34 #[.slice A n c] w fun e w' => e = .returned (.slice (some ⟨w.heap.size, 0, none⟩) n n) ∧ w'.ownsRow w.heap.size 63 2 (.slice (some ⟨w.heap.size, 0, none⟩) n n) n (ps.flatMap Rk.cells) ∧ Below w.heap.size w w' := by
  obtain ⟨i0, hi, hz0, hz1, hz2⟩ := info_parts info_row
  obtain ⟨w0, hmk, hown0, hgr0⟩ := run_make_full (P := Try.prog) w w.heap.size 41 63 i0 _ 2 Try.underlying41 hi hz0 hz1 .i64 .i64 n (by rw [hz2]; omega) (by unfold maxLen; omega) (Nat.le_refl _)
  have H := Lib.hid h
  have HN := Lib.hid hn
  clear hn h
  go_enter Try.func34, Try.ntmps34
  go_wp2
  go_loopw [4] (fun i wr => ∃ (k : Nat) (xs : List Value), k ≤ n ∧ i = .int .i64 k ∧ Hid (wr.ownsRow w.heap.size 63 2 (.slice (some ⟨w.heap.size, 0, none⟩) n n) n xs) ∧ Hid (xs.take (k * 2) = (ps.take k).flatMap Rk.cells) ∧ Below w.heap.size w wr) (fun i _ => n - (intOf i).toNat)
  case atStart => exact ⟨0, _, Nat.zero_le _, rfl, hown0, by simp [Hid], ⟨hgr0.os, hgr0.tape, hgr0.output, hgr0.size, fun k hk => hgr0.block k hk (by simp)⟩⟩
  case round =>
    obtain ⟨k, xs, hk, rfl, HO, HT, hb⟩ := hrel
    by_cases hlt : k < n
    · obtain ⟨b, off, rfl, hbB, hc⟩ := H.out (by have := HN.out; omega)
      obtain ⟨c0, c1⟩ := hc k (by have := HN.out; omega)
      clear hc H
      have b0 := (hb.cell (p := ⟨b, off + k * 2, none⟩) (by simp; omega)).trans c0
      have b1 := (hb.cell (p := ⟨b, off + k * 2 + 1, none⟩) (by simp; omega)).trans c1
      clear c0 c1
      generalize hp : ps.getD k default = p at *
      have HP := Lib.hid hp
      clear hp
      go_wp2_with fail
      refine (laws_toRow _ _).mono ?_
      rintro e w1 ⟨rfl, hb1⟩
      have hO1 := own_below HO.out hb1
      have hxl : xs.length = n * 2 := hO1.1
      have u0 := hO1.cellAt (k * 2) (by omega)
      have u1 := hO1.cellAt (k * 2 + 1) (by omega)
      rw [List.getElem?_eq_getElem (by omega)] at u0 u1
      have f0 := hO1.frozenAt (k * 2)
      have f1 := hO1.frozenAt (k * 2 + 1)
      generalize xs[k * 2]'(by omega) = v0 at u0
      generalize xs[k * 2 + 1]'(by omega) = v1 at u1
      have HO1 := Lib.hid hO1
      have HXL := Lib.hid hxl
      clear hO1 hxl HO
      go_wp2
      go_roundw
      case rel =>
        have hx5 : (setW xs (k * 2) p).take ((k + 1) * 2) = (ps.take (k + 1)).flatMap Rk.cells := by
          rw [show (k + 1) * 2 = k * 2 + 2 by omega, take_setW xs (k * 2) p (by have := HXL.out; omega), HT.out, take_succ_getD ps k (by have := HN.out; omega), HP.out]
          simp
        exact ⟨k + 1, _, by omega, by go_num, own_setW HO1.out (k * 2) p, hx5, below_setW (hb.trans (hb1.mono hb.size)) (Nat.le_refl _) _ _⟩
      case measure => simp [intOf]; omega
    · go_wp2
      go_ret
      have hkn : k = n := by omega
      have hx : xs = ps.flatMap Rk.cells := by
        have h1 := HT.out
        have h2 : xs.length = n * 2 := HO.out.1
        rw [hkn, List.take_of_length_le (by omega), List.take_of_length_le (by have := HN.out; omega)] at h1
        exact h1
      exact ⟨by simp, by rw [← hx]; exact HO.out, hb⟩

set_option maxHeartbeats 400000 in
theorem laws_szRowS (A : Option Addr) (n c : Nat) (l : Int) (w : World) (hl0 : 0 ≤ l) (hl : l ≤ 2000000) (hn : n ≤ 9223372036854775807) :
    Calls Try.prog 32 #[.slice A n c, .int .i64 l] w fun e w' => e = .returned (.int .i64 (if l - n < 0 then -1 else l - n)) ∧ w = w' := by
  by_cases h : l - n < 0
  · rw [if_pos h]
    go_enter Try.func32, Try.ntmps32
    go_wp2
    go_ret
    exact ⟨rfl, rfl⟩
  · rw [if_neg h]
    go_enter Try.func32, Try.ntmps32
    go_wp2
    go_ret
    exact ⟨rfl, rfl⟩
theorem sz_rows (A : Option Addr) (n c : Nat) (ps : List Rk) (l : Int) (w : World) (hn : n = ps.length) (hl0 : 0 ≤ l) (hl : l ≤ 2000000) (hm : n ≤ 9223372036854775807) :
    Calls Try.prog 32 #[.slice A n c, .int .i64 l] w fun e w' => e = .returned (.int .i64 (leftOf l ps.length)) ∧ Below w.heap.size w w' := by
  have e : leftOf l ps.length = if l - n < 0 then -1 else l - n := by
    unfold leftOf
    rw [hn]
    split <;> split <;> omega
  rw [e]
  refine (laws_szRowS A n c l w hl0 hl hm).mono ?_
  rintro e w' ⟨he, rfl⟩
  exact ⟨he, Below.refl _ _⟩

theorem mks_two (k k3 : Int) (m : Nat) (h : k3 = k + m) : mks k (m + 2) = mks k m ++ (⟨k3, k3 + 1⟩ : Rk).cells := by
  have e : (⟨k3, k3 + 1⟩ : Rk) = ⟨k + m, k + m + 1⟩ := by subst h; rfl
  rw [e, mks_succ k (m + 1), mks_succ k m]
  simp [Rk.cells]
  omega

set_option maxRecDepth 100000 in
set_option maxHeartbeats 1600000 in
theorem laws_markRowS (base n : Nat) (v : Value) (xs : List Value) (k : Int) (w : World) (h : w.ownsRow base 63 2 v n xs) (hk : 0 ≤ k) (hk' : k ≤ 1125899906842624) (hs : n ≤ 2000000) :
    Calls Try.prog 37 #[v, .int .i64 k] w fun e w' => Marked w base 63 2 v n k e w' := by
  rcases h.2 with ⟨rfl, rfl⟩ | ⟨g, cap, _, rfl, hbg, hgh, _⟩
  · clear h
    go_enter Try.func37, Try.ntmps37
    go_wp2
    go_loopw [5, 1] (fun i u wr => i = .int .i64 0 ∧ u = .int .i64 k ∧ wr = w) (fun i _ _ => 0)
    case atStart => exact ⟨rfl, rfl, rfl⟩
    case round =>
      obtain ⟨rfl, rfl, rfl⟩ := hrel
      go_wp2
      go_ret
      exact ⟨by simp, World.ownsRow_nil _ _ _ _, grown_refl _ _⟩
  · have HO := Lib.hid h
    have hgl : g < w.heap.size := (h.lt g rfl).2
    clear h hgh
    go_enter Try.func37, Try.ntmps37
    go_wp2
    go_loopw [5, 1] (fun i u wr => ∃ (j : Nat) (ys : List Value), j ≤ n ∧ i = .int .i64 j ∧ u = .int .i64 (k + ((j * 2 : Nat) : Int)) ∧ Hid (wr.ownsRow base 63 2 (.slice (some ⟨g, 0, none⟩) n cap) n ys) ∧ Hid (ys.take (j * 2) = mks k (j * 2)) ∧ Hid (w.grownBy wr (some g))) (fun i _ _ => n - (intOf i).toNat)
    case atStart => exact ⟨0, xs, by omega, rfl, by simp, HO.out, by simp [Hid, mks], grown_refl _ _⟩
    case round =>
      obtain ⟨j, ys, hj, rfl, rfl, HY, HT, HGR⟩ := hrel
      by_cases hlt : j < n
      · have hl : ys.length = n * 2 := HY.out.1
        have u0 := HY.out.cellAt (j * 2) (by omega)
        have u1 := HY.out.cellAt (j * 2 + 1) (by omega)
        rw [List.getElem?_eq_getElem (by omega)] at u0 u1
        have f0 := HY.out.frozenAt (j * 2)
        have f1 := HY.out.frozenAt (j * 2 + 1)
        generalize ys[j * 2]'(by omega) = v0 at u0
        generalize ys[j * 2 + 1]'(by omega) = v1 at u1
        have HL := Lib.hid hl
        clear hl
        obtain ⟨k5, hk5⟩ : ∃ k5 : Int, k5 = k + ((j * 2 : Nat) : Int) := ⟨_, rfl⟩
        have hk0 : 0 ≤ k5 := by omega
        have hk1 : k5 ≤ 1125899916842624 := by omega
        rw [← hk5]
        have HK := Lib.hid hk5
        clear hk5
        go_wp2
        all_goals try (go_region; go_wp2)
        all_goals go_roundw
        case rel =>
          refine ⟨j + 1, _, by omega, by go_num, by have := HK.out; go_num, by first | exact own_setW HY.out (j * 2) ⟨k5, k5 + 1⟩ | exact (own_setW HY.out (j * 2) ⟨k5, k5 + 1⟩).drew, ?_, ?_⟩
          · rw [show (j + 1) * 2 = j * 2 + 2 by omega, take_setW ys (j * 2) _ (by have := HL.out; omega), HT.out, mks_two k k5 _ HK.out]
            exact Lib.hid rfl
          · have a0 := HY.out.stored (j * 2) (.int .i64 k5)
            have a1 := a0.1.stored (j * 2 + 1) (.int .i64 (k5 + 1))
            have a3 := grown_tr HGR.out (grown_tr a0.2 a1.2)
            first | exact a3 | exact ⟨a3.os, a3.tape, a3.output, a3.size, a3.block⟩
        case measure => simp [intOf]; omega
      · obtain rfl : j = n := by omega
        go_wp2
        go_ret
        refine ⟨by simp, ?_, HGR.out⟩
        have h1 := HT.out
        have h2 : ys.length = j * 2 := HY.out.1
        rw [List.take_of_length_le (by omega)] at h1
        rw [← h1]
        exact HY.out

set_option maxRecDepth 100000 in
set_option maxHeartbeats 1600000 in
theorem laws_heldRowS (base n : Nat) (v : Value) (k : Int) (w : World) (h : w.ownsRow base 63 2 v n (mks k (n * 2))) (hk : 0 ≤ k) (hk' : k ≤ 1125899906842624) (hs : n ≤ 2000000) :
    Calls Try.prog 38 #[v, .int .i64 k] w fun e w' => e = .returned (.int .i64 (k + ((n * 2 : Nat) : Int))) ∧ Below w.heap.size w w' := by
  obtain ⟨A, c, rfl⟩ := own_form h
  rcases h.2 with ⟨hv, rfl⟩ | ⟨g, cap, _, hv, hbg, hgh, _⟩
  · clear h hv
    go_enter Try.func38, Try.ntmps38
    go_wp2
    go_loop [5, 1] (fun i u => i = .int .i64 0 ∧ u = .int .i64 k) (fun i _ => 0)
    case atStart => exact ⟨rfl, rfl⟩
    case round =>
      obtain ⟨rfl, rfl⟩ := hrel
      go_wp2
      go_ret
      exact ⟨by simp, Below.refl _ _⟩
  · cases hv
    have HO := Lib.hid h
    clear h hgh
    go_enter Try.func38, Try.ntmps38
    go_wp2
    go_loopw [5, 1] (fun i u wr => ∃ j : Nat, j ≤ n ∧ i = .int .i64 j ∧ u = .int .i64 (k + ((j * 2 : Nat) : Int)) ∧ Below w.heap.size w wr) (fun i _ _ => n - (intOf i).toNat)
    case atStart => exact ⟨0, by omega, rfl, by simp, Below.refl _ _⟩
    case round =>
      obtain ⟨j, hj, rfl, rfl, hB⟩ := hrel
      by_cases hlt : j < n
      · have HOW := own_below HO.out hB
        have u0 := HOW.cellAt (j * 2) (by omega)
        have u1 := HOW.cellAt (j * 2 + 1) (by omega)
        rw [mks_get _ _ _ (by omega)] at u0 u1
        obtain ⟨k5, hk5⟩ : ∃ k5 : Int, k5 = k + ((j * 2 : Nat) : Int) := ⟨_, rfl⟩
        have hk0 : 0 ≤ k5 := by omega
        have hk1 : k5 ≤ 1125899916842624 := by omega
        rw [show k + ((j * 2 + 1 : Nat) : Int) = k5 + 1 by omega] at u1
        rw [← hk5] at u0
        rw [← hk5]
        have HK := Lib.hid hk5
        clear hk5 HOW
        go_wp2
        go_roundw
        case rel => exact ⟨j + 1, by omega, by go_num, by have := HK.out; go_num, hB⟩
        case measure => simp [intOf]; omega
      · obtain rfl : j = n := by omega
        go_wp2
        go_ret
        exact ⟨by simp, hB⟩

theorem mark_rows (lo hi n : Nat) (v : Value) (xs : List Value) (k : Int) (w : World) (h : As lo hi (OwR lo hi 63 2 v n xs) w) (hk : 0 ≤ k) (hk' : k ≤ 562949953421312) (hs : n ≤ 2000000) :
    Calls Try.prog 37 #[v, .int .i64 k] w fun e w' => MkS lo hi (OwR lo hi 63 2 v n (mks k (n * 2))) w (k + ((n * 2 : Nat) : Int)) e w' := by
  refine (laws_markRowS lo n v xs k w h.it.1 hk (by omega) hs).mono ?_
  rintro e w' ⟨he, ho, hg⟩
  have ht := Tch.of_grown (a := lo) (b := hi) hg fun k hk => ⟨(h.it.1.lt k hk).1, h.it.2 k hk⟩
  exact ⟨he, ⟨⟨ho, h.it.2⟩, Nat.le_trans h.le ht.size, OwR.loc _ _ _ _ _ _ _⟩, ht⟩
theorem held_rows (lo hi n : Nat) (v : Value) (k : Int) (w : World) (h : As lo hi (OwR lo hi 63 2 v n (mks k (n * 2))) w) (hk : 0 ≤ k) (hk' : k ≤ 562949953421312) (hs : n ≤ 2000000) :
    Calls Try.prog 38 #[v, .int .i64 k] w fun e w' => e = .returned (.int .i64 (k + ((n * 2 : Nat) : Int))) ∧ Below w.heap.size w w' :=
  laws_heldRowS lo n v k w h.it.1 hk (by omega) hs
theorem markw_rows (lo hi n : Nat) (v : Value) (xs : List Value) (k : Int) (w : World) (h : As lo hi (OwR lo hi 63 2 v n xs) w) (hk : 0 ≤ k) (hk' : k ≤ 562949953421312) (hs : n ≤ 2000000) :
    Calls Try.prog 37 #[v, .int .i64 k] w fun e w' => MkW lo hi w k (k + 6000000000000) e w' := by
  refine (mark_rows lo hi n v xs k w h hk hk' hs).mono ?_
  rintro e w' ⟨he, _, ht⟩
  exact ⟨_, he, by omega, by omega, ht⟩
end Go.Proofs.Ytjlfabfejnpaaaa
