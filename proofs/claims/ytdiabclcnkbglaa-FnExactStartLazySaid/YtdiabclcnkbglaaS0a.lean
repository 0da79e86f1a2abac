/- Words and contracts for memory that the texts behind use. -/
import Derived.WalkKit
import Derived.Laws.OwnMore
import Derived.Deep.Draws
import Derived.Test.YtdiabclcnkbglaaProg
import Derived.WalkSpells
import Derived.WalkLawsBesides
import Derived.Outline
import Derived.Lib.Hide
import Derived.BigQuiet
import Derived.Deep.QuietTactic
import Derived.StillTailTactics
import Derived.Deep.LoopGhost
import Derived.Laws.MakeOwn
import Derived.WalkSmall
import Derived.RegionTactic
import Derived.BigRegion
import Derived.Deep.RegionWith
import Derived.Deep.RegionHeld3
import Derived.Maps.AppendAt
import Derived.Laws.CopyOwn
import Derived.Deep.AppendLies
import Derived.Test.YtdiabclcnkbglaaRows
import Derived.ProofKit
import Derived.OpenShut
import Derived.ShutString
import Derived.ChangeOld
import Derived.Below
import Derived.Deep.Slices
import Derived.Deep.Fields

namespace Go.Proofs.Ytdiabclcnkbglaa
set_option linter.unusedSimpArgs false
set_option linter.unusedVariables false
open Go.RowKit
/-- A part of a formula. -/
structure Pt where
  k : Int
  a : Int
  b : Int
  c : Int
  n : Int
deriving DecidableEq, Inhabited
def Pt.cells (p : Pt) : List Value := [.int .i64 p.k, .int .i64 p.a, .int .i64 p.b, .int .i64 p.c, .int .i64 p.n]
/-- The slice at A reads as the numbers xs; it lies below block B. -/
def IS (w : World) (B : Nat) (A : Option Addr) (xs : List Int) : Prop :=
  0 < xs.length → ∃ b off, A = some ⟨b, off, none⟩ ∧ b < B ∧ ∀ j, j < xs.length → w.cell? ⟨b, off + j, none⟩ = some (.int .i64 (xs.getD j 0))
/-- The slice at A reads as the parts ps; it lies below block B. -/
def PS (w : World) (B : Nat) (A : Option Addr) (ps : List Pt) : Prop :=
  0 < ps.length → ∃ b off, A = some ⟨b, off, none⟩ ∧ b < B ∧ ∀ j, j < ps.length →
    w.cell? ⟨b, off + j * 5, none⟩ = some (.int .i64 (ps.getD j default).k) ∧ w.cell? ⟨b, off + j * 5 + 1, none⟩ = some (.int .i64 (ps.getD j default).a) ∧
    w.cell? ⟨b, off + j * 5 + 2, none⟩ = some (.int .i64 (ps.getD j default).b) ∧ w.cell? ⟨b, off + j * 5 + 3, none⟩ = some (.int .i64 (ps.getD j default).c) ∧
    w.cell? ⟨b, off + j * 5 + 4, none⟩ = some (.int .i64 (ps.getD j default).n)
theorem IS.keep {w w' : World} {B : Nat} {A : Option Addr} {xs : List Int} (h : IS w B A xs) (hk : ∀ p : Addr, p.block < B → w'.cell? p = w.cell? p) : IS w' B A xs := by
  intro hn
  obtain ⟨b, off, e, hb, hc⟩ := h hn
  exact ⟨b, off, e, hb, fun j hj => (hk _ hb).trans (hc j hj)⟩
theorem PS.keep {w w' : World} {B : Nat} {A : Option Addr} {ps : List Pt} (h : PS w B A ps) (hk : ∀ p : Addr, p.block < B → w'.cell? p = w.cell? p) : PS w' B A ps := by
  intro hn
  obtain ⟨b, off, e, hb, hc⟩ := h hn
  refine ⟨b, off, e, hb, fun j hj => ?_⟩
  obtain ⟨h0, h1, h2, h3, h4⟩ := hc j hj
  exact ⟨(hk _ hb).trans h0, (hk _ hb).trans h1, (hk _ hb).trans h2, (hk _ hb).trans h3, (hk _ hb).trans h4⟩
theorem IS.more {w : World} {B B' : Nat} {A : Option Addr} {xs : List Int} (h : IS w B A xs) (hB : B ≤ B') : IS w B' A xs := by
  intro hn
  obtain ⟨b, off, e, hb, hc⟩ := h hn
  exact ⟨b, off, e, by omega, hc⟩
theorem PS.more {w : World} {B B' : Nat} {A : Option Addr} {ps : List Pt} (h : PS w B A ps) (hB : B ≤ B') : PS w B' A ps := by
  intro hn
  obtain ⟨b, off, e, hb, hc⟩ := h hn
  exact ⟨b, off, e, by omega, hc⟩
theorem IS.below {w w' : World} {B C : Nat} {A : Option Addr} {xs : List Int} (h : IS w B A xs) (hb : Below C w w') (hC : B ≤ C) : IS w' B A xs :=
  h.keep fun _ hp => hb.cell (Nat.lt_of_lt_of_le hp hC)
theorem PS.below {w w' : World} {B C : Nat} {A : Option Addr} {ps : List Pt} (h : PS w B A ps) (hb : Below C w w') (hC : B ≤ C) : PS w' B A ps :=
  h.keep fun _ hp => hb.cell (Nat.lt_of_lt_of_le hp hC)
theorem IS.alloc {w : World} {B : Nat} {A : Option Addr} {xs : List Int} (h : IS w B A xs) (hB : B ≤ w.heap.size) (o : Obj) : IS (w.alloc o) B A xs :=
  h.keep fun p hp => World.cell?_alloc_lt w o p (by omega)
theorem PS.alloc {w : World} {B : Nat} {A : Option Addr} {ps : List Pt} (h : PS w B A ps) (hB : B ≤ w.heap.size) (o : Obj) : PS (w.alloc o) B A ps :=
  h.keep fun p hp => World.cell?_alloc_lt w o p (by omega)
theorem IS.nil (w : World) (B : Nat) (A : Option Addr) : IS w B A [] := fun h => absurd h (by simp)
theorem PS.nil (w : World) (B : Nat) (A : Option Addr) : PS w B A [] := fun h => absurd h (by simp)
theorem IS.of_own {w : World} {base e n c : Nat} {A : Option Addr} {xs : List Int} (h : w.ownsRow base e 1 (.slice A n c) n (xs.map (Value.int .i64))) : IS w w.heap.size A xs := by
  intro hn
  have hl : xs.length = n := by simpa using h.1
  rcases h.2 with ⟨_, h0⟩ | ⟨g, cap, cur, hv, _, hh, _⟩
  · omega
  · simp only [Value.slice.injEq] at hv
    obtain ⟨rfl, _, rfl⟩ := hv
    have hg : g < w.heap.size := by
      rcases Nat.lt_or_ge g w.heap.size with hlt | hge
      · exact hlt
      · rw [Array.getElem?_eq_none hge] at hh; cases hh
    refine ⟨g, 0, rfl, hg, fun j hj => ?_⟩
    rw [h.cellAt _ (by omega)]
    simp [List.getD, hj]
/-- Five cells written one after the other. -/
def set5 (xs : List Value) (j : Nat) (p : Pt) : List Value :=
  ((((xs.set j (.int .i64 p.k)).set (j + 1) (.int .i64 p.a)).set (j + 2) (.int .i64 p.b)).set (j + 3) (.int .i64 p.c)).set (j + 4) (.int .i64 p.n)
theorem take_set5 (xs : List Value) (j : Nat) (p : Pt) (h : j + 5 ≤ xs.length) : (set5 xs j p).take (j + 5) = xs.take j ++ p.cells := by
  apply List.ext_getElem?
  intro i
  have hl : (xs.take j).length = j := by simp; omega
  rcases Nat.lt_or_ge i j with h1 | h1
  · rw [List.getElem?_append_left (by omega)]
    simp [set5, show i < j + 5 by omega, h1, show ¬ j = i by omega, show ¬ j + 1 = i by omega, show ¬ j + 2 = i by omega, show ¬ j + 3 = i by omega, show ¬ j + 4 = i by omega]
  · rw [List.getElem?_append_right (by omega), hl]
    obtain ⟨d, rfl⟩ : ∃ d, i = j + d := ⟨i - j, by omega⟩
    rw [Nat.add_sub_cancel_left]
    match d with
    | 0 => simp [set5, Pt.cells, List.getElem?_set]; omega
    | 1 => simp [set5, Pt.cells, List.getElem?_set]; omega
    | 2 => simp [set5, Pt.cells, List.getElem?_set]; omega
    | 3 => simp [set5, Pt.cells, List.getElem?_set]; omega
    | 4 => simp [set5, Pt.cells, List.getElem?_set]; omega
    | d + 5 => simp [Pt.cells]; omega
theorem own_set5 {w : World} {base e n cap g : Nat} {xs : List Value} (h : w.ownsRow base e 5 (.slice (some ⟨g, 0, none⟩) n cap) n xs) (j : Nat) (p : Pt) :
    (((((w.setCell ⟨g, j, none⟩ (.int .i64 p.k)).setCell ⟨g, j + 1, none⟩ (.int .i64 p.a)).setCell ⟨g, j + 2, none⟩ (.int .i64 p.b)).setCell ⟨g, j + 3, none⟩ (.int .i64 p.c)).setCell ⟨g, j + 4, none⟩ (.int .i64 p.n)).ownsRow base e 5 (.slice (some ⟨g, 0, none⟩) n cap) n (set5 xs j p) :=
  (((((h.stored j (.int .i64 p.k)).1.stored (j + 1) (.int .i64 p.a)).1.stored (j + 2) (.int .i64 p.b)).1.stored (j + 3) (.int .i64 p.c)).1.stored (j + 4) (.int .i64 p.n)).1
theorem below_set5 {B : Nat} {a w : World} (h : Below B a w) {g : Nat} (hg : B ≤ g) (j : Nat) (p : Pt) :
    Below B a (((((w.setCell ⟨g, j, none⟩ (.int .i64 p.k)).setCell ⟨g, j + 1, none⟩ (.int .i64 p.a)).setCell ⟨g, j + 2, none⟩ (.int .i64 p.b)).setCell ⟨g, j + 3, none⟩ (.int .i64 p.c)).setCell ⟨g, j + 4, none⟩ (.int .i64 p.n)) :=
  ((((h.setCell (p := ⟨g, j, none⟩) hg _).setCell (p := ⟨g, j + 1, none⟩) hg _).setCell (p := ⟨g, j + 2, none⟩) hg _).setCell (p := ⟨g, j + 3, none⟩) hg _).setCell (p := ⟨g, j + 4, none⟩) hg _
theorem length_cells (ps : List Pt) : (ps.flatMap Pt.cells).length = ps.length * 5 := by
  induction ps with
  | nil => rfl
  | cons p l ih => simp [List.flatMap_cons, ih, Pt.cells]; omega
theorem cells_get (ps : List Pt) (j : Nat) (h : j < ps.length) : (ps.flatMap Pt.cells)[j * 5]? = some (.int .i64 (ps.getD j default).k) ∧ (ps.flatMap Pt.cells)[j * 5 + 1]? = some (.int .i64 (ps.getD j default).a) ∧
    (ps.flatMap Pt.cells)[j * 5 + 2]? = some (.int .i64 (ps.getD j default).b) ∧ (ps.flatMap Pt.cells)[j * 5 + 3]? = some (.int .i64 (ps.getD j default).c) ∧ (ps.flatMap Pt.cells)[j * 5 + 4]? = some (.int .i64 (ps.getD j default).n) := by
  induction ps generalizing j with
  | nil => simp at h
  | cons p l ih =>
    have e : (p :: l).flatMap Pt.cells = p.cells ++ l.flatMap Pt.cells := by simp [List.flatMap_cons]
    rw [e]
    match j with
    | 0 => simp [Pt.cells]
    | j + 1 =>
      have hj : j < l.length := by simpa using h
      have hc : p.cells.length = 5 := rfl
      obtain ⟨a0, a1, a2, a3, a4⟩ := ih j hj
      have s (d : Nat) : (p.cells ++ l.flatMap Pt.cells)[(j + 1) * 5 + d]? = (l.flatMap Pt.cells)[j * 5 + d]? := by
        rw [List.getElem?_append_right (by omega), hc]; congr 1; omega
      have s0 := s 0
      simp only [Nat.add_zero] at s0
      rw [s0, s 1, s 2, s 3, s 4]
      simpa using ⟨a0, a1, a2, a3, a4⟩
theorem PS.of_own {w : World} {base e n c : Nat} {A : Option Addr} {ps : List Pt} (h : w.ownsRow base e 5 (.slice A n c) n (ps.flatMap Pt.cells)) : PS w w.heap.size A ps := by
  intro hn
  have hl : ps.length = n := by have := h.1; rw [length_cells] at this; omega
  rcases h.2 with ⟨_, h0⟩ | ⟨g, cap, cur, hv, _, hh, _⟩
  · omega
  · simp only [Value.slice.injEq] at hv
    obtain ⟨rfl, _, rfl⟩ := hv
    have hg : g < w.heap.size := by
      rcases Nat.lt_or_ge g w.heap.size with hlt | hge
      · exact hlt
      · rw [Array.getElem?_eq_none hge] at hh; cases hh
    refine ⟨g, 0, rfl, hg, fun j hj => ?_⟩
    obtain ⟨a0, a1, a2, a3, a4⟩ := cells_get ps j hj
    simp only [Nat.zero_add]
    rw [h.cellAt _ (by omega), h.cellAt _ (by omega), h.cellAt _ (by omega), h.cellAt _ (by omega), h.cellAt _ (by omega)]
    exact ⟨a0, a1, a2, a3, a4⟩
/-- The slice value is one of the call's own, of numbers. -/
def OwnI (w : World) (base : Nat) (v : Value) (xs : List Int) : Prop := w.ownsRow base 3 1 v xs.length (xs.map (Value.int .i64))
theorem OwnI.form {w : World} {base : Nat} {v : Value} {xs : List Int} (h : OwnI w base v xs) : ∃ A c, v = .slice A xs.length c ∧ IS w w.heap.size A xs := by
  have h' := h
  rcases h.2 with ⟨hv, h0⟩ | ⟨g, cap, cur, hv, _⟩
  · have hx : xs = [] := List.eq_nil_of_length_eq_zero h0
    subst hx
    exact ⟨none, 0, hv, IS.nil _ _ _⟩
  · subst hv
    exact ⟨_, _, rfl, IS.of_own h'⟩
end Go.Proofs.Ytdiabclcnkbglaa

namespace Go.Proofs.Ytdiabclcnkbglaa
set_option linter.unusedSimpArgs false
set_option linter.unusedVariables false
open Go.RowKit
/-- Whether a number is in a range. -/
def rng (n lo hi : Int) : Bool := decide (lo ≤ n ∧ n ≤ hi)
/-- How many parts a kind has below. -/
def ar (k : Int) : Int := if k = 0 ∨ k = 1 then 0 else if 2 ≤ k ∧ k ≤ 7 then 2 else if k = 8 then 3 else -1
/-- No part below. -/
def noneB (a b c : Int) : Bool := a == -1 && b == -1 && c == -1
theorem ret_b {a b : Bool} (h : a = b) : Ending.returned (.bool a) = .returned (.bool b) := by rw [h]
theorem ret_i {a b : Int} (h : a = b) : Ending.returned (.int .i64 a) = .returned (.int .i64 b) := by rw [h]
set_option maxHeartbeats 400000 in
theorem impl_inRange (n m : Int) (w : World) :
    Calls Try.prog 45 #[.int .i64 n, .int .i64 m] w fun e w' => e = .returned (.bool (rng n 0 m)) ∧ w = w' := by
  go_enter Try.func45, Try.ntmps45
  go_wp2
  all_goals
    go_ret
    exact ⟨ret_b (by unfold rng; simp; try omega), rfl⟩
set_option maxHeartbeats 400000 in
theorem spec_inRange (n l m : Int) (w : World) :
    Calls Try.prog 32 #[.int .i64 n, .int .i64 l, .int .i64 m] w fun e w' => e = .returned (.bool (rng n l m)) ∧ w = w' := by
  go_enter Try.func32, Try.ntmps32
  go_wp2
  all_goals
    go_ret
    exact ⟨ret_b (by unfold rng; simp; try omega), rfl⟩
set_option maxHeartbeats 800000 in
theorem spec_arity (k : Int) (w : World) :
    Calls Try.prog 48 #[.int .i64 k] w fun e w' => e = .returned (.int .i64 (ar k)) ∧ w = w' := by
  go_enter Try.func48, Try.ntmps48
  go_wp2
  all_goals
    go_ret
    refine ⟨ret_i ?_, rfl⟩
    simp only [beq_iff_eq, beq_eq_false_iff_ne, ne_eq] at *
    unfold ar
    try simp
    omega
set_option maxHeartbeats 800000 in
theorem impl_hasNoneBelow (k a b c n : Int) (w : World) :
    Calls Try.prog 57 #[.agg #[.int .i64 k, .int .i64 a, .int .i64 b, .int .i64 c, .int .i64 n]] w fun e w' => e = .returned (.bool (noneB a b c)) ∧ Below w.heap.size w w' := by
  go_enter Try.func57, Try.ntmps57
  go_wp2
  all_goals
    go_ret
    exact ⟨ret_b (by simp [noneB, *]), (Below.refl _ _).alloc (Nat.le_refl _) _⟩
end Go.Proofs.Ytdiabclcnkbglaa

namespace Go.Proofs.Ytdiabclcnkbglaa
set_option linter.unusedSimpArgs false
set_option linter.unusedVariables false
open Go.RowKit
theorem bcell {W w1 : World} (hb : Below W.heap.size W w1) : (∀ b o, b < W.heap.size → w1.cell? ⟨b, o, none⟩ = W.cell? ⟨b, o, none⟩) ∧ (∀ b o, b < W.heap.size → w1.frozen? ⟨b, o, none⟩ = W.frozen? ⟨b, o, none⟩) :=
  ⟨fun b o h => hb.cell (p := ⟨b, o, none⟩) h, fun b o h => hb.frozen (p := ⟨b, o, none⟩) h⟩
def eqPt (p q : Pt) : Bool := p.k == q.k && p.a == q.a && p.b == q.b && p.c == q.c && p.n == q.n
theorem eqPt_iff (p q : Pt) : eqPt p q = true ↔ p = q := by
  obtain ⟨a, b, c, d, e⟩ := p
  obtain ⟨a', b', c', d', e'⟩ := q
  simp [eqPt, and_assoc]
set_option maxHeartbeats 800000 in
theorem laws_eqPart (p q : Pt) (w : World) :
    Calls Try.prog 56 #[.agg #[.int .i64 p.k, .int .i64 p.a, .int .i64 p.b, .int .i64 p.c, .int .i64 p.n], .agg #[.int .i64 q.k, .int .i64 q.a, .int .i64 q.b, .int .i64 q.c, .int .i64 q.n]] w fun e w' => e = .returned (.bool (eqPt p q)) ∧ Below w.heap.size w w' := by
  obtain ⟨k, a, b, c, n⟩ := p
  obtain ⟨k', a', b', c', n'⟩ := q
  go_enter Try.func56, Try.ntmps56
  go_wp2
  all_goals
    go_ret
    refine ⟨ret_b ?_, ((Below.refl _ _).alloc (Nat.le_refl _) _).alloc (by simp) _⟩
    simp_all [eqPt, bne]
theorem take_succ_getD {α : Type} [Inhabited α] (l : List α) (k : Nat) (h : k < l.length) : l.take (k + 1) = l.take k ++ [l.getD k default] := by
  rw [List.take_succ_eq_append_getElem h]; simp [List.getD, h]
theorem take_step {α : Type} [Inhabited α] (l m : List α) (k : Nat) (h : k < l.length) (h' : k < m.length) (ht : l.take k = m.take k) (he : l.getD k default = m.getD k default) : l.take (k + 1) = m.take (k + 1) := by
  rw [take_succ_getD l k h, take_succ_getD m k h', ht, he]
theorem take_all_eq {α : Type} (l m : List α) (n : Nat) (h : n = l.length) (h' : n = m.length) (ht : l.take n = m.take n) : l = m := by
  rw [List.take_of_length_le (by omega), List.take_of_length_le (by omega)] at ht
  exact ht
theorem getD_ne {α : Type} [Inhabited α] [DecidableEq α] (l m : List α) (k : Nat) (h : l.getD k default ≠ m.getD k default) : decide (l = m) = false := by
  rw [decide_eq_false_iff_not]; rintro rfl; exact h rfl
set_option maxRecDepth 100000 in
set_option maxHeartbeats 800000 in
theorem laws_eqPartS (A A' : Option Addr) (n n' c c' : Nat) (ps qs : List Pt) (w : World) (B : Nat) (hB : B ≤ w.heap.size) (hn : n = ps.length) (hn' : n' = qs.length) (h : PS w B A ps) (h' : PS w B A' qs) (hs : n ≤ 2000000) (hs' : n' ≤ 2000000) :
    Calls Try.prog 53 #[.slice A n c, .slice A' n' c'] w fun e w' => e = .returned (.bool (decide (ps = qs))) ∧ Below w.heap.size w w' := by
  by_cases hl : n = n'
  · have hne : ((n : Int) != (n' : Int)) = false := by simp [hl]
    have HL := Lib.hid hl
    have HN := Lib.hid hn
    have HN' := Lib.hid hn'
    have H := Lib.hid h
    have H' := Lib.hid h'
    clear hl hn hn' h h'
    go_enter Try.func53, Try.ntmps53
    go_wp2
    go_loopw [5] (fun i wr => ∃ k : Nat, k ≤ n ∧ i = .int .i64 k ∧ Hid (ps.take k = qs.take k) ∧ Below w.heap.size w wr) (fun i _ => n - (intOf i).toNat)
    case atStart => exact ⟨0, Nat.zero_le _, rfl, by simp [Hid], Below.refl _ _⟩
    case round =>
      obtain ⟨k, hk, rfl, HT, hb⟩ := hrel
      by_cases hlt : k < n
      · obtain ⟨b, off, rfl, hbB, hc⟩ := H.out (by have := HN.out; omega)
        obtain ⟨b', off', rfl, hbB', hc'⟩ := H'.out (by have := HN'.out; have := HL.out; omega)
        obtain ⟨c0, c1, c2, c3, c4⟩ := hc k (by have := HN.out; omega)
        obtain ⟨d0, d1, d2, d3, d4⟩ := hc' k (by have := HN'.out; have := HL.out; omega)
        clear hc hc' H H'
        have hlt' : k < n' := by have := HL.out; omega
        have b0 := (hb.cell (p := ⟨b, off + k * 5, none⟩) (by simp; omega)).trans c0
        have b1 := (hb.cell (p := ⟨b, off + k * 5 + 1, none⟩) (by simp; omega)).trans c1
        have b2 := (hb.cell (p := ⟨b, off + k * 5 + 2, none⟩) (by simp; omega)).trans c2
        have b3 := (hb.cell (p := ⟨b, off + k * 5 + 3, none⟩) (by simp; omega)).trans c3
        have b4 := (hb.cell (p := ⟨b, off + k * 5 + 4, none⟩) (by simp; omega)).trans c4
        have e0 := (hb.cell (p := ⟨b', off' + k * 5, none⟩) (by simp; omega)).trans d0
        have e1 := (hb.cell (p := ⟨b', off' + k * 5 + 1, none⟩) (by simp; omega)).trans d1
        have e2 := (hb.cell (p := ⟨b', off' + k * 5 + 2, none⟩) (by simp; omega)).trans d2
        have e3 := (hb.cell (p := ⟨b', off' + k * 5 + 3, none⟩) (by simp; omega)).trans d3
        have e4 := (hb.cell (p := ⟨b', off' + k * 5 + 4, none⟩) (by simp; omega)).trans d4
        clear c0 c1 c2 c3 c4 d0 d1 d2 d3 d4
        generalize hp : ps.getD k default = p at *
        generalize hq : qs.getD k default = q at *
        have HP := Lib.hid hp
        have HQ := Lib.hid hq
        clear hp hq
        go_wp2
        go_still_tail 8, (by kernel_rfl)
        go_wp2_with (go_at_call 56; refine (laws_eqPart _ _ _).mono ?_; rintro e w1 ⟨rfl, hb1⟩)
        · have ht : (!eqPt p q) = true := by assumption
          go_ret
          refine ⟨ret_b ?_, hb.drew.trans (hb1.mono hb.size)⟩
          have hne : ps.getD k default ≠ qs.getD k default := by
            rw [HP.out, HQ.out]; intro e; rw [(eqPt_iff p q).2 e] at ht; cases ht
          simp [getD_ne ps qs k hne]
        · have ht : (!eqPt p q) = false := by assumption
          have he : ps.getD k default = qs.getD k default := by
            rw [HP.out, HQ.out]; exact (eqPt_iff p q).1 (by simpa using ht)
          have hts := take_step ps qs k (by have := HN.out; omega) (by have := HN'.out; omega) HT.out he
          clear he
          go_roundw
          case rel => exact ⟨k + 1, by omega, by go_num, hts, hb.drew.trans (hb1.mono hb.size)⟩
          case measure => simp [intOf]; omega
      · go_wp2
        go_ret
        refine ⟨ret_b ?_, hb⟩
        have hkn : k = n := by omega
        have := take_all_eq ps qs n HN.out (HL.out.trans HN'.out) (by rw [← hkn]; exact HT.out)
        simp [this]
  · have hne : ((n : Int) != (n' : Int)) = true := by simp; omega
    have hf : decide (ps = qs) = false := by
      rw [decide_eq_false_iff_not]; rintro rfl; omega
    rw [hf]
    clear hl hn hn' h h' hf
    go_enter Try.func53, Try.ntmps53
    go_wp2
    go_ret
    exact ⟨rfl, Below.refl _ _⟩
set_option maxHeartbeats 400000 in
theorem laws_eqFormula (A A' : Option Addr) (n n' c c' : Nat) (ps qs : List Pt) (w : World) (B : Nat) (hB : B ≤ w.heap.size) (hn : n = ps.length) (hn' : n' = qs.length) (h : PS w B A ps) (h' : PS w B A' qs) (hs : n ≤ 2000000) (hs' : n' ≤ 2000000) :
    Calls Try.prog 46 #[.agg #[.slice A n c], .agg #[.slice A' n' c']] w fun e w' => e = .returned (.bool (decide (ps = qs))) ∧ Below w.heap.size w w' := by
  have H := Lib.hid h
  have H' := Lib.hid h'
  have HN := Lib.hid hn
  have HN' := Lib.hid hn'
  clear hn hn' h h'
  go_enter Try.func46, Try.ntmps46
  go_wp2_with fail
  refine (laws_eqPartS _ _ _ _ _ _ ps qs _ B (by simp; omega) HN.out HN'.out ((H.out.alloc hB _).alloc (by simp; omega) _) ((H'.out.alloc hB _).alloc (by simp; omega) _) hs hs').mono ?_
  rintro e w1 ⟨rfl, hb⟩
  go_wp2
  all_goals
    go_ret
    exact ⟨ret_b (by simp_all), ((Below.refl _ _).alloc (Nat.le_refl _) _).alloc (by simp) _ |>.trans (hb.mono (by simp; omega))⟩
end Go.Proofs.Ytdiabclcnkbglaa

namespace Go.Proofs.Ytdiabclcnkbglaa
set_option linter.unusedSimpArgs false
set_option linter.unusedVariables false
open Go.RowKit
set_option maxHeartbeats 400000 in
theorem laws_toPart (p : Pt) (w : World) :
    Calls Try.prog 54 #[.agg #[.int .i64 p.k, .int .i64 p.a, .int .i64 p.b, .int .i64 p.c, .int .i64 p.n]] w fun e w' => e = .returned (.agg #[.int .i64 p.k, .int .i64 p.a, .int .i64 p.b, .int .i64 p.c, .int .i64 p.n]) ∧ Below w.heap.size w w' := by
  obtain ⟨k, a, b, c, n⟩ := p
  go_enter Try.func54, Try.ntmps54
  go_wp2
  refine bodyPost_ret (v := .agg #[.int .i64 k, .int .i64 a, .int .i64 b, .int .i64 c, .int .i64 n]) (by simp [results, Try.results54, go_sem]) rfl ⟨rfl, ?_⟩
  exact (((Below.refl _ _).alloc (Nat.le_refl _) _).alloc (by simp) _).alloc (by simp; omega) _
theorem own_below {w w' : World} {base e size n : Nat} {v : Value} {xs : List Value} (h : w.ownsRow base e size v n xs) (hb : Below w.heap.size w w') : w'.ownsRow base e size v n xs :=
  h.kept (row := none) ⟨hb.os, hb.tape, hb.output, hb.size, fun k hk _ => hb.block k hk⟩ (by cases v.ownBlock <;> simp)
theorem info_part : (Try.prog.info? 72).map (fun i => (i.zero, i.size, i.bytes)) = some (some (.agg #[.int .i64 0, .int .i64 0, .int .i64 0, .int .i64 0, .int .i64 0]), 5, 40) := by kernel_rfl
set_option maxHeartbeats 800000 in
theorem laws_toPartS (A : Option Addr) (n c : Nat) (ps : List Pt) (w : World) (B : Nat) (hB : B ≤ w.heap.size) (hn : n = ps.length) (h : PS w B A ps) (hs : n ≤ 2000000) :
    Calls Try.prog 49 #[.slice A n c] w fun e w' => e = .returned (.slice (some ⟨w.heap.size, 0, none⟩) n n) ∧ w'.ownsRow w.heap.size 72 5 (.slice (some ⟨w.heap.size, 0, none⟩) n n) n (ps.flatMap Pt.cells) ∧ Below w.heap.size w w' := by
  obtain ⟨i0, hi, hz0, hz1, hz2⟩ := info_parts info_part
  obtain ⟨w0, hmk, hown0, hgr0⟩ := run_make_full (P := Try.prog) w w.heap.size 47 72 i0 _ 5 Try.underlying47 hi hz0 hz1 .i64 .i64 n (by rw [hz2]; omega) (by unfold maxLen; omega) (Nat.le_refl _)
  have H := Lib.hid h
  have HN := Lib.hid hn
  clear hn h
  go_enter Try.func49, Try.ntmps49
  go_wp2
  go_loopw [4] (fun i wr => ∃ (k : Nat) (xs : List Value), k ≤ n ∧ i = .int .i64 k ∧ Hid (wr.ownsRow w.heap.size 72 5 (.slice (some ⟨w.heap.size, 0, none⟩) n n) n xs) ∧ Hid (xs.take (k * 5) = (ps.take k).flatMap Pt.cells) ∧ Below w.heap.size w wr) (fun i _ => n - (intOf i).toNat)
  case atStart => exact ⟨0, _, Nat.zero_le _, rfl, hown0, by simp [Hid], ⟨hgr0.os, hgr0.tape, hgr0.output, hgr0.size, fun k hk => hgr0.block k hk (by simp)⟩⟩
  case round =>
    obtain ⟨k, xs, hk, rfl, HO, HT, hb⟩ := hrel
    by_cases hlt : k < n
    · obtain ⟨b, off, rfl, hbB, hc⟩ := H.out (by have := HN.out; omega)
      obtain ⟨c0, c1, c2, c3, c4⟩ := hc k (by have := HN.out; omega)
      clear hc H
      have b0 := (hb.cell (p := ⟨b, off + k * 5, none⟩) (by simp; omega)).trans c0
      have b1 := (hb.cell (p := ⟨b, off + k * 5 + 1, none⟩) (by simp; omega)).trans c1
      have b2 := (hb.cell (p := ⟨b, off + k * 5 + 2, none⟩) (by simp; omega)).trans c2
      have b3 := (hb.cell (p := ⟨b, off + k * 5 + 3, none⟩) (by simp; omega)).trans c3
      have b4 := (hb.cell (p := ⟨b, off + k * 5 + 4, none⟩) (by simp; omega)).trans c4
      clear c0 c1 c2 c3 c4
      generalize hp : ps.getD k default = p at *
      have HP := Lib.hid hp
      clear hp
      go_wp2_with fail
      refine (laws_toPart _ _).mono ?_
      rintro e w1 ⟨rfl, hb1⟩
      have hO1 := own_below HO.out hb1
      have hxl : xs.length = n * 5 := hO1.1
      have u0 := hO1.cellAt (k * 5) (by omega)
      have u1 := hO1.cellAt (k * 5 + 1) (by omega)
      have u2 := hO1.cellAt (k * 5 + 2) (by omega)
      have u3 := hO1.cellAt (k * 5 + 3) (by omega)
      have u4 := hO1.cellAt (k * 5 + 4) (by omega)
      rw [List.getElem?_eq_getElem (by omega)] at u0 u1 u2 u3 u4
      have f0 := hO1.frozenAt (k * 5)
      have f1 := hO1.frozenAt (k * 5 + 1)
      have f2 := hO1.frozenAt (k * 5 + 2)
      have f3 := hO1.frozenAt (k * 5 + 3)
      have f4 := hO1.frozenAt (k * 5 + 4)
      generalize xs[k * 5]'(by omega) = v0 at u0
      generalize xs[k * 5 + 1]'(by omega) = v1 at u1
      generalize xs[k * 5 + 2]'(by omega) = v2 at u2
      generalize xs[k * 5 + 3]'(by omega) = v3 at u3
      generalize xs[k * 5 + 4]'(by omega) = v4 at u4
      have HO1 := Lib.hid hO1
      have HXL := Lib.hid hxl
      clear hO1 hxl HO
      go_wp2
      go_roundw
      case rel =>
        have hx5 : (set5 xs (k * 5) p).take ((k + 1) * 5) = (ps.take (k + 1)).flatMap Pt.cells := by
          rw [show (k + 1) * 5 = k * 5 + 5 by omega, take_set5 xs (k * 5) p (by have := HXL.out; omega), HT.out, take_succ_getD ps k (by have := HN.out; omega), HP.out]
          simp
        exact ⟨k + 1, _, by omega, by go_num, own_set5 HO1.out (k * 5) p, hx5, below_set5 (hb.trans (hb1.mono hb.size)) (Nat.le_refl _) _ _⟩
      case measure => simp [intOf]; omega
    · go_wp2
      go_ret
      have hkn : k = n := by omega
      have hx : xs = ps.flatMap Pt.cells := by
        have h1 := HT.out
        have h2 : xs.length = n * 5 := HO.out.1
        rw [hkn, List.take_of_length_le (by omega), List.take_of_length_le (by have := HN.out; omega)] at h1
        exact h1
      exact ⟨by simp, by rw [← hx]; exact HO.out, hb⟩
/-- Returns a formula of fresh parts. -/
def RetF (w : World) (ps : List Pt) (e : Ending) (w' : World) : Prop := ∃ (A : Option Addr) (n c : Nat), e = .returned (.agg #[.slice A n c]) ∧ n = ps.length ∧ w'.ownsRow w.heap.size 72 5 (.slice A n c) n (ps.flatMap Pt.cells) ∧ Below w.heap.size w w'
theorem own_mono {w : World} {base base' e size n : Nat} {v : Value} {xs : List Value} (h : w.ownsRow base e size v n xs) (hb : base' ≤ base) : w.ownsRow base' e size v n xs :=
  ⟨h.1, h.2.imp_right fun ⟨g, cap, cur, h1, h2, h3⟩ => ⟨g, cap, cur, h1, by omega, h3⟩⟩
set_option maxHeartbeats 800000 in
theorem laws_toFormula (A : Option Addr) (n c : Nat) (ps : List Pt) (w : World) (B : Nat) (hB : B ≤ w.heap.size) (hn : n = ps.length) (h : PS w B A ps) (hs : n ≤ 2000000) :
    Calls Try.prog 43 #[.agg #[.slice A n c]] w fun e w' => RetF w ps e w' := by
  have H := Lib.hid h
  have HN := Lib.hid hn
  clear hn h
  go_enter Try.func43, Try.ntmps43
  go_wp2_with fail
  refine (laws_toPartS _ _ _ ps _ B (by simp; omega) HN.out (((H.out.alloc hB _).alloc (by simp; omega) _).alloc (by simp; omega) _) hs).mono ?_
  rintro e w1 ⟨rfl, hown, hb⟩
  obtain ⟨hc, hf⟩ := bcell hb
  have HO := Lib.hid hown
  clear hown
  have hw1 : w.heap.size + 3 ≤ w1.heap.size := by have := hb.size; simp at this; omega
  have q1 : w1.cell? ⟨w.heap.size + 1, 0, none⟩ = some (.slice none 0 0) := by rw [hc _ _ (by simp)]; go_simp
  have q2 : w1.cell? ⟨w.heap.size + 1 + 1, 0, none⟩ = some (.slice none 0 0) := by rw [hc _ _ (by simp)]; go_simp
  have q3 : w1.frozen? ⟨w.heap.size + 1, 0, none⟩ = false := by rw [hf _ _ (by simp)]; go_simp
  have q4 : w1.frozen? ⟨w.heap.size + 1 + 1, 0, none⟩ = false := by rw [hf _ _ (by simp)]; go_simp
  clear hc hf
  go_wp2
  refine bodyPost_ret (v := .agg #[.slice (some ⟨w.heap.size + 1 + 1 + 1, 0, none⟩) n n]) (by simp [results, Try.results43, go_sem, q1]) rfl ?_
  have o1 := ownsRow_setCell_below HO.out (a := ⟨w.heap.size + 1 + 1, 0, none⟩) (by simp) (.slice (some ⟨w.heap.size + 1 + 1 + 1, 0, none⟩) n n)
  have o2 := ownsRow_setCell_below o1 (a := ⟨w.heap.size + 1, 0, none⟩) (by simp) (.slice (some ⟨w.heap.size + 1 + 1 + 1, 0, none⟩) n n)
  have o3 := own_mono (base' := w.heap.size) o2 (by simp; omega)
  simp only [World.size_alloc] at o3
  refine ⟨_, n, n, rfl, HN.out, o3, ?_⟩
  exact ((((((Below.refl _ _).alloc (Nat.le_refl _) _).alloc (by simp) _).alloc (by simp; omega) _).trans (hb.mono (by simp; omega))).setCell (by simp; omega) _).setCell (by simp) _
set_option maxHeartbeats 400000 in
theorem laws_szPartS (A : Option Addr) (n c : Nat) (l : Int) (w : World) (hl0 : 0 ≤ l) (hl : l ≤ 2000000) (hn : n ≤ 9223372036854775807) :
    Calls Try.prog 47 #[.slice A n c, .int .i64 l] w fun e w' => e = .returned (.int .i64 (if l - n < 0 then -1 else l - n)) ∧ w = w' := by
  by_cases h : l - n < 0
  · rw [if_pos h]
    go_enter Try.func47, Try.ntmps47
    go_wp2
    go_ret
    exact ⟨rfl, rfl⟩
  · rw [if_neg h]
    go_enter Try.func47, Try.ntmps47
    go_wp2
    go_ret
    exact ⟨rfl, rfl⟩
set_option maxHeartbeats 400000 in
theorem laws_szFormula (A : Option Addr) (n c : Nat) (l : Int) (w : World) (hl0 : 0 ≤ l) (hl : l ≤ 2000000) (hn : n ≤ 9223372036854775807) :
    Calls Try.prog 39 #[.agg #[.slice A n c], .int .i64 l] w fun e w' => e = .returned (.int .i64 (if l - n < 0 then -1 else l - n)) ∧ Below w.heap.size w w' := by
  have HS := laws_szPartS A n c l
  by_cases h : l - n < 0
  · rw [if_pos h]
    have HC : ∀ w : World, Calls Try.prog 47 #[.slice A n c, .int .i64 l] w fun e w' => e = .returned (.int .i64 (-1)) ∧ w = w' := fun w => by
      have := HS w hl0 hl hn
      rwa [if_pos h] at this
    have HH := Lib.hid HC
    clear HC HS
    go_enter Try.func39, Try.ntmps39
    go_wp2_with fail
    refine (HH.out _).mono ?_
    rintro e w' ⟨rfl, rfl⟩
    go_wp2
    go_ret
    exact ⟨rfl, (Below.refl _ _).alloc (Nat.le_refl _) _⟩
  · rw [if_neg h]
    have HC : ∀ w : World, Calls Try.prog 47 #[.slice A n c, .int .i64 l] w fun e w' => e = .returned (.int .i64 (l - n)) ∧ w = w' := fun w => by
      have := HS w hl0 hl hn
      rwa [if_neg h] at this
    have HH := Lib.hid HC
    clear HC HS
    go_enter Try.func39, Try.ntmps39
    go_wp2_with fail
    refine (HH.out _).mono ?_
    rintro e w' ⟨rfl, rfl⟩
    go_wp2
    go_ret
    exact ⟨rfl, (Below.refl _ _).alloc (Nat.le_refl _) _⟩
end Go.Proofs.Ytdiabclcnkbglaa

namespace Go.Proofs.Ytdiabclcnkbglaa
set_option linter.unusedSimpArgs false
set_option linter.unusedVariables false
open Go.RowKit
def bel (p : Pt) : List Int := if ar p.k = 2 then [p.a, p.b] else if ar p.k = 3 then [p.a, p.b, p.c] else []
theorem below_bcell {W w1 : World} (hb : Below W.heap.size W w1) : (∀ b o, b < W.heap.size → w1.cell? ⟨b, o, none⟩ = W.cell? ⟨b, o, none⟩) ∧ (∀ b o, b < W.heap.size → w1.frozen? ⟨b, o, none⟩ = W.frozen? ⟨b, o, none⟩) :=
  ⟨fun b o h => hb.cell (p := ⟨b, o, none⟩) h, fun b o h => hb.frozen (p := ⟨b, o, none⟩) h⟩
/-- Returns a fresh slice of numbers. -/
def RetI (w : World) (xs : List Int) (e : Ending) (w' : World) : Prop := ∃ v, e = .returned v ∧ OwnI w' w.heap.size v xs ∧ Below w.heap.size w w'
theorem retI_lit {w w1 : World} (hb : Below w.heap.size w w1) (xs : List Int) (cs : Array Value) (n : Nat) (hn : n = xs.length) (hm : n ≤ maxLen) (hc : cs.toList = xs.map (Value.int .i64)) (e : Ending)
    (he : e = .returned (.slice (some ⟨w1.heap.size, 0, none⟩) n n)) : RetI w xs e (w1.alloc (.cells cs 3)) := by
  subst hn
  refine ⟨_, he, ?_, hb.alloc hb.size _⟩
  have h := World.ownsRow_lit (e := 3) (size := 1) w1 cs xs.length hb.size hm (by rw [← Array.length_toList, hc]; simp)
  rw [hc] at h
  exact h
set_option maxHeartbeats 800000 in
theorem spec_below (p : Pt) (w : World) :
    Calls Try.prog 41 #[.agg #[.int .i64 p.k, .int .i64 p.a, .int .i64 p.b, .int .i64 p.c, .int .i64 p.n]] w fun e w' => RetI w (bel p) e w' := by
  obtain ⟨k, a, b, c, n⟩ := p
  have hm : 3 ≤ maxLen := by unfold maxLen; omega
  have HM := Lib.hid hm
  clear hm
  by_cases h2 : ar k = 2
  · have h2' : (ar k == 2) = true := by simp [h2]
    have H : bel ⟨k, a, b, c, n⟩ = [a, b] := by simp [bel, h2]
    rw [H]
    clear H h2
    go_enter Try.func41, Try.ntmps41
    go_wp2_with (go_at_call 48; refine (spec_arity _ _).mono ?_; rintro e w' ⟨rfl, rfl⟩)
    go_ret
    exact retI_lit ((Below.refl _ _).alloc (Nat.le_refl _) _) _ _ 2 rfl (by have := HM.out; omega) rfl _ (by simp)
  · have h2' : (ar k == 2) = false := by simp [h2]
    by_cases h3 : ar k = 3
    · have h3' : (ar k == 3) = true := by simp [h3]
      have H : bel ⟨k, a, b, c, n⟩ = [a, b, c] := by simp [bel, h3]
      rw [H]
      clear H h2 h3
      go_enter Try.func41, Try.ntmps41
      go_wp2_with (go_at_call 48; refine (spec_arity _ _).mono ?_; rintro e w' ⟨rfl, rfl⟩)
      go_ret
      exact retI_lit ((Below.refl _ _).alloc (Nat.le_refl _) _) _ _ 3 rfl (by have := HM.out; omega) rfl _ (by simp)
    · have h3' : (ar k == 3) = false := by simp [h3]
      have H : bel ⟨k, a, b, c, n⟩ = [] := by simp [bel, h3, h2]
      rw [H]
      clear H h2 h3
      go_enter Try.func41, Try.ntmps41
      go_wp2_with (go_at_call 48; refine (spec_arity _ _).mono ?_; rintro e w' ⟨rfl, rfl⟩)
      go_ret
      exact retI_lit ((Below.refl _ _).alloc (Nat.le_refl _) _) _ _ 0 rfl (by have := HM.out; omega) rfl _ (by simp)
def goodPt (p : Pt) (i : Int) : Bool :=
  if ar p.k == 0 then p.a == -1 && p.b == -1 && p.c == -1 && rng p.n 0 (if p.k == 1 then 9 else 99)
  else if ar p.k == 2 then rng p.a 0 (i - 1) && rng p.b 0 (i - 1) && p.c == -1 && p.n == 0
  else if ar p.k == 3 then rng p.a 0 (i - 1) && rng p.b 0 (i - 1) && rng p.c 0 (i - 1) && p.n == 0
  else false
set_option maxHeartbeats 1600000 in
theorem spec_goodPart (p : Pt) (i : Nat) (hi : i ≤ 2000000) (w : World) :
    Calls Try.prog 40 #[.agg #[.int .i64 p.k, .int .i64 p.a, .int .i64 p.b, .int .i64 p.c, .int .i64 p.n], .int .i64 i] w fun e w' => e = .returned (.bool (goodPt p i)) ∧ Below w.heap.size w w' := by
  obtain ⟨k, a, b, c, n⟩ := p
  go_enter Try.func40, Try.ntmps40
  go_wp2_with (first | (go_at_call 48; refine (spec_arity _ _).mono ?_; rintro e w' ⟨rfl, rfl⟩) | (go_at_call 32; refine (spec_inRange _ _ _ _).mono ?_; rintro e w' ⟨rfl, rfl⟩))
  all_goals
    go_ret
    refine ⟨ret_b ?_, (Below.refl _ _).alloc (Nat.le_refl _) _⟩
    simp [goodPt, *]
end Go.Proofs.Ytdiabclcnkbglaa

namespace Go.Proofs.Ytdiabclcnkbglaa
set_option linter.unusedSimpArgs false
set_option linter.unusedVariables false
open Go.RowKit
set_option maxRecDepth 100000 in
set_option maxHeartbeats 800000 in
theorem laws_eqIntS (A A' : Option Addr) (n n' c c' : Nat) (xs ys : List Int) (w : World) (B : Nat) (hB : B ≤ w.heap.size) (hn : n = xs.length) (hn' : n' = ys.length) (h : IS w B A xs) (h' : IS w B A' ys) (hs : n ≤ 2000000) (hs' : n' ≤ 2000000) :
    Calls Try.prog 11 #[.slice A n c, .slice A' n' c'] w fun e w' => e = .returned (.bool (decide (xs = ys))) ∧ Below w.heap.size w w' := by
  by_cases hl : n = n'
  · have hne : ((n : Int) != (n' : Int)) = false := by simp [hl]
    have HL := Lib.hid hl
    have HN := Lib.hid hn
    have HN' := Lib.hid hn'
    have H := Lib.hid h
    have H' := Lib.hid h'
    clear hl hn hn' h h'
    go_enter Try.func11, Try.ntmps11
    go_wp2
    go_loopw [5] (fun i wr => ∃ k : Nat, k ≤ n ∧ i = .int .i64 k ∧ Hid (xs.take k = ys.take k) ∧ Below w.heap.size w wr) (fun i _ => n - (intOf i).toNat)
    case atStart => exact ⟨0, Nat.zero_le _, rfl, by simp [Hid], Below.refl _ _⟩
    case round =>
      obtain ⟨k, hk, rfl, HT, hb⟩ := hrel
      by_cases hlt : k < n
      · obtain ⟨b, off, rfl, hbB, hc⟩ := H.out (by have := HN.out; omega)
        obtain ⟨b', off', rfl, hbB', hc'⟩ := H'.out (by have := HN'.out; have := HL.out; omega)
        have c0 := hc k (by have := HN.out; omega)
        have d0 := hc' k (by have := HN'.out; have := HL.out; omega)
        clear hc hc' H H'
        have hlt' : k < n' := by have := HL.out; omega
        have b0 := (hb.cell (p := ⟨b, off + k, none⟩) (by simp; omega)).trans c0
        have e0 := (hb.cell (p := ⟨b', off' + k, none⟩) (by simp; omega)).trans d0
        clear c0 d0
        generalize hp : xs.getD k 0 = p at *
        generalize hq : ys.getD k 0 = q at *
        have HP := Lib.hid hp
        have HQ := Lib.hid hq
        clear hp hq
        cases hpq : (p != q)
        · have HPQ := Lib.hid hpq
          go_wp2
          go_region
          go_wp2
          go_roundw
          case rel =>
            have hts := take_step xs ys k (by have := HN.out; omega) (by have := HN'.out; omega) HT.out (HP.out.trans ((by simpa using HPQ.out : p = q).trans HQ.out.symm))
            exact ⟨k + 1, by omega, by go_num, hts, hb.drew⟩
          case measure => simp [intOf]; omega
        · have HPQ := Lib.hid hpq
          go_wp2
          go_region
          go_wp2
          go_ret
          refine ⟨ret_b ?_, hb.drew⟩
          have hne : xs.getD k default ≠ ys.getD k default := by
            intro e
            have : p = q := HP.out.symm.trans (e.trans HQ.out)
            have h2 := HPQ.out
            simp [this] at h2
          simp [getD_ne xs ys k hne]
      · go_wp2
        go_ret
        refine ⟨ret_b ?_, hb⟩
        have hkn : k = n := by omega
        have := take_all_eq xs ys n HN.out (HL.out.trans HN'.out) (by rw [← hkn]; exact HT.out)
        simp [this]
  · have hne : ((n : Int) != (n' : Int)) = true := by simp; omega
    have hf : decide (xs = ys) = false := by
      rw [decide_eq_false_iff_not]; rintro rfl; omega
    rw [hf]
    clear hl hn hn' h h' hf
    go_enter Try.func11, Try.ntmps11
    go_wp2
    go_ret
    exact ⟨rfl, Below.refl _ _⟩
theorem info_int : (Try.prog.info? 3).map (fun i => (i.zero, i.size, i.bytes)) = some (some (.int .i64 0), 1, 8) := by kernel_rfl
theorem take_set1 (xs : List Value) (k : Nat) (v : Value) (h : k < xs.length) : (xs.set k v).take (k + 1) = xs.take k ++ [v] := by
  rw [List.take_succ_eq_append_getElem (by simpa using h), List.take_set_of_le (by omega)]
  simp
set_option maxHeartbeats 800000 in
theorem laws_toIntS (A : Option Addr) (n c : Nat) (xs : List Int) (w : World) (B : Nat) (hB : B ≤ w.heap.size) (hn : n = xs.length) (h : IS w B A xs) (hs : n ≤ 2000000) :
    Calls Try.prog 7 #[.slice A n c] w fun e w' => e = .returned (.slice (some ⟨w.heap.size, 0, none⟩) n n) ∧ w'.ownsRow w.heap.size 3 1 (.slice (some ⟨w.heap.size, 0, none⟩) n n) n (xs.map (Value.int .i64)) ∧ Below w.heap.size w w' := by
  obtain ⟨i0, hi, hz0, hz1, hz2⟩ := info_parts info_int
  obtain ⟨w0, hmk, hown0, hgr0⟩ := run_make_full (P := Try.prog) w w.heap.size 25 3 i0 _ 1 Try.underlying25 hi hz0 hz1 .i64 .i64 n (by rw [hz2]; omega) (by unfold maxLen; omega) (Nat.le_refl _)
  have H := Lib.hid h
  have HN := Lib.hid hn
  clear hn h
  go_enter Try.func7, Try.ntmps7
  go_wp2
  go_loopw [4] (fun i wr => ∃ (k : Nat) (vs : List Value), k ≤ n ∧ i = .int .i64 k ∧ Hid (wr.ownsRow w.heap.size 3 1 (.slice (some ⟨w.heap.size, 0, none⟩) n n) n vs) ∧ Hid (vs.take k = (xs.take k).map (Value.int .i64)) ∧ Below w.heap.size w wr) (fun i _ => n - (intOf i).toNat)
  case atStart => exact ⟨0, _, Nat.zero_le _, rfl, hown0, by simp [Hid], ⟨hgr0.os, hgr0.tape, hgr0.output, hgr0.size, fun k hk => hgr0.block k hk (by simp)⟩⟩
  case round =>
    obtain ⟨k, vs, hk, rfl, HO, HT, hb⟩ := hrel
    by_cases hlt : k < n
    · obtain ⟨b, off, rfl, hbB, hc⟩ := H.out (by have := HN.out; omega)
      have c0 := hc k (by have := HN.out; omega)
      clear hc H
      have b0 := (hb.cell (p := ⟨b, off + k, none⟩) (by simp; omega)).trans c0
      clear c0
      generalize hp : xs.getD k 0 = p at *
      have HP := Lib.hid hp
      clear hp
      have hxl : vs.length = n * 1 := HO.out.1
      have u0 := HO.out.cellAt k (by omega)
      rw [List.getElem?_eq_getElem (by omega)] at u0
      have f0 := HO.out.frozenAt k
      generalize vs[k]'(by omega) = v0 at u0
      have HXL := Lib.hid hxl
      clear hxl
      go_wp2
      all_goals try (go_region; go_wp2)
      go_roundw
      case rel =>
        have hx1 : (vs.set k (.int .i64 p)).take (k + 1) = (xs.take (k + 1)).map (Value.int .i64) := by
          rw [take_set1 _ _ _ (by have := HXL.out; omega), HT.out, show xs.take (k + 1) = xs.take k ++ [p] by rw [← HP.out, List.take_succ_eq_append_getElem (by have := HN.out; omega)]; simp [List.getD, show k < xs.length by have := HN.out; omega]]
          simp
        have ho := (HO.out.stored k (.int .i64 p)).1
        exact ⟨k + 1, _, by omega, by go_num, by first | exact ho | exact ho.alloc _, hx1, by first | exact (hb.setCell (p := ⟨w.heap.size, k, none⟩) (Nat.le_refl _) _).drew | exact hb.setCell (p := ⟨w.heap.size, k, none⟩) (Nat.le_refl _) _⟩
      case measure => simp [intOf]; omega
    · go_wp2
      go_ret
      have hkn : k = n := by omega
      have hx : vs = xs.map (Value.int .i64) := by
        have h1 := HT.out
        have h2 : vs.length = n * 1 := HO.out.1
        rw [hkn, List.take_of_length_le (by omega), List.take_of_length_le (by have := HN.out; omega)] at h1
        exact h1
      exact ⟨by simp, by rw [← hx]; exact HO.out, hb⟩
def allR (l : List Int) (lo hi : Int) : Bool := l.all fun x => rng x lo hi
theorem allR_false (l : List Int) (lo hi : Int) (k : Nat) (h : k < l.length) (hr : rng (l.getD k 0) lo hi = false) : allR l lo hi = false := by
  unfold allR
  rw [List.all_eq_false]
  exact ⟨l.getD k 0, by simp [List.getD, h], by rw [hr]; simp⟩
theorem allR_true (l : List Int) (lo hi : Int) (h : ∀ k, k < l.length → rng (l.getD k 0) lo hi = true) : allR l lo hi = true := by
  unfold allR
  rw [List.all_eq_true]
  intro x hx
  obtain ⟨k, hk, rfl⟩ := List.mem_iff_getElem.1 hx
  have := h k hk
  simpa [List.getD, hk] using this
set_option maxHeartbeats 400000 in
theorem impl_allInRange (A : Option Addr) (n c : Nat) (xs : List Int) (hi : Int) (w : World) (B : Nat) (hB : B ≤ w.heap.size) (hn : n = xs.length) (h : IS w B A xs) (hs : n ≤ 2000000) :
    Calls Try.prog 36 #[.slice A n c, .int .i64 hi] w fun e w' => e = .returned (.bool (decide (xs.length ≤ 10) && allR xs 0 hi)) ∧ w = w' := by
  by_cases h10 : 10 < n
  · have hf : (decide (xs.length ≤ 10) && allR xs 0 hi) = false := by rw [decide_eq_false (by omega)]; rfl
    rw [hf]
    clear hf hn h
    go_enter Try.func36, Try.ntmps36
    go_wp2
    go_ret
    exact ⟨rfl, rfl⟩
  have hf : (decide (xs.length ≤ 10) && allR xs 0 hi) = allR xs 0 hi := by rw [decide_eq_true (by omega)]; rfl
  rw [hf]
  have H := Lib.hid h
  have HN := Lib.hid hn
  clear hn h hf
  go_enter Try.func36, Try.ntmps36
  go_wp2
  go_loop [12] (fun i => ∃ k : Nat, k ≤ n ∧ i = .int .i64 k ∧ Hid (∀ j, j < k → rng (xs.getD j 0) 0 hi = true)) (fun i => n - (intOf i).toNat)
  case atStart => exact ⟨0, Nat.zero_le _, rfl, fun j hj => by omega⟩
  case round =>
    obtain ⟨k, hk, rfl, HA⟩ := hrel
    by_cases hlt : k < n
    · obtain ⟨b, off, rfl, hbB, hc⟩ := H.out (by have := HN.out; omega)
      have c0 := hc k (by have := HN.out; omega)
      clear hc H
      generalize hp : xs.getD k 0 = p at *
      have HP := Lib.hid hp
      clear hp
      cases hr : rng p 0 hi
      · go_wp2_with (go_at_call 45; refine (impl_inRange _ _ _).mono ?_; rintro e w' ⟨rfl, rfl⟩)
        go_ret
        refine ⟨ret_b ?_, rfl⟩
        rw [allR_false xs 0 hi k (by have := HN.out; omega) (by rw [HP.out]; exact hr)]
        try rfl
      · have HR := Lib.hid hr
        go_wp2_with (go_at_call 45; refine (impl_inRange _ _ _).mono ?_; rintro e w' ⟨rfl, rfl⟩)
        go_round
        case rel => exact ⟨k + 1, by omega, by go_num, fun j hj => by
          rcases Nat.lt_or_ge j k with h1 | h1
          · exact HA.out j h1
          · obtain rfl : j = k := by omega
            rw [HP.out]; exact HR.out⟩
        case measure => simp [intOf]; omega
    · go_wp2
      go_ret
      refine ⟨ret_b ?_, rfl⟩
      rw [allR_true xs 0 hi fun j hj => HA.out j (by have := HN.out; omega)]
      try rfl
end Go.Proofs.Ytdiabclcnkbglaa

namespace Go.Proofs.Ytdiabclcnkbglaa
set_option linter.unusedSimpArgs false
set_option linter.unusedVariables false
open Go.RowKit
/-- The formula is valid, as the model reckons it. -/
def validF (ps : List Pt) : Bool :=
  decide (∀ i, i < ps.length → goodPt (ps.getD i default) i = true) && decide (∀ i, i < ps.length - 1 → (ps.flatMap bel).count (i : Int) = 1) && rng ps.length 1 12
theorem good_bel (p : Pt) (i : Int) (h : goodPt p i = true) : ∀ b ∈ bel p, 0 ≤ b ∧ b ≤ i - 1 := by
  intro b hb
  unfold goodPt at h
  unfold bel at hb
  by_cases h0 : ar p.k = 0
  · simp [h0] at hb
  · by_cases h2 : ar p.k = 2
    · simp [h2, rng] at h hb
      omega
    · by_cases h3 : ar p.k = 3
      · simp [h3, rng] at h hb
        omega
      · simp [h0, h2, h3] at h
theorem bel_len (p : Pt) : (bel p).length ≤ 3 := by
  unfold bel
  split
  · simp
  · split <;> simp
theorem take_flat (ps : List Pt) (k : Nat) (h : k < ps.length) : (ps.take (k + 1)).flatMap bel = (ps.take k).flatMap bel ++ bel (ps.getD k default) := by
  rw [show ps.take (k + 1) = ps.take k ++ [ps.getD k default] by rw [List.take_succ_eq_append_getElem h]; simp [List.getD, h]]
  simp
theorem flat_len (ps : List Pt) : (ps.flatMap bel).length ≤ ps.length * 3 := by
  induction ps with
  | nil => simp
  | cons p l ih => have := bel_len p; simp only [List.flatMap_cons, List.length_append, List.length_cons]; omega
theorem validF_bad (ps : List Pt) (k : Nat) (h : k < ps.length) (hg : goodPt (ps.getD k default) k = false) : validF ps = false := by
  unfold validF
  have : decide (∀ i, i < ps.length → goodPt (ps.getD i default) i = true) = false := by
    rw [decide_eq_false_iff_not]; intro H; rw [H k h] at hg; cases hg
  rw [this]; rfl
theorem validF_cnt (ps : List Pt) (k : Nat) (h : k + 1 < ps.length) (hg : (ps.flatMap bel).count (k : Int) ≠ 1) : validF ps = false := by
  unfold validF
  have : decide (∀ i, i < ps.length - 1 → (ps.flatMap bel).count (i : Int) = 1) = false := by
    rw [decide_eq_false_iff_not]; intro H; exact hg (H k (by omega))
  rw [this]; simp
theorem validF_fin (ps : List Pt) (h : ∀ i, i < ps.length → goodPt (ps.getD i default) i = true) (hc : ∀ i, i + 1 < ps.length → (ps.flatMap bel).count (i : Int) = 1) : validF ps = rng ps.length 1 12 := by
  unfold validF
  rw [decide_eq_true h, decide_eq_true fun i hi => hc i (by omega)]; rfl
theorem count_step (L M : List Int) (m t : Nat) (h : m < M.length) (ht : M.getD m 0 = (t : Int)) (j : Nat) : ((L ++ M.take (m + 1)).count (j : Int) : Int) = ((L ++ M.take m).count (j : Int) : Int) + if j = t then 1 else 0 := by
  rw [show M.take (m + 1) = M.take m ++ [M.getD m 0] by rw [List.take_succ_eq_append_getElem h]; simp [List.getD, h]]
  rw [ht, ← List.append_assoc, List.count_append]
  by_cases e : j = t
  · subst e; simp
  · rw [if_neg e, List.count_cons_of_ne (by omega)]; simp
theorem count_le (ps : List Pt) (M : List Int) (m k : Nat) (hk : k ≤ 2000000) (hM : M.length ≤ 3) (x : Int) : ((ps.take k).flatMap bel ++ M.take m).count x ≤ 6000003 := by
  have h1 := List.count_le_length (a := x) (l := (ps.take k).flatMap bel ++ M.take m)
  have h2 := flat_len (ps.take k)
  have h3 : (ps.take k).length ≤ k := List.length_take_le _ _
  have h4 : (M.take m).length ≤ M.length := List.length_take_le' _ _
  rw [List.length_append] at h1
  omega
end Go.Proofs.Ytdiabclcnkbglaa

namespace Go.Proofs.Ytdiabclcnkbglaa
set_option linter.unusedSimpArgs false
set_option linter.unusedVariables false
open Go.RowKit
def pbOk (p : Pt) : Bool :=
  if p.k == 0 then noneB p.a p.b p.c && rng p.n 0 99
  else if p.k == 1 then noneB p.a p.b p.c && rng p.n 0 9
  else if ar p.k == 2 then p.c == -1 && p.n == 0
  else if ar p.k == 3 then p.n == 0
  else false
def pbI (p : Pt) : List Int := if p.k == 8 || ar p.k == 2 then bel p else []
/-- Returns a fresh slice of numbers and a bool. -/
def RetIB (w : World) (xs : List Int) (b : Bool) (e : Ending) (w' : World) : Prop := ∃ v, e = .returned (.tuple #[v, .bool b]) ∧ OwnI w' w.heap.size v xs ∧ Below w.heap.size w w'
theorem retIB_lit {w w1 : World} (hb : Below w.heap.size w w1) (xs : List Int) (cs : Array Value) (n : Nat) (hn : n = xs.length) (hm : n ≤ maxLen) (hc : cs.toList = xs.map (Value.int .i64)) (b : Bool) (e : Ending)
    (he : e = .returned (.tuple #[.slice (some ⟨w1.heap.size, 0, none⟩) n n, .bool b])) : RetIB w xs b e (w1.alloc (.cells cs 3)) := by
  subst hn
  refine ⟨_, he, ?_, hb.alloc hb.size _⟩
  have h := World.ownsRow_lit (e := 3) (size := 1) w1 cs xs.length hb.size hm (by rw [← Array.length_toList, hc]; simp)
  rw [hc] at h
  exact h
theorem RetIB.drew {w w' : World} {xs : List Int} {b : Bool} {e : Ending} (h : RetIB w xs b e w') : RetIB w xs b e w'.drew := by
  obtain ⟨v, he, ho, hb⟩ := h
  exact ⟨v, he, ho, hb.drew⟩
theorem retIB_nil {w w1 : World} (hb : Below w.heap.size w w1) (b c : Bool) (hbc : b = c) : RetIB w [] c (.returned (.tuple #[.slice none 0 0, .bool b])) w1 := by
  subst hbc
  exact ⟨_, rfl, World.ownsRow_nil _ _ _ _, hb⟩
theorem ar_cases (k : Int) : k = 0 ∨ k = 1 ∨ k = 2 ∨ k = 3 ∨ k = 4 ∨ k = 5 ∨ k = 6 ∨ k = 7 ∨ k = 8 ∨ (k < 0 ∨ 8 < k) := by omega
theorem below_box {w w1 : World} {o : Obj} (hb : Below (w.alloc o).heap.size (w.alloc o) w1) : Below w.heap.size w w1 :=
  ((Below.refl _ _).alloc (Nat.le_refl _) o).trans (hb.mono (by simp))
set_option maxHeartbeats 1600000 in
theorem impl_partsBelow (p : Pt) (w : World) :
    Calls Try.prog 55 #[.agg #[.int .i64 p.k, .int .i64 p.a, .int .i64 p.b, .int .i64 p.c, .int .i64 p.n]] w fun e w' => RetIB w (pbI p) (pbOk p) e w' := by
  obtain ⟨k, a, b, c, n⟩ := p
  have hm : 3 ≤ maxLen := by unfold maxLen; omega
  have HM := Lib.hid hm
  clear hm
  rcases ar_cases k with rfl | rfl | rfl | rfl | rfl | rfl | rfl | rfl | rfl | hk
  · go_enter Try.func55, Try.ntmps55
    go_wp2_with (first | (go_at_call 45; refine (impl_inRange _ _ _).mono ?_; rintro e w' ⟨rfl, rfl⟩) | (go_at_call 57; refine (impl_hasNoneBelow _ _ _ _ _ _).mono ?_; rintro e w1 ⟨rfl, hb⟩; obtain ⟨hc, hf⟩ := below_bcell hb))
    all_goals
      go_ret2
      exact retIB_nil (below_box hb) _ _ (by simp [pbOk, *])
  · go_enter Try.func55, Try.ntmps55
    go_wp2_with (first | (go_at_call 45; refine (impl_inRange _ _ _).mono ?_; rintro e w' ⟨rfl, rfl⟩) | (go_at_call 57; refine (impl_hasNoneBelow _ _ _ _ _ _).mono ?_; rintro e w1 ⟨rfl, hb⟩; obtain ⟨hc, hf⟩ := below_bcell hb))
    all_goals
      go_ret2
      exact retIB_nil (below_box hb) _ _ (by simp [pbOk, *])
  · cases hcc : (c == -1)
    all_goals
      go_enter Try.func55, Try.ntmps55
      go_wp2_with (first | (go_at_call 45; refine (impl_inRange _ _ _).mono ?_; rintro e w' ⟨rfl, rfl⟩) | (go_at_call 57; refine (impl_hasNoneBelow _ _ _ _ _ _).mono ?_; rintro e w1 ⟨rfl, hb⟩; obtain ⟨hc, hf⟩ := below_bcell hb))
      go_region
      all_goals
        go_wp2
        go_ret2
        exact (retIB_lit ((Below.refl _ _).alloc (Nat.le_refl _) _) _ _ 2 rfl (by have := HM.out; omega) rfl _ _ (by simp [pbOk, ar, *])).drew
  · cases hcc : (c == -1)
    all_goals
      go_enter Try.func55, Try.ntmps55
      go_wp2_with (first | (go_at_call 45; refine (impl_inRange _ _ _).mono ?_; rintro e w' ⟨rfl, rfl⟩) | (go_at_call 57; refine (impl_hasNoneBelow _ _ _ _ _ _).mono ?_; rintro e w1 ⟨rfl, hb⟩; obtain ⟨hc, hf⟩ := below_bcell hb))
      go_region
      all_goals
        go_wp2
        go_ret2
        exact (retIB_lit ((Below.refl _ _).alloc (Nat.le_refl _) _) _ _ 2 rfl (by have := HM.out; omega) rfl _ _ (by simp [pbOk, ar, *])).drew
  · cases hcc : (c == -1)
    all_goals
      go_enter Try.func55, Try.ntmps55
      go_wp2_with (first | (go_at_call 45; refine (impl_inRange _ _ _).mono ?_; rintro e w' ⟨rfl, rfl⟩) | (go_at_call 57; refine (impl_hasNoneBelow _ _ _ _ _ _).mono ?_; rintro e w1 ⟨rfl, hb⟩; obtain ⟨hc, hf⟩ := below_bcell hb))
      go_region
      all_goals
        go_wp2
        go_ret2
        exact (retIB_lit ((Below.refl _ _).alloc (Nat.le_refl _) _) _ _ 2 rfl (by have := HM.out; omega) rfl _ _ (by simp [pbOk, ar, *])).drew
  · cases hcc : (c == -1)
    all_goals
      go_enter Try.func55, Try.ntmps55
      go_wp2_with (first | (go_at_call 45; refine (impl_inRange _ _ _).mono ?_; rintro e w' ⟨rfl, rfl⟩) | (go_at_call 57; refine (impl_hasNoneBelow _ _ _ _ _ _).mono ?_; rintro e w1 ⟨rfl, hb⟩; obtain ⟨hc, hf⟩ := below_bcell hb))
      go_region
      all_goals
        go_wp2
        go_ret2
        exact (retIB_lit ((Below.refl _ _).alloc (Nat.le_refl _) _) _ _ 2 rfl (by have := HM.out; omega) rfl _ _ (by simp [pbOk, ar, *])).drew
  · cases hcc : (c == -1)
    all_goals
      go_enter Try.func55, Try.ntmps55
      go_wp2_with (first | (go_at_call 45; refine (impl_inRange _ _ _).mono ?_; rintro e w' ⟨rfl, rfl⟩) | (go_at_call 57; refine (impl_hasNoneBelow _ _ _ _ _ _).mono ?_; rintro e w1 ⟨rfl, hb⟩; obtain ⟨hc, hf⟩ := below_bcell hb))
      go_region
      all_goals
        go_wp2
        go_ret2
        exact (retIB_lit ((Below.refl _ _).alloc (Nat.le_refl _) _) _ _ 2 rfl (by have := HM.out; omega) rfl _ _ (by simp [pbOk, ar, *])).drew
  · cases hcc : (c == -1)
    all_goals
      go_enter Try.func55, Try.ntmps55
      go_wp2_with (first | (go_at_call 45; refine (impl_inRange _ _ _).mono ?_; rintro e w' ⟨rfl, rfl⟩) | (go_at_call 57; refine (impl_hasNoneBelow _ _ _ _ _ _).mono ?_; rintro e w1 ⟨rfl, hb⟩; obtain ⟨hc, hf⟩ := below_bcell hb))
      go_region
      all_goals
        go_wp2
        go_ret2
        exact (retIB_lit ((Below.refl _ _).alloc (Nat.le_refl _) _) _ _ 2 rfl (by have := HM.out; omega) rfl _ _ (by simp [pbOk, ar, *])).drew
  · go_enter Try.func55, Try.ntmps55
    go_wp2_with (first | (go_at_call 45; refine (impl_inRange _ _ _).mono ?_; rintro e w' ⟨rfl, rfl⟩) | (go_at_call 57; refine (impl_hasNoneBelow _ _ _ _ _ _).mono ?_; rintro e w1 ⟨rfl, hb⟩; obtain ⟨hc, hf⟩ := below_bcell hb))
    go_region
    all_goals
      go_wp2
      go_ret2
      exact (retIB_lit ((Below.refl _ _).alloc (Nat.le_refl _) _) _ _ 3 rfl (by have := HM.out; omega) rfl _ _ (by simp [pbOk, ar, *])).drew
  · have k0 : (k == 0) = false := by simp; omega
    have k1 : (k == 1) = false := by simp; omega
    have k2 : (k == 2) = false := by simp; omega
    have k3 : (k == 3) = false := by simp; omega
    have k4 : (k == 4) = false := by simp; omega
    have k5 : (k == 5) = false := by simp; omega
    have k6 : (k == 6) = false := by simp; omega
    have k7 : (k == 7) = false := by simp; omega
    have k8 : (k == 8) = false := by simp; omega
    have ha : ar k = -1 := by unfold ar; rw [if_neg (by omega), if_neg (by omega), if_neg (by omega)]
    have H1 : pbI ⟨k, a, b, c, n⟩ = [] := by simp [pbI, k8, ha]
    have H2 : pbOk ⟨k, a, b, c, n⟩ = false := by simp [pbOk, k0, k1, ha]
    rw [H1, H2]
    clear ha H1 H2 hk
    go_enter Try.func55, Try.ntmps55
    go_wp2_with (first | (go_at_call 45; refine (impl_inRange _ _ _).mono ?_; rintro e w' ⟨rfl, rfl⟩) | (go_at_call 57; refine (impl_hasNoneBelow _ _ _ _ _ _).mono ?_; rintro e w1 ⟨rfl, hb⟩; obtain ⟨hc, hf⟩ := below_bcell hb))
    go_ret2
    exact retIB_nil ((Below.refl _ _).alloc (Nat.le_refl _) _) _ _ rfl
end Go.Proofs.Ytdiabclcnkbglaa

namespace Go.Proofs.Ytdiabclcnkbglaa
set_option linter.unusedSimpArgs false
set_option linter.unusedVariables false
open Go.RowKit
theorem pbI_bel (p : Pt) : pbI p = bel p := by
  unfold pbI
  by_cases h8 : p.k = 8
  · simp [h8]
  · by_cases h2 : ar p.k = 2
    · simp [h2]
    · have h3 : ar p.k ≠ 3 := by
        unfold ar at h2 ⊢
        split
        · omega
        · split
          · omega
          · simp
      simp [h8, h2, bel, h3]
theorem good_iff (p : Pt) (i : Int) : goodPt p i = (pbOk p && decide (∀ b ∈ bel p, 0 ≤ b ∧ b ≤ i - 1)) := by
  by_cases h0 : p.k = 0
  · have : ar p.k = 0 := by simp [ar, h0]
    simp [goodPt, pbOk, h0, this, bel, noneB, ar]
  · by_cases h1 : p.k = 1
    · have : ar p.k = 0 := by simp [ar, h1]
      simp [goodPt, pbOk, h1, this, bel, noneB, ar]
    · have hn : ar p.k ≠ 0 := by
        unfold ar
        split
        · omega
        · split
          · omega
          · split <;> omega
      by_cases h2 : ar p.k = 2
      · simp [goodPt, pbOk, h0, h1, h2, bel, rng]
        rw [Bool.eq_iff_iff]
        simp
        constructor
        · rintro ⟨⟨⟨⟨a1, a2⟩, b1, b2⟩, c⟩, d⟩; exact ⟨⟨c, d⟩, ⟨a1, a2⟩, b1, b2⟩
        · rintro ⟨⟨c, d⟩, ⟨a1, a2⟩, b1, b2⟩; exact ⟨⟨⟨⟨a1, a2⟩, b1, b2⟩, c⟩, d⟩
      · by_cases h3 : ar p.k = 3
        · simp [goodPt, pbOk, h0, h1, h3, bel, rng]
          rw [Bool.eq_iff_iff]
          simp
          constructor
          · rintro ⟨⟨⟨⟨a1, a2⟩, b1, b2⟩, c1, c2⟩, d⟩; exact ⟨d, ⟨a1, a2⟩, ⟨b1, b2⟩, c1, c2⟩
          · rintro ⟨d, ⟨a1, a2⟩, ⟨b1, b2⟩, c1, c2⟩; exact ⟨⟨⟨⟨a1, a2⟩, b1, b2⟩, c1, c2⟩, d⟩
        · simp [goodPt, pbOk, h0, h1, h2, h3, hn]
theorem sum_counts_cons (x : Int) (L : List Int) (m : Nat) : ((List.range m).map fun i : Nat => (x :: L).count (i : Int)).sum = ((List.range m).map fun i : Nat => L.count (i : Int)).sum + if 0 ≤ x ∧ x < m then 1 else 0 := by
  induction m with
  | zero =>
    rw [if_neg (by omega)]; rfl
  | succ m ih =>
    rw [List.range_succ, List.map_append, List.sum_append, ih, List.map_append, List.sum_append]
    simp only [List.map_cons, List.map_nil, List.sum_cons, List.sum_nil, List.count_cons]
    by_cases e : x = (m : Int)
    · subst e
      have e1 : ¬ (0 ≤ (m : Int) ∧ (m : Int) < (m : Int)) := by omega
      have e2 : 0 ≤ (m : Int) ∧ (m : Int) < ((m + 1 : Nat) : Int) := by omega
      rw [if_neg e1, if_pos e2]
      simp; omega
    · have : ((x == (m : Int)) = true) = False := by simp [e]
      simp only [this, if_false]
      by_cases h : 0 ≤ x ∧ x < (m : Int)
      · rw [if_pos h, if_pos (by omega)]; omega
      · rw [if_neg h, if_neg (by omega)]; omega
theorem sum_counts (L : List Int) (m : Nat) (h : ∀ x ∈ L, 0 ≤ x ∧ x < (m : Int)) : ((List.range m).map fun i : Nat => L.count (i : Int)).sum = L.length := by
  induction L with
  | nil =>
    clear h
    induction m with
    | zero => rfl
    | succ m ih => rw [List.range_succ, List.map_append, List.sum_append, ih]; simp
  | cons x L ih =>
    rw [sum_counts_cons, ih fun y hy => h y (List.mem_cons_of_mem _ hy), if_pos (h x List.mem_cons_self)]; simp
theorem sum_ones (f : Nat → Nat) (m : Nat) (h : ∀ i, i < m → f i ≤ 1) : ((List.range m).map f).sum ≤ m ∧ (((List.range m).map f).sum = m ↔ ∀ i, i < m → f i = 1) := by
  induction m with
  | zero => simp
  | succ m ih =>
    obtain ⟨h1, h2⟩ := ih fun i hi => h i (by omega)
    have h3 := h m (by omega)
    rw [List.range_succ, List.map_append, List.sum_append]
    simp only [List.map_cons, List.map_nil, List.sum_cons, List.sum_nil]
    refine ⟨by omega, fun e => ?_, fun e => ?_⟩
    · have hm : ((List.range m).map f).sum = m := by omega
      have := h2.1 hm
      intro i hi
      rcases Nat.lt_or_ge i m with hlt | hge
      · exact this i hlt
      · obtain rfl : i = m := by omega
        omega
    · have := h2.2 fun i hi => e i (by omega)
      have := e m (by omega)
      omega
theorem marks_fin (L : List Int) (m : Nat) (hn : L.Nodup) (h : ∀ x ∈ L, 0 ≤ x ∧ x < (m : Int)) : L.length = m ↔ ∀ i, i < m → L.count (i : Int) = 1 := by
  have h1 := sum_ones (fun i : Nat => L.count (i : Int)) m fun i _ => by
    exact List.nodup_iff_count.1 hn _
  rw [← sum_counts L m h]
  exact h1.2
theorem validF_dup (ps : List Pt) (k m : Nat) (h : k < ps.length) (hm : m < (bel (ps.getD k default)).length) (t : Nat) (ht : (bel (ps.getD k default)).getD m 0 = (t : Int)) (htk : t < k)
    (hin : (t : Int) ∈ (ps.take k).flatMap bel ++ (bel (ps.getD k default)).take m) : validF ps = false := by
  refine validF_cnt ps t (by omega) ?_
  have hsplit : ps = ps.take (k + 1) ++ ps.drop (k + 1) := (List.take_append_drop _ _).symm
  have h1 : (ps.flatMap bel).count (t : Int) = ((ps.take (k + 1)).flatMap bel).count (t : Int) + ((ps.drop (k + 1)).flatMap bel).count (t : Int) := by
    conv => lhs; rw [hsplit]
    rw [List.flatMap_append, List.count_append]
  have h2 := take_flat ps k h
  have h3 : bel (ps.getD k default) = (bel (ps.getD k default)).take m ++ (bel (ps.getD k default)).drop m := (List.take_append_drop _ _).symm
  have h4 : (t : Int) ∈ (bel (ps.getD k default)).drop m := by
    rw [List.drop_eq_getElem_cons hm]
    refine List.mem_cons.2 (.inl ?_)
    rw [← ht]
    generalize bel (ps.getD k default) = M at *
    simp [List.getD, hm]
  have h5 : ((ps.take (k + 1)).flatMap bel).count (t : Int) = ((ps.take k).flatMap bel ++ (bel (ps.getD k default)).take m).count (t : Int) + ((bel (ps.getD k default)).drop m).count (t : Int) := by
    rw [h2]
    conv => lhs; rw [h3]
    rw [← List.append_assoc, List.count_append]
  have h6 := List.count_pos_iff.2 hin
  have h7 := List.count_pos_iff.2 h4
  omega
theorem take_succ_int (M : List Int) (m : Nat) (x : Int) (h : m < M.length) (hx : M.getD m 0 = x) : M.take (m + 1) = M.take m ++ [x] := by
  rw [List.take_succ_eq_append_getElem h, ← hx]; simp [List.getD, h]
/-- With good parts and no number twice: valid exactly if there are as many below as there are parts but one. -/
theorem validF_marks (ps : List Pt) (h1 : 1 ≤ ps.length) (h12 : ps.length ≤ 12) (hg : ∀ i, i < ps.length → goodPt (ps.getD i default) i = true) (hd : (ps.flatMap bel).Nodup) :
    validF ps = ((((ps.flatMap bel).length : Nat) : Int) == (ps.length : Int) - 1) := by
  have hr : ∀ x ∈ ps.flatMap bel, 0 ≤ x ∧ x < ((ps.length - 1 : Nat) : Int) := by
    intro x hx
    obtain ⟨p, hp, hxp⟩ := List.mem_flatMap.1 hx
    obtain ⟨i, hi, rfl⟩ := List.mem_iff_getElem.1 hp
    have := hg i hi
    rw [show ps.getD i default = ps[i] by simp [List.getD, hi]] at this
    have := good_bel _ _ this x hxp
    omega
  have hm := marks_fin _ _ hd hr
  have hrng : rng ps.length 1 12 = true := by simp [rng]; omega
  have hgd : decide (∀ i, i < ps.length → goodPt (ps.getD i default) i = true) = true := decide_eq_true hg
  unfold validF
  rw [hgd, hrng, Bool.eq_iff_iff]
  simp only [Bool.true_and, Bool.and_true, decide_eq_true_eq, beq_iff_eq]
  rw [← hm]
  omega
end Go.Proofs.Ytdiabclcnkbglaa

namespace Go.Proofs.Ytdiabclcnkbglaa
set_option linter.unusedSimpArgs false
set_option linter.unusedVariables false
open Go.RowKit
/-- Numbers without those that came before. -/
def firsts (l : List Int) : List Int := l.foldl (fun acc x => if x ∈ acc then acc else acc ++ [x]) []
/-- A slice of the call's own that is not nil. -/
def OwnN (w : World) (base : Nat) (v : Value) (xs : List Int) : Prop := w.ownsRow base 3 1 v xs.length (xs.map (Value.int .i64)) ∧ v ≠ .slice none 0 0
theorem OwnN.form {w : World} {base : Nat} {v : Value} {xs : List Int} (h : OwnN w base v xs) : ∃ g c, v = .slice (some ⟨g, 0, none⟩) xs.length c ∧ base ≤ g ∧ g < w.heap.size := by
  rcases h.1.2 with ⟨hv, _⟩ | ⟨g, cap, cur, hv, hb, hh, _⟩
  · exact absurd hv h.2
  · refine ⟨g, cap, hv, hb, ?_⟩
    rcases Nat.lt_or_ge g w.heap.size with hlt | hge
    · exact hlt
    · rw [Array.getElem?_eq_none hge] at hh; cases hh
/-- Returns a fresh slice of numbers that is not nil. -/
def RetN (w : World) (xs : List Int) (e : Ending) (w' : World) : Prop := ∃ v, e = .returned v ∧ OwnN w' w.heap.size v xs ∧ Below w.heap.size w w'
/-- The nodes that a formula has, ascending. -/
def hasNode (ps : List Pt) (m : Nat) : Bool := ps.any fun p => p.k == 1 && p.n == (m : Int)
def mayR (ps : List Pt) : List Int := ((List.range 10).filter (hasNode ps)).map fun m : Nat => (m : Int)
theorem mayR_step (ps : List Pt) (m : Nat) : (((List.range (m + 1)).filter (hasNode ps)).map fun m : Nat => (m : Int)) = (((List.range m).filter (hasNode ps)).map fun m : Nat => (m : Int)) ++ (if hasNode ps m then [(m : Int)] else []) := by
  rw [List.range_succ, List.filter_append, List.map_append]
  congr 1
  cases h : hasNode ps m <;> simp [h]
theorem mayR_len (ps : List Pt) (m : Nat) : (((List.range m).filter (hasNode ps)).map fun m : Nat => (m : Int)).length ≤ m := by
  rw [List.length_map]
  have := List.length_filter_le (hasNode ps) (List.range m)
  simpa using this
set_option maxRecDepth 100000 in
set_option maxHeartbeats 1600000 in
theorem spec_mayRead (A : Option Addr) (n c : Nat) (ps : List Pt) (w : World) (B : Nat) (hB : B ≤ w.heap.size) (hn : n = ps.length) (h : PS w B A ps) (hs : n ≤ 2000000) :
    Calls Try.prog 42 #[.agg #[.slice A n c]] w fun e w' => RetN w (mayR ps) e w' := by
  obtain ⟨i0, hi, hz0, hz1, hz2⟩ := info_parts info_int
  have H := Lib.hid h
  have HN := Lib.hid hn
  clear hn h
  go_enter Try.func42, Try.ntmps42
  go_wp2
  go_loopw [3, 4] (fun v i wr => ∃ m : Nat, m ≤ 10 ∧ i = .int .i64 m ∧ Hid (OwnN wr (w.heap.size + 1) v (((List.range m).filter (hasNode ps)).map fun m : Nat => (m : Int))) ∧ Below (w.heap.size + 1) (w.alloc (.cells #[.slice A n c] 49)) wr) (fun _ i _ => 10 - (intOf i).toNat)
  case atStart =>
    refine ⟨0, by omega, rfl, ⟨?_, by simp⟩, (Below.refl _ _).alloc (by simp) _⟩
    have := World.ownsRow_lit (e := 3) (size := 1) (base := w.heap.size + 1) (w.alloc (.cells #[.slice A n c] 49)) #[] 0 (by simp) (by unfold maxLen; omega) rfl
    simpa using this
  case round =>
    obtain ⟨m, hm, rfl, HO, hb⟩ := hrel
    have hbox : wr.cell? ⟨w.heap.size, 0, none⟩ = some (.slice A n c) := (hb.cell (p := ⟨w.heap.size, 0, none⟩) (by simp)).trans (by go_simp)
    have hwr : w.heap.size + 1 ≤ wr.heap.size := by have := hb.size; simpa using this
    by_cases hlt : m < 10
    · have HST := Lib.hid (mayR_step ps m)
      have hml := mayR_len ps m
      generalize hF : (((List.range m).filter (hasNode ps)).map fun m : Nat => (m : Int)) = F at *
      clear hF
      go_wp2
      obtain ⟨wo, hwo⟩ : ∃ wo : World, wo = wr := ⟨_, rfl⟩
      go_loopw [3, 5] (fun v j wi => ∃ k : Nat, k ≤ n ∧ j = .int .i64 k ∧ Hid (OwnN wi (w.heap.size + 1) v F) ∧ Hid ((ps.take k).any (fun p => p.k == 1 && p.n == (m : Int)) = false) ∧ Below (w.heap.size + 1) (w.alloc (.cells #[.slice A n c] 49)) wi) (fun _ j _ => n - (intOf j).toNat)
      case atStart => exact ⟨0, Nat.zero_le _, rfl, HO.out, by simp [Hid], hb⟩
      case round =>
        clear hb hbox hwr hwo HO
        obtain ⟨k, hk, rfl, HO, HA, hb⟩ := hrel
        have hbox : wr.cell? ⟨w.heap.size, 0, none⟩ = some (.slice A n c) := (hb.cell (p := ⟨w.heap.size, 0, none⟩) (by simp)).trans (by go_simp)
        have hwr : w.heap.size + 1 ≤ wr.heap.size := by have := hb.size; simpa using this
        by_cases hkn : k < n
        · obtain ⟨b, off, rfl, hbB, hc⟩ := H.out (by have := HN.out; omega)
          obtain ⟨c0, c1, c2, c3, c4⟩ := hc k (by have := HN.out; omega)
          clear hc
          have hbw : b < w.heap.size := by omega
          have b0 := ((hb.cell (p := ⟨b, off + k * 5, none⟩) (by simp; omega)).trans (World.cell?_alloc_lt _ _ _ (by simpa using hbw))).trans c0
          have b4 := ((hb.cell (p := ⟨b, off + k * 5 + 4, none⟩) (by simp; omega)).trans (World.cell?_alloc_lt _ _ _ (by simpa using hbw))).trans c4
          clear c0 c1 c2 c3 c4
          generalize hp : ps.getD k default = p at *
          have HP := Lib.hid hp
          clear hp
          cases h1 : (p.k == 1)
          · have H1 := Lib.hid h1
            go_wp2
            go_roundw
            case rel =>
              refine ⟨k + 1, by omega, by go_num, HO.out, ?_, hb⟩
              rw [take_succ_getD ps k (by have := HN.out; omega), HP.out, List.any_append, HA.out]
              simp [Hid, show p.k ≠ 1 by simpa using H1.out]
            case measure => simp [intOf]; omega
          · cases h2 : (p.n == (m : Int))
            · have H2 := Lib.hid h2
              go_wp2
              go_roundw
              case rel =>
                refine ⟨k + 1, by omega, by go_num, HO.out, ?_, hb⟩
                rw [take_succ_getD ps k (by have := HN.out; omega), HP.out, List.any_append, HA.out]
                simp [Hid, show p.n ≠ (m : Int) by simpa using H2.out]
              case measure => simp [intOf]; omega
            · have H2 := Lib.hid (show p.n = (m : Int) by simpa using h2)
              have H1 := Lib.hid (show p.k = 1 by simpa using h1)
              obtain ⟨g, cc, rfl, hbg, hgs⟩ := HO.out.form
              go_wp2_with (at_builtin; refine wpList_append_own _ rfl _ _ 25 rfl (w.heap.size + 1) 3 i0 (.int .i64 0) 1 8 Try.underlying25 hi hz0 hz1 hz2 rfl (by decide) _ _ _ rfl (HO.out.1.alloc _) ⟨wr.heap.size, 0, none⟩ 1 1 [.int .i64 m] rfl rfl (cell_one_new _ _ _) ?c2 ?c3 ?c4 ?c5 ?_)
              case c2 => intro u hu; simp at hu; subst hu; rfl
              case c3 => unfold maxLen; omega
              case c4 => omega
              case c5 => simp; omega
              intro v' w1 hown' hgrow hnil
              have HO' : Hid (OwnN w1 (w.heap.size + 1) v' (((List.range (m + 1)).filter (hasNode ps)).map fun m : Nat => (m : Int))) := by
                have hh : hasNode ps m = true := by
                  unfold hasNode
                  rw [List.any_eq_true]
                  have hk' : k < ps.length := by have := HN.out; omega
                  refine ⟨ps.getD k default, by simp [List.getD, hk'], ?_⟩
                  rw [HP.out, H2.out, H1.out]
                  simp
                rw [HST.out, hh]
                refine ⟨?_, by first | exact hnil | (intro e; simp [e] at hnil)⟩
                simpa using hown'
              have hb' := (hb.alloc (by omega) (.cells #[.int .i64 m] 3)).grown hgrow (by simp; omega) (by intro q hq; simp [Value.ownBlock] at hq; omega)
              clear hown' hgrow hnil
              go_wp2
              go_roundw
              case rel => exact ⟨m + 1, by omega, by go_num, HO'.out, hb'⟩
              case measure => simp [intOf]; omega
        · go_wp2
          go_roundw
          case rel =>
            have hh : hasNode ps m = false := by
              have := HA.out
              rwa [List.take_of_length_le (by have := HN.out; omega)] at this
            exact ⟨m + 1, by omega, by go_num, by rw [HST.out, hh]; simpa [Hid] using HO.out, hb⟩
          case measure => simp [intOf]; omega
    · go_wp2
      go_ret
      obtain rfl : m = 10 := by omega
      refine ⟨_, rfl, ?_, ((Below.refl _ _).alloc (Nat.le_refl _) _).trans (hb.mono (by omega))⟩
      exact ⟨own_mono HO.out.1 (by omega), HO.out.2⟩
end Go.Proofs.Ytdiabclcnkbglaa

namespace Go.Proofs.Ytdiabclcnkbglaa
set_option linter.unusedSimpArgs false
set_option linter.unusedVariables false
open Go.RowKit
theorem below_of_drew {C : Nat} {w w' : World} (h : Below C w.drew w') : Below C w w' := ⟨h.os, h.tape, h.output, h.size, h.block⟩
inductive Tm where
  | num (v : Int)
  | rd (v : Int)
  | pr (k : Int) (l r : Tm)
  | ch (t a b : Tm)
/-- The term of the part at an index; the number bounds how deep one goes. -/
def tmAt (ps : List Pt) : Nat → Nat → Tm
  | 0, _ => .num 0
  | f + 1, i =>
    let p := ps.getD i default
    if p.k == 0 then .num p.n
    else if p.k == 1 then .rd p.n
    else if p.k == 8 then .ch (tmAt ps f p.a.toNat) (tmAt ps f p.b.toNat) (tmAt ps f p.c.toNat)
    else .pr p.k (tmAt ps f p.a.toNat) (tmAt ps f p.b.toNat)
/-- All parts are good. -/
def AllGood (ps : List Pt) : Prop := ∀ i, i < ps.length → goodPt (ps.getD i default) i = true
end Go.Proofs.Ytdiabclcnkbglaa

namespace Go.Proofs.Ytdiabclcnkbglaa
set_option linter.unusedSimpArgs false
set_option linter.unusedVariables false
open Go.RowKit
/-- Twelve marks: which numbers stand in the list. -/
def Mrk (w : World) (g : Nat) (L : List Int) : Prop :=
  g < w.heap.size ∧ ∀ t : Nat, t < 12 → w.cell? ⟨g, t, none⟩ = some (.bool (decide ((t : Int) ∈ L))) ∧ w.frozen? ⟨g, t, none⟩ = false
theorem Mrk.below {w w' : World} {g : Nat} {L : List Int} (h : Mrk w g L) (hb : Below w.heap.size w w') : Mrk w' g L :=
  ⟨Nat.lt_of_lt_of_le h.1 hb.size, fun t ht => ⟨(hb.cell (p := ⟨g, t, none⟩) h.1).trans (h.2 t ht).1, (hb.frozen (p := ⟨g, t, none⟩) h.1).trans (h.2 t ht).2⟩⟩
theorem Mrk.set {w : World} {g : Nat} {L : List Int} (h : Mrk w g L) (t : Nat) (ht : t < 12) : Mrk (w.setCell ⟨g, t, none⟩ (.bool true)) g (L ++ [(t : Int)]) := by
  refine ⟨by simpa [World.setCell] using h.1, fun j hj => ?_⟩
  obtain ⟨h1, h2⟩ := h.2 j hj
  by_cases e : j = t
  · subst e
    refine ⟨?_, by simpa using h2⟩
    rw [World.cell?_setCell_same _ _ _ h1]; try simp
  · refine ⟨?_, by simpa using h2⟩
    rw [World.cell?_setCell_other _ _ _ _ (by intro e'; simp at e'; try omega), h1]
    have : ((j : Int) = (t : Int)) = False := by simp; omega
    simp [this]
set_option maxRecDepth 100000 in
set_option maxHeartbeats 1600000 in
theorem impl_ValidFormula (A : Option Addr) (n c : Nat) (ps : List Pt) (w : World) (B : Nat) (hB : B ≤ w.heap.size) (hn : n = ps.length) (h : PS w B A ps) (hs : n ≤ 2000000) :
    Calls Try.prog 50 #[.agg #[.slice A n c]] w fun e w' => e = .returned (.bool (validF ps)) ∧ Below w.heap.size w w' := by
  by_cases h1 : n < 1
  · have hf : validF ps = false := by
      unfold validF rng
      have : ¬ (1 ≤ (ps.length : Int) ∧ (ps.length : Int) ≤ 12) := by omega
      simp [this]
    rw [hf]
    clear hn h hf
    go_enter Try.func50, Try.ntmps50
    go_wp2
    go_ret
    exact ⟨rfl, (Below.refl _ _).alloc (Nat.le_refl _) _⟩
  by_cases h12 : 12 < n
  · have hf : validF ps = false := by
      unfold validF rng
      have : ¬ (1 ≤ (ps.length : Int) ∧ (ps.length : Int) ≤ 12) := by omega
      simp [this]
    rw [hf]
    clear hn h hf
    go_enter Try.func50, Try.ntmps50
    go_wp2
    go_ret
    exact ⟨rfl, (Below.refl _ _).alloc (Nat.le_refl _) _⟩
  have H := Lib.hid h
  have HN := Lib.hid hn
  clear hn h
  go_enter Try.func50, Try.ntmps50
  go_wp2
  go_loopw [24, 4] (fun i u wr => ∃ k : Nat, k ≤ n ∧ i = .int .i64 k ∧ u = .int .i64 (((ps.take k).flatMap bel).length : Nat) ∧ Hid (Mrk wr (w.heap.size + 1) ((ps.take k).flatMap bel)) ∧ Hid (((ps.take k).flatMap bel).Nodup) ∧ Hid (∀ j, j < k → goodPt (ps.getD j default) j = true) ∧ Below (w.heap.size + 1) (w.alloc (.cells #[.slice A n c] 49)) wr) (fun i _ _ => n - (intOf i).toNat)
  case atStart =>
    refine ⟨0, Nat.zero_le _, rfl, rfl, ⟨by simp, fun t ht => ?_⟩, List.nodup_nil, by intro j hj; omega, (Below.refl _ _).alloc (by simp) _⟩
    have ht' : t = 0 ∨ t = 1 ∨ t = 2 ∨ t = 3 ∨ t = 4 ∨ t = 5 ∨ t = 6 ∨ t = 7 ∨ t = 8 ∨ t = 9 ∨ t = 10 ∨ t = 11 := by omega
    rcases ht' with rfl | rfl | rfl | rfl | rfl | rfl | rfl | rfl | rfl | rfl | rfl | rfl <;> exact ⟨by go_simp, by go_simp⟩
  case round =>
    obtain ⟨k, hk, rfl, rfl, HM, HD, HG, hb⟩ := hrel
    have hbox : wr.cell? ⟨w.heap.size, 0, none⟩ = some (.slice A n c) := (hb.cell (p := ⟨w.heap.size, 0, none⟩) (by simp)).trans (by go_simp)
    have hgs : w.heap.size + 1 < wr.heap.size := HM.out.1
    have hfl : ((ps.take k).flatMap bel).length ≤ 36 := by
      have h2 := flat_len (ps.take k)
      have h3 : (ps.take k).length ≤ k := List.length_take_le _ _
      omega
    by_cases hlt : k < n
    · obtain ⟨b, off, rfl, hbB, hc⟩ := H.out (by have := HN.out; omega)
      obtain ⟨c0, c1, c2, c3, c4⟩ := hc k (by have := HN.out; omega)
      clear hc
      have hbw : b < w.heap.size := by omega
      have hbr : b < wr.heap.size := by omega
      have b0 := ((hb.cell (p := ⟨b, off + k * 5, none⟩) (by simp; omega)).trans (World.cell?_alloc_lt _ _ _ (by simpa using hbw))).trans c0
      have b1 := ((hb.cell (p := ⟨b, off + k * 5 + 1, none⟩) (by simp; omega)).trans (World.cell?_alloc_lt _ _ _ (by simpa using hbw))).trans c1
      have b2 := ((hb.cell (p := ⟨b, off + k * 5 + 2, none⟩) (by simp; omega)).trans (World.cell?_alloc_lt _ _ _ (by simpa using hbw))).trans c2
      have b3 := ((hb.cell (p := ⟨b, off + k * 5 + 3, none⟩) (by simp; omega)).trans (World.cell?_alloc_lt _ _ _ (by simpa using hbw))).trans c3
      have b4 := ((hb.cell (p := ⟨b, off + k * 5 + 4, none⟩) (by simp; omega)).trans (World.cell?_alloc_lt _ _ _ (by simpa using hbw))).trans c4
      clear c0 c1 c2 c3 c4 H
      generalize hp : ps.getD k default = p at *
      have HP := Lib.hid hp
      clear hp
      generalize hF : (ps.take k).flatMap bel = Fk at *
      have HF := Lib.hid hF
      clear hF
      go_wp2_with fail
      refine (impl_partsBelow p _).mono ?_
      rintro e w2 ⟨v, rfl, hown, hb2⟩
      obtain ⟨A2, c2, rfl, hI⟩ := hown.form
      clear hI
      rw [pbI_bel] at hown ⊢
      have HO := Lib.hid hown
      have HM2 : Hid (Mrk w2 (w.heap.size + 1) (Fk ++ (bel p).take 0)) := by
        have := (HM.out.below ((Below.refl _ _).alloc (Nat.le_refl _) _)).below hb2
        simpa [Hid] using this
      have hbw2 := (hb.alloc (by omega) _).trans (hb2.mono (by simp; omega))
      clear hown HM hb b0 b1 b2 b3 b4
      cases hok : pbOk p
      · go_wp2
        go_ret
        refine ⟨ret_b ?_, ((Below.refl _ _).alloc (Nat.le_refl _) _).trans (hbw2.mono (by omega))⟩
        have hgf : goodPt p k = false := by rw [good_iff, hok]; rfl
        simp [validF_bad ps k (by have := HN.out; omega) (by rw [HP.out]; exact hgf)]
      · have HOK := Lib.hid hok
        clear hok
        generalize hL : (bel p).length = L at *
        have HL := Lib.hid hL
        have hL3 : L ≤ 3 := by rw [← hL]; exact bel_len p
        clear hL hbox
        go_wp2
        go_loopw [38, 4] (fun i u wi => ∃ m : Nat, m ≤ L ∧ i = .int .i64 m ∧ u = .int .i64 ((Fk.length + m : Nat)) ∧ Hid (Mrk wi (w.heap.size + 1) (Fk ++ (bel p).take m)) ∧ Hid ((Fk ++ (bel p).take m).Nodup) ∧ Hid (∀ x ∈ (bel p).take m, 0 ≤ x ∧ x ≤ (k : Int) - 1) ∧ Hid (wi.ownsRow (wr.heap.size + 1) 3 1 (.slice A2 L c2) L ((bel p).map (Value.int .i64))) ∧ Hid (Below (w.heap.size + 1) w2 wi)) (fun i _ _ => L - (intOf i).toNat)
        case atStart => exact ⟨0, Nat.zero_le _, rfl, rfl, HM2.out, by simpa [Hid] using HD.out, by simp [Hid], by have := HO.out; simp only [OwnI, World.size_alloc] at this; rw [HL.out] at this; exact this, Below.refl _ _⟩
        case round =>
          clear HM2 HO
          obtain ⟨m, hm, rfl, rfl, HM, HD2, HR, HO, HB⟩ := hrel
          by_cases hml : m < L
          · obtain ⟨b2, off2, rfl, hb2', hc2⟩ := (IS.of_own HO.out) (by have := HL.out; omega)
            have hx := hc2 m (by have := HL.out; omega)
            clear hc2
            generalize hxx : (bel p).getD m 0 = x at *
            have HX := Lib.hid hxx
            clear hxx
            cases hr : rng x 0 ((k : Int) - 1)
            · go_wp2_with (go_at_call 45; refine (impl_inRange _ _ _).mono ?_; rintro e w' ⟨rfl, rfl⟩)
              go_ret
              refine ⟨ret_b ?_, ((Below.refl _ _).alloc (Nat.le_refl _) _).trans ((hbw2.trans HB.out).mono (by omega))⟩
              have hgf : goodPt p k = false := by
                cases hgg : goodPt p k
                · rfl
                · have := good_bel p k hgg x (by rw [← HX.out]; simp [List.getD, show m < (bel p).length by have := HL.out; omega])
                  simp [rng] at hr
                  omega
              simp [validF_bad ps k (by have := HN.out; omega) (by rw [HP.out]; exact hgf)]
            · obtain ⟨t, rfl⟩ : ∃ t : Nat, x = (t : Int) := ⟨x.toNat, by simp [rng] at hr; omega⟩
              have htk : t < k := by simp [rng] at hr; omega
              obtain ⟨hu1, hu2⟩ := HM.out.2 t (by omega)
              cases hin : decide ((t : Int) ∈ Fk ++ (bel p).take m)
              · have HIN := Lib.hid hin
                rw [hin] at hu1
                clear hin
                go_wp2_with (go_at_call 45; refine (impl_inRange _ _ _).mono ?_; rintro e w' ⟨rfl, rfl⟩)
                go_roundw
                case rel =>
                  have hts := take_succ_int (bel p) m _ (by have := HL.out; omega) HX.out
                  have hn0 := HM.out.set t (by omega)
                  have hnm : ¬ (t : Int) ∈ Fk ++ (bel p).take m := of_decide_eq_false HIN.out
                  have hown := ownsRow_setCell_below HO.out (a := ⟨w.heap.size + 1, t, none⟩) (by simp; try omega) (.bool true)
                  refine ⟨m + 1, by omega, by go_num, by go_num, ?_, ?_, ?_, hown, HB.out.setCell (p := ⟨w.heap.size + 1, t, none⟩) (by simp) _⟩
                  · rw [hts, ← List.append_assoc]; exact hn0
                  · rw [hts, ← List.append_assoc]
                    refine List.nodup_append.2 ⟨HD2.out, by simp, ?_⟩
                    intro a ha b hb e
                    simp at hb
                    subst hb
                    subst e
                    exact hnm ha
                  · rw [hts]
                    intro y hy
                    rcases List.mem_append.1 hy with hy | hy
                    · exact HR.out y hy
                    · simp at hy; omega
                case measure => simp [intOf]; omega
              · have HIN := Lib.hid hin
                rw [hin] at hu1
                clear hin
                go_wp2_with (go_at_call 45; refine (impl_inRange _ _ _).mono ?_; rintro e w' ⟨rfl, rfl⟩)
                go_ret
                refine ⟨ret_b ?_, ((Below.refl _ _).alloc (Nat.le_refl _) _).trans ((hbw2.trans HB.out).mono (by omega))⟩
                have hfd : validF ps = false := by
                  refine validF_dup ps k m (by have := HN.out; omega) (by rw [HP.out]; have := HL.out; omega) t (by rw [HP.out]; exact HX.out) htk ?_
                  rw [HF.out, HP.out]
                  exact of_decide_eq_true HIN.out
                simp [hfd]
          · go_wp2
            go_roundw
            case rel =>
              have hf := take_flat ps k (by have := HN.out; omega)
              rw [HP.out, HF.out] at hf
              have hmL : m = L := by omega
              have htm : (bel p).take m = bel p := List.take_of_length_le (by have := HL.out; omega)
              have hlen : ((Fk.length + m : Nat)) = ((ps.take (k + 1)).flatMap bel).length := by rw [hf, List.length_append, HL.out, hmL]
              refine ⟨k + 1, by omega, by go_num, by rw [← hlen]; try go_num, ?_, ?_, ?_, hbw2.trans HB.out⟩
              · rw [hf]; have := HM.out; rwa [htm] at this
              · rw [hf]; have := HD2.out; rwa [htm] at this
              · intro j hj
                rcases Nat.lt_or_ge j k with h1 | h1
                · exact HG.out j h1
                · obtain rfl : j = k := by omega
                  rw [HP.out, good_iff, HOK.out, Bool.true_and]
                  have := HR.out
                  rw [htm] at this
                  exact decide_eq_true this
            case measure => simp [intOf]; omega
    · obtain rfl : k = n := by omega
      rw [List.take_of_length_le (by have := HN.out; omega)] at HM HD hfl ⊢
      go_wp2
      go_ret
      refine ⟨ret_b ?_, ((Below.refl _ _).alloc (Nat.le_refl _) _).trans (hb.mono (by omega))⟩
      have hkn := HN.out
      rw [validF_marks ps (by omega) (by omega) (fun i hi => HG.out i (by omega)) HD.out, ← hkn]
      try simp
end Go.Proofs.Ytdiabclcnkbglaa

namespace Go.Proofs.Ytdiabclcnkbglaa
set_option linter.unusedSimpArgs false
set_option linter.unusedVariables false
open Go.RowKit
/-- What a part of two makes of two values. -/
def jn (k x y : Int) : Int :=
  if k == 2 then (x + y) % 1000
  else if k == 3 then (x - y + 1000) % 1000
  else if k == 4 then x * y % 1000
  else if k == 5 then min x y
  else if k == 6 then max x y
  else if x < y then 1 else 0
end Go.Proofs.Ytdiabclcnkbglaa

namespace Go.Proofs.Ytdiabclcnkbglaa
set_option linter.unusedSimpArgs false
set_option linter.unusedVariables false
open Go.RowKit
def Tm.ev (vs : List Int) : Tm → Int
  | .num v => v
  | .rd v => vs.getD v.toNat 0
  | .pr k l r => jn k (l.ev vs) (r.ev vs)
  | .ch t a b => if t.ev vs == 0 then b.ev vs else a.ev vs
def Tm.rds (vs : List Int) : Tm → List Int
  | .num _ => []
  | .rd v => [v]
  | .pr _ l r => l.rds vs ++ r.rds vs
  | .ch t a b => t.rds vs ++ (if t.ev vs == 0 then b.rds vs else a.rds vs)
def Tm.ok (m : Nat) : Tm → Prop
  | .num v => 0 ≤ v ∧ v ≤ 99
  | .rd v => 0 ≤ v ∧ v < (m : Int)
  | .pr _ l r => l.ok m ∧ r.ok m
  | .ch t a b => t.ok m ∧ a.ok m ∧ b.ok m
/-- All values are in range. -/
def VOK (vs : List Int) : Prop := ∀ j, j < vs.length → 0 ≤ vs.getD j 0 ∧ vs.getD j 0 ≤ 999
theorem good_num (p : Pt) (i : Int) (h : goodPt p i = true) : (p.k = 0 → 0 ≤ p.n ∧ p.n ≤ 99) ∧ (p.k = 1 → 0 ≤ p.n ∧ p.n ≤ 9) := by
  constructor
  · intro hk
    have e : ar p.k = 0 := by simp [ar, hk]
    unfold goodPt at h
    rw [e, hk] at h
    simp [rng] at h
    omega
  · intro hk
    have e : ar p.k = 0 := by simp [ar, hk]
    unfold goodPt at h
    rw [e, hk] at h
    simp [rng] at h
    omega
end Go.Proofs.Ytdiabclcnkbglaa
