/- Words and contracts for memory that the texts behind use. -/
import Derived.Test.YtjlfabfejnpaaaaS0
import Derived.Test.YtjlfabfejnpaaaaS1
import Derived.Test.YtjlfabfejnpaaaaS2
import Derived.Test.YtjlfabfejnpaaaaS3
import Derived.Test.YtjlfabfejnpaaaaS4
import Derived.Test.YtjlfabfejnpaaaaS5
import Derived.Test.YtjlfabfejnpaaaaS6
import Derived.Test.YtjlfabfejnpaaaaS7
import Derived.Test.YtjlfabfejnpaaaaS8
import Derived.Test.YtjlfabfejnpaaaaS9
import Derived.Test.YtjlfabfejnpaaaaS10
import Derived.Test.YtjlfabfejnpaaaaS11
import Derived.Test.YtjlfabfejnpaaaaS12
import Derived.Test.YtjlfabfejnpaaaaS13
import Derived.Test.YtjlfabfejnpaaaaS14
import Derived.Test.YtjlfabfejnpaaaaS15
import Derived.WalkKit
import Derived.Laws.OwnMore
import Derived.Deep.Draws
import Derived.Test.YtjlfabfejnpaaaaProg
import Derived.WalkSpells
import Derived.WalkLawsBesides
import Derived.Outline
import Derived.Lib.Hide
import Derived.BigQuiet
import Derived.Deep.QuietTactic
import Derived.StillTailTactics
import Derived.Deep.LoopGhost
import Derived.Laws.MakeOwn
import Derived.WalkSmall
import Derived.RegionTactic
import Derived.BigRegion
import Derived.Deep.RegionWith
import Derived.Deep.RegionHeld3

namespace Go.Proofs.Ytjlfabfejnpaaaa
set_option linter.unusedSimpArgs false
set_option linter.unusedVariables false
open Go.RowKit
/-- What is left of a size. -/
def leftOf (l : Int) (s : Nat) : Int := if (s : Int) ≤ l then l - s else -1
end Go.Proofs.Ytjlfabfejnpaaaa

namespace Go.Proofs.Ytjlfabfejnpaaaa
set_option linter.unusedSimpArgs false
set_option linter.unusedVariables false
open Go.RowKit
/-- An act of a session. -/
structure Ac where
  k : Int
  a : Int
  b : Int
deriving DecidableEq, Inhabited
def Ac.cells (p : Ac) : List Value := [.int .i64 p.k, .int .i64 p.a, .int .i64 p.b]
/-- The slice at A reads as the acts ps; it lies below block B. -/
def CS (w : World) (B : Nat) (A : Option Addr) (ps : List Ac) : Prop :=
  0 < ps.length → ∃ b off, A = some ⟨b, off, none⟩ ∧ b < B ∧ ∀ j, j < ps.length →
    w.cell? ⟨b, off + j * 3, none⟩ = some (.int .i64 (ps.getD j default).k) ∧ w.cell? ⟨b, off + j * 3 + 1, none⟩ = some (.int .i64 (ps.getD j default).a) ∧
    w.cell? ⟨b, off + j * 3 + 2, none⟩ = some (.int .i64 (ps.getD j default).b)
theorem CS.keep {w w' : World} {B : Nat} {A : Option Addr} {ps : List Ac} (h : CS w B A ps) (hk : ∀ p : Addr, p.block < B → w'.cell? p = w.cell? p) : CS w' B A ps := by
  intro hn
  obtain ⟨b, off, e, hb, hc⟩ := h hn
  refine ⟨b, off, e, hb, fun j hj => ?_⟩
  obtain ⟨h0, h1, h2⟩ := hc j hj
  exact ⟨(hk _ hb).trans h0, (hk _ hb).trans h1, (hk _ hb).trans h2⟩
theorem CS.more {w : World} {B B' : Nat} {A : Option Addr} {ps : List Ac} (h : CS w B A ps) (hB : B ≤ B') : CS w B' A ps := by
  intro hn
  obtain ⟨b, off, e, hb, hc⟩ := h hn
  exact ⟨b, off, e, by omega, hc⟩
theorem CS.below {w w' : World} {B C : Nat} {A : Option Addr} {ps : List Ac} (h : CS w B A ps) (hb : Below C w w') (hC : B ≤ C) : CS w' B A ps :=
  h.keep fun _ hp => hb.cell (Nat.lt_of_lt_of_le hp hC)
theorem CS.alloc {w : World} {B : Nat} {A : Option Addr} {ps : List Ac} (h : CS w B A ps) (hB : B ≤ w.heap.size) (o : Obj) : CS (w.alloc o) B A ps :=
  h.keep fun p hp => World.cell?_alloc_lt w o p (by omega)
theorem CS.nil (w : World) (B : Nat) (A : Option Addr) : CS w B A [] := fun h => absurd h (by simp)
theorem CS.step {A : Option Addr} {ps : List Ac} {wk wl : World} (h : CS wk wk.heap.size A ps) (hb : Below wk.heap.size wk wl) : CS wl wl.heap.size A ps := (h.below hb (Nat.le_refl _)).more hb.size
theorem CS.loc (B : Nat) (A : Option Addr) (ps : List Ac) : Loc 0 B fun w => CS w B A ps :=
  fun w w' h hk => h.keep fun p hp => World.cell?_of_block (hk p.block (Nat.zero_le _) hp)
/-- Three cells written one after the other. -/
def set3 (xs : List Value) (j : Nat) (p : Ac) : List Value :=
  ((xs.set j (.int .i64 p.k)).set (j + 1) (.int .i64 p.a)).set (j + 2) (.int .i64 p.b)
theorem take_set3 (xs : List Value) (j : Nat) (p : Ac) (h : j + 3 ≤ xs.length) : (set3 xs j p).take (j + 3) = xs.take j ++ p.cells := by
  apply List.ext_getElem?
  intro i
  have hl : (xs.take j).length = j := by simp; omega
  rcases Nat.lt_or_ge i j with h1 | h1
  · rw [List.getElem?_append_left (by omega)]
    simp [set3, show i < j + 3 by omega, h1, show ¬ j = i by omega, show ¬ j + 1 = i by omega, show ¬ j + 2 = i by omega]
  · rw [List.getElem?_append_right (by omega), hl]
    obtain ⟨d, rfl⟩ : ∃ d, i = j + d := ⟨i - j, by omega⟩
    rw [Nat.add_sub_cancel_left]
    match d with
    | 0 => simp [set3, Ac.cells, List.getElem?_set]; omega
    | 1 => simp [set3, Ac.cells, List.getElem?_set]; omega
    | 2 => simp [set3, Ac.cells, List.getElem?_set]; omega
    | d + 3 => simp [Ac.cells]; omega
theorem own_set3 {w : World} {base e n cap g : Nat} {xs : List Value} (h : w.ownsRow base e 3 (.slice (some ⟨g, 0, none⟩) n cap) n xs) (j : Nat) (p : Ac) :
    (((w.setCell ⟨g, j, none⟩ (.int .i64 p.k)).setCell ⟨g, j + 1, none⟩ (.int .i64 p.a)).setCell ⟨g, j + 2, none⟩ (.int .i64 p.b)).ownsRow base e 3 (.slice (some ⟨g, 0, none⟩) n cap) n (set3 xs j p) :=
  (((h.stored j (.int .i64 p.k)).1.stored (j + 1) (.int .i64 p.a)).1.stored (j + 2) (.int .i64 p.b)).1
theorem below_set3 {B : Nat} {a w : World} (h : Below B a w) {g : Nat} (hg : B ≤ g) (j : Nat) (p : Ac) :
    Below B a (((w.setCell ⟨g, j, none⟩ (.int .i64 p.k)).setCell ⟨g, j + 1, none⟩ (.int .i64 p.a)).setCell ⟨g, j + 2, none⟩ (.int .i64 p.b)) :=
  ((h.setCell (p := ⟨g, j, none⟩) hg _).setCell (p := ⟨g, j + 1, none⟩) hg _).setCell (p := ⟨g, j + 2, none⟩) hg _
theorem length_acells (ps : List Ac) : (ps.flatMap Ac.cells).length = ps.length * 3 := by
  induction ps with
  | nil => rfl
  | cons p l ih => simp [List.flatMap_cons, ih, Ac.cells]; omega
theorem acells_get (ps : List Ac) (j : Nat) (h : j < ps.length) : (ps.flatMap Ac.cells)[j * 3]? = some (.int .i64 (ps.getD j default).k) ∧ (ps.flatMap Ac.cells)[j * 3 + 1]? = some (.int .i64 (ps.getD j default).a) ∧
    (ps.flatMap Ac.cells)[j * 3 + 2]? = some (.int .i64 (ps.getD j default).b) := by
  induction ps generalizing j with
  | nil => simp at h
  | cons p l ih =>
    have e : (p :: l).flatMap Ac.cells = p.cells ++ l.flatMap Ac.cells := by simp [List.flatMap_cons]
    rw [e]
    match j with
    | 0 => simp [Ac.cells]
    | j + 1 =>
      have hj : j < l.length := by simpa using h
      have hc : p.cells.length = 3 := rfl
      obtain ⟨a0, a1, a2⟩ := ih j hj
      have s (d : Nat) : (p.cells ++ l.flatMap Ac.cells)[(j + 1) * 3 + d]? = (l.flatMap Ac.cells)[j * 3 + d]? := by
        rw [List.getElem?_append_right (by omega), hc]; congr 1; omega
      have s0 := s 0
      simp only [Nat.add_zero] at s0
      rw [s0, s 1, s 2]
      simpa using ⟨a0, a1, a2⟩
theorem CS.of_own {w : World} {base e n c : Nat} {A : Option Addr} {ps : List Ac} (h : w.ownsRow base e 3 (.slice A n c) n (ps.flatMap Ac.cells)) : CS w w.heap.size A ps := by
  intro hn
  have hl : ps.length = n := by have := h.1; rw [length_acells] at this; omega
  rcases h.2 with ⟨_, h0⟩ | ⟨g, cap, cur, hv, _, hh, _⟩
  · omega
  · simp only [Value.slice.injEq] at hv
    obtain ⟨rfl, _, rfl⟩ := hv
    have hg : g < w.heap.size := by
      rcases Nat.lt_or_ge g w.heap.size with hlt | hge
      · exact hlt
      · rw [Array.getElem?_eq_none hge] at hh; cases hh
    refine ⟨g, 0, rfl, hg, fun j hj => ?_⟩
    obtain ⟨a0, a1, a2⟩ := acells_get ps j hj
    simp only [Nat.zero_add]
    rw [h.cellAt _ (by omega), h.cellAt _ (by omega), h.cellAt _ (by omega)]
    exact ⟨a0, a1, a2⟩
def eqAc (p q : Ac) : Bool := p.k == q.k && p.a == q.a && p.b == q.b
theorem eqAc_iff (p q : Ac) : eqAc p q = true ↔ p = q := by
  obtain ⟨a, b, c⟩ := p
  obtain ⟨a', b', c'⟩ := q
  simp [eqAc, and_assoc]
theorem mks_three (k k3 : Int) (m : Nat) (h : k3 = k + m) : mks k (m + 3) = mks k m ++ (⟨k3, k3 + 1, k3 + 1 + 1⟩ : Ac).cells := by
  have e : (⟨k3, k3 + 1, k3 + 1 + 1⟩ : Ac) = ⟨k + m, k + m + 1, k + m + 2⟩ := by subst h; congr 1; omega
  rw [e, mks_succ k (m + 2), mks_succ k (m + 1), mks_succ k m]
  simp [Ac.cells]
  omega
end Go.Proofs.Ytjlfabfejnpaaaa
