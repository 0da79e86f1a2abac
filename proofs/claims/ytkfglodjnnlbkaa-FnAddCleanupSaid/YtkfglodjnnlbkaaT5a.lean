/- Words and contracts for memory that the texts behind use. -/
import Derived.Test.YtkfglodjnnlbkaaT0a
import Derived.Test.YtkfglodjnnlbkaaT1a
import Derived.Test.YtkfglodjnnlbkaaT2b
import Derived.Test.YtkfglodjnnlbkaaT3a
import Derived.Test.YtkfglodjnnlbkaaT4a
import Derived.WalkKit
import Derived.Laws.OwnMore
import Derived.Deep.Draws
import Derived.Test.YtkfglodjnnlbkaaProg
import Derived.WalkSpells
import Derived.WalkLawsBesides
import Derived.Outline
import Derived.Lib.Hide
import Derived.BigQuiet
import Derived.Deep.QuietTactic
import Derived.StillTailTactics
import Derived.Deep.LoopGhost
import Derived.Laws.MakeOwn
import Derived.WalkSmall
import Derived.RegionTactic
import Derived.BigRegion
import Derived.Deep.RegionWith
import Derived.Deep.RegionHeld3
import Derived.Maps.Own
import Derived.Maps.Views
import Derived.Maps.AppendAt
import Derived.Laws.CopyOwn
import Derived.Deep.Cut
import Derived.Laws.Entries
import Derived.Laws.Bits64
import Derived.IntWalk
import Derived.Deep.RegionLaw
import Derived.Deep.AppendLies
import Derived.Deep.DeepCutAuto
import Derived.ArgAppend

namespace Go.Proofs.Ytkfglodjnnlbkaa
set_option linter.unusedSimpArgs false
set_option linter.unusedVariables false
open Go.RowKit
/-- The slice at A reads as the numbers xs; it lies below block B. -/
def IS (w : World) (B : Nat) (A : Option Addr) (xs : List Int) : Prop :=
  0 < xs.length → ∃ b off, A = some ⟨b, off, none⟩ ∧ b < B ∧ ∀ j, j < xs.length → w.cell? ⟨b, off + j, none⟩ = some (.int .i64 (xs.getD j 0))
theorem IS.keep {w w' : World} {B : Nat} {A : Option Addr} {xs : List Int} (h : IS w B A xs) (hk : ∀ p : Addr, p.block < B → w'.cell? p = w.cell? p) : IS w' B A xs := by
  intro hn
  obtain ⟨b, off, e, hb, hc⟩ := h hn
  exact ⟨b, off, e, hb, fun j hj => (hk _ hb).trans (hc j hj)⟩
theorem IS.more {w : World} {B B' : Nat} {A : Option Addr} {xs : List Int} (h : IS w B A xs) (hB : B ≤ B') : IS w B' A xs := by
  intro hn
  obtain ⟨b, off, e, hb, hc⟩ := h hn
  exact ⟨b, off, e, by omega, hc⟩
theorem IS.below {w w' : World} {B C : Nat} {A : Option Addr} {xs : List Int} (h : IS w B A xs) (hb : Below C w w') (hC : B ≤ C) : IS w' B A xs :=
  h.keep fun _ hp => hb.cell (Nat.lt_of_lt_of_le hp hC)
theorem IS.alloc {w : World} {B : Nat} {A : Option Addr} {xs : List Int} (h : IS w B A xs) (hB : B ≤ w.heap.size) (o : Obj) : IS (w.alloc o) B A xs :=
  h.keep fun p hp => World.cell?_alloc_lt w o p (by omega)
theorem IS.nil (w : World) (B : Nat) (A : Option Addr) : IS w B A [] := fun h => absurd h (by simp)
theorem IS.of_own {w : World} {base e n c : Nat} {A : Option Addr} {xs : List Int} (h : w.ownsRow base e 1 (.slice A n c) n (xs.map (Value.int .i64))) : IS w w.heap.size A xs := by
  intro hn
  have hl : xs.length = n := by simpa using h.1
  rcases h.2 with ⟨_, h0⟩ | ⟨g, cap, cur, hv, _, hh, _⟩
  · omega
  · simp only [Value.slice.injEq] at hv
    obtain ⟨rfl, _, rfl⟩ := hv
    have hg : g < w.heap.size := by
      rcases Nat.lt_or_ge g w.heap.size with hlt | hge
      · exact hlt
      · rw [Array.getElem?_eq_none hge] at hh; cases hh
    refine ⟨g, 0, rfl, hg, fun j hj => ?_⟩
    rw [h.cellAt _ (by omega)]
    simp [List.getD, hj]
end Go.Proofs.Ytkfglodjnnlbkaa

namespace Go.Proofs.Ytkfglodjnnlbkaa
set_option linter.unusedSimpArgs false
set_option linter.unusedVariables false
open Go.RowKit
theorem IS.step {A : Option Addr} {xs : List Int} {wk wl : World} (h : IS wk wk.heap.size A xs) (hb : Below wk.heap.size wk wl) : IS wl wl.heap.size A xs := (h.below hb (Nat.le_refl _)).more hb.size
end Go.Proofs.Ytkfglodjnnlbkaa

namespace Go.Proofs.Ytkfglodjnnlbkaa
set_option linter.unusedSimpArgs false
set_option linter.unusedVariables false
open Go.RowKit
theorem grown_tr {a b c : World} {row : Option Nat} (h : a.grownBy b row) (k : b.grownBy c row) : a.grownBy c row :=
  ⟨k.os.trans h.os, k.tape.trans h.tape, k.output.trans h.output, Nat.le_trans h.size k.size, fun i hi hr => (k.block i (Nat.lt_of_lt_of_le hi h.size) hr).trans (h.block i hi hr)⟩
end Go.Proofs.Ytkfglodjnnlbkaa

namespace Go.Proofs.Ytkfglodjnnlbkaa
set_option linter.unusedSimpArgs false
set_option linter.unusedVariables false
open Go.RowKit
section
variable {lo hi : Nat} {n c : Nat} {A : Option Addr} {ps : List Pt} {xs : List Int} {w : World}
theorem OwR.ints (h : OwR lo hi 3 1 (.slice A n c) n (xs.map (Value.int .i64)) w) : IS w hi A xs := by
  intro hn
  obtain ⟨b, off, rfl, _, hc⟩ := IS.of_own h.1 hn
  exact ⟨b, off, rfl, h.2 b rfl, hc⟩
end
end Go.Proofs.Ytkfglodjnnlbkaa

namespace Go.Proofs.Ytkfglodjnnlbkaa
set_option linter.unusedSimpArgs false
set_option linter.unusedVariables false
open Go.RowKit
/-- The rows vs lie in blocks of their own and have contents cont. -/
structure SSk (lo hi : Nat) (vs : List Value) (lens : Nat → Nat) (cont : Nat → List Value) (w : World) : Prop where
  row : ∀ j, j < vs.length → ∃ A m c, vs[j]? = some (.slice A m c) ∧ m = lens j ∧ OwR lo hi 3 1 (.slice A m c) m (cont j) w
  apart : ∀ (i j : Nat) (v u : Value) (k : Nat), i ≠ j → vs[i]? = some v → vs[j]? = some u → v.ownBlock = some k → u.ownBlock ≠ some k
theorem SSk.keep {lo hi : Nat} {vs : List Value} {lens : Nat → Nat} {cont : Nat → List Value} {w w' : World} (h : SSk lo hi vs lens cont w) (hk : ∀ k, lo ≤ k → k < hi → w'.heap[k]? = w.heap[k]?) : SSk lo hi vs lens cont w' :=
  ⟨fun j hj => by obtain ⟨A, m, c, h1, h2, h3⟩ := h.row j hj; exact ⟨A, m, c, h1, h2, h3.keep hk⟩, h.apart⟩
theorem SSk.mono {lo hi lo' hi' : Nat} {vs : List Value} {lens : Nat → Nat} {cont : Nat → List Value} {w : World} (h : SSk lo hi vs lens cont w) (h1 : lo' ≤ lo) (h2 : hi ≤ hi') : SSk lo' hi' vs lens cont w :=
  ⟨fun j hj => by obtain ⟨A, m, c, e1, e2, e3⟩ := h.row j hj; exact ⟨A, m, c, e1, e2, e3.mono h1 h2⟩, h.apart⟩
/-- A row of another kind was written to. -/
theorem SSk.grown {lo hi : Nat} {vs : List Value} {lens : Nat → Nat} {cont : Nat → List Value} {w w' : World} {row : Option Nat} (h : SSk lo hi vs lens cont w) (hg : w.grownBy w' row) (hr : ∀ (j : Nat) (v : Value), vs[j]? = some v → v.ownBlock = none ∨ v.ownBlock ≠ row) : SSk lo hi vs lens cont w' :=
  ⟨fun j hj => by obtain ⟨A, m, c, h1, h2, h3⟩ := h.row j hj; exact ⟨A, m, c, h1, h2, h3.1.kept hg (hr j _ h1), h3.2⟩, h.apart⟩
theorem SSk.ne {lo hi lo' : Nat} {vs : List Value} {lens : Nat → Nat} {cont : Nat → List Value} {w : World} {e : TypeId} {size n : Nat} {u : Value} {xs : List Value} (h : SSk lo hi vs lens cont w) (hu : w.ownsRow lo' e size u n xs) (he : (3 : TypeId) ≠ e) : ∀ (j : Nat) (v : Value), vs[j]? = some v → v.ownBlock = none ∨ v.ownBlock ≠ u.ownBlock := by
  intro j v hv
  have hj : j < vs.length := by
    rcases Nat.lt_or_ge j vs.length with h1 | h1
    · exact h1
    · rw [List.getElem?_eq_none h1] at hv; cases hv
  obtain ⟨A, m, c, h1, h2, h3⟩ := h.row j hj
  rw [h1] at hv
  cases hv
  exact blocks_ne h3.1 hu he
theorem SSk.lt {lo hi : Nat} {vs : List Value} {lens : Nat → Nat} {cont : Nat → List Value} {w : World} (h : SSk lo hi vs lens cont w) : ∀ (j : Nat) (v : Value) (k : Nat), vs[j]? = some v → v.ownBlock = some k → lo ≤ k ∧ k < hi := by
  intro j v k hv hk
  have hj : j < vs.length := by
    rcases Nat.lt_or_ge j vs.length with h1 | h1
    · exact h1
    · rw [List.getElem?_eq_none h1] at hv; cases hv
  obtain ⟨A, m, c, h1, h2, h3⟩ := h.row j hj
  rw [h1] at hv
  cases hv
  exact ⟨(h3.1.lt k hk).1, h3.2 k hk⟩
/-- One row more, or another one in its place: it lies in new blocks. -/
theorem SSk.put {lo hi hi' : Nat} {vs vs' : List Value} {lens lens' : Nat → Nat} {cont cont' : Nat → List Value} {w : World} {A : Option Addr} {m c : Nat} (h : SSk lo hi vs lens cont w) (k : Nat) (hk : vs'[k]? = some (.slice A m c)) (hl : ∀ j, j ≠ k → vs'[j]? = vs[j]?)
    (hlen : ∀ j, j < vs'.length → j ≠ k → j < vs.length) (hm : m = lens' k) (hc : ∀ j, j ≠ k → lens' j = lens j ∧ cont' j = cont j) (hr : OwR hi hi' 3 1 (.slice A m c) m (cont' k) w) (h1 : lo ≤ hi) (h2 : hi ≤ hi') : SSk lo hi' vs' lens' cont' w := by
  refine ⟨fun j hj => ?_, fun i j v u q hij hi' hj' hv hu => ?_⟩
  · by_cases e : j = k
    · subst e
      exact ⟨A, m, c, hk, hm, hr.mono h1 (Nat.le_refl _)⟩
    · obtain ⟨A', m', c', e1, e2, e3⟩ := h.row j (hlen j hj e)
      obtain ⟨e4, e5⟩ := hc j e
      exact ⟨A', m', c', by rw [hl j e]; exact e1, by rw [e4]; exact e2, by rw [e5]; exact e3.mono (Nat.le_refl _) h2⟩
  · by_cases e : i = k
    · subst e
      rw [hk] at hi'
      cases hi'
      have a1 := (hr.1.lt q hv).1
      rw [hl j (fun e => hij e.symm)] at hj'
      have a2 := (h.lt j u q hj' hu).2
      omega
    · by_cases e' : j = k
      · subst e'
        rw [hk] at hj'
        cases hj'
        have a1 := (hr.1.lt q hu).1
        rw [hl i e] at hi'
        have a2 := (h.lt i v q hi' hv).2
        omega
      · rw [hl i e] at hi'
        rw [hl j e'] at hj'
        exact h.apart i j v u q hij hi' hj' hv hu
def lenOf (xss : List (List Int)) (j : Nat) : Nat := (xss.getD j []).length
def rowOf (xss : List (List Int)) (j : Nat) : List Value := (xss.getD j []).map (Value.int .i64)
end Go.Proofs.Ytkfglodjnnlbkaa

namespace Go.Proofs.Ytkfglodjnnlbkaa
set_option linter.unusedSimpArgs false
set_option linter.unusedVariables false
open Go.RowKit
theorem IS.take {w : World} {B : Nat} {A : Option Addr} {xs : List Int} (h : IS w B A xs) (k : Nat) : IS w B A (xs.take k) := by
  intro hn
  rw [List.length_take] at hn
  obtain ⟨b, off, e, hb, hc⟩ := h (by omega)
  refine ⟨b, off, e, hb, fun j hj => ?_⟩
  rw [List.length_take] at hj
  have : (xs.take k).getD j 0 = xs.getD j 0 := by simp only [List.getD, List.getElem?_take, if_pos (show j < k by omega)]
  rw [this]
  exact hc j (by omega)
end Go.Proofs.Ytkfglodjnnlbkaa

namespace Go.Proofs.Ytkfglodjnnlbkaa
set_option linter.unusedSimpArgs false
set_option linter.unusedVariables false
open Go.RowKit
-- WANT impl_inRange spec_inRange impl_allInRange spec_allIn impl_copyOf spec_copyIntsA spec_copyInts RetI OwnI form nil Bl turn refl le alloc step MkW MkS leftOf leftOf_ok leftOf_no mark_ints held_ints markw_ints row_start laws_eqIntS laws_toIntS laws_markIntS laws_heldIntS box_new own_start below_of_drew As IS ints it loc mono keep Tch OwR own_form below more cell own_below set_getD getD_ne take_step take_all_eq take_succ_getD bcell RetT RetF RetB run_append1 append1 spec_append lt start setCell own lengths
/-- The four cells at b, off read as an owner. -/
def OnS (w : World) (B b off : Nat) (d : On) : Prop :=
  w.cell? ⟨b, off, none⟩ = some (.int .i64 d.p) ∧ w.cell? ⟨b, off + 1, none⟩ = some (.bool d.o) ∧
  (∃ A n c, w.cell? ⟨b, off + 2, none⟩ = some (.slice A n c) ∧ n = d.cl.length ∧ IS w B A d.cl) ∧
  ∃ A n c, w.cell? ⟨b, off + 3, none⟩ = some (.slice A n c) ∧ n = d.cx.length ∧ IS w B A d.cx
/-- The slice at A reads as the owners ds; all of it lies below block B. -/
def OS (w : World) (B : Nat) (A : Option Addr) (ds : List On) : Prop :=
  0 < ds.length → ∃ b off, A = some ⟨b, off, none⟩ ∧ b < B ∧ ∀ j, j < ds.length → OnS w B b (off + j * 4) (ds.getD j default)
theorem OnS.keep {w w' : World} {B b off : Nat} {d : On} (h : OnS w B b off d) (hb : b < B) (hk : ∀ p : Addr, p.block < B → w'.cell? p = w.cell? p) : OnS w' B b off d := by
  obtain ⟨h1, h2, ⟨A, n, c, h3, h4, h5⟩, A', n', c', h6, h7, h8⟩ := h
  exact ⟨(hk _ hb).trans h1, (hk _ hb).trans h2, ⟨A, n, c, (hk _ hb).trans h3, h4, h5.keep hk⟩, A', n', c', (hk _ hb).trans h6, h7, h8.keep hk⟩
theorem OnS.more {w : World} {B B' b off : Nat} {d : On} (h : OnS w B b off d) (hB : B ≤ B') : OnS w B' b off d := by
  obtain ⟨h1, h2, ⟨A, n, c, h3, h4, h5⟩, A', n', c', h6, h7, h8⟩ := h
  exact ⟨h1, h2, ⟨A, n, c, h3, h4, h5.more hB⟩, A', n', c', h6, h7, h8.more hB⟩
section
variable {w w' : World} {B B' C : Nat} {A : Option Addr} {ds : List On}
theorem OS.keep (h : OS w B A ds) (hk : ∀ p : Addr, p.block < B → w'.cell? p = w.cell? p) : OS w' B A ds := by
  intro hn
  obtain ⟨b, off, e, hb, hc⟩ := h hn
  exact ⟨b, off, e, hb, fun j hj => (hc j hj).keep hb hk⟩
theorem OS.more (h : OS w B A ds) (hB : B ≤ B') : OS w B' A ds := by
  intro hn
  obtain ⟨b, off, e, hb, hc⟩ := h hn
  exact ⟨b, off, e, by omega, fun j hj => (hc j hj).more hB⟩
theorem OS.below (h : OS w B A ds) (hb : Below C w w') (hC : B ≤ C) : OS w' B A ds := h.keep fun _ hp => hb.cell (Nat.lt_of_lt_of_le hp hC)
theorem OS.alloc (h : OS w B A ds) (hB : B ≤ w.heap.size) (o : Obj) : OS (w.alloc o) B A ds := h.keep fun p hp => World.cell?_alloc_lt w o p (by omega)
theorem OS.nil (w : World) (B : Nat) (A : Option Addr) : OS w B A [] := fun h => absurd h (by simp)
theorem OS.step {A : Option Addr} {ds : List On} {wk wl : World} (h : OS wk wk.heap.size A ds) (hb : Below wk.heap.size wk wl) : OS wl wl.heap.size A ds := (h.below hb (Nat.le_refl _)).more hb.size
end
/-- The lists of the owners, one after the other. -/
def rowsO (ds : List On) : List (List Int) := ds.flatMap fun d => [d.cl, d.cx]
/-- The list i of the owners. -/
def rowO (ds : List On) (i : Nat) : List Int := if i % 2 = 0 then (ds.getD (i / 2) default).cl else (ds.getD (i / 2) default).cx
theorem rowsO_getD (ds : List On) (i : Nat) : (rowsO ds).getD i [] = rowO ds i := by
  unfold rowO
  induction ds generalizing i with
  | nil =>
    simp [rowsO, List.getD]
    split <;> rfl
  | cons d ds ih =>
    have e : rowsO (d :: ds) = d.cl :: d.cx :: rowsO ds := by simp [rowsO, List.flatMap_cons]
    rw [e]
    match i with
    | 0 => simp [List.getD]
    | 1 => simp [List.getD]
    | i + 2 =>
      have h1 : (i + 2) % 2 = i % 2 := by omega
      have h2 : (i + 2) / 2 = i / 2 + 1 := by omega
      rw [h1, h2]
      simpa [List.getD] using ih i
theorem rowO_cl (ds : List On) (j : Nat) : rowO ds (j * 2) = (ds.getD j default).cl := by
  unfold rowO
  rw [if_pos (by omega), show j * 2 / 2 = j by omega]
theorem rowO_cx (ds : List On) (j : Nat) : rowO ds (j * 2 + 1) = (ds.getD j default).cx := by
  unfold rowO
  rw [if_neg (by omega), show (j * 2 + 1) / 2 = j by omega]
theorem lenOfO (ds : List On) (i : Nat) : lenOf (rowsO ds) i = (rowO ds i).length := by unfold lenOf; rw [rowsO_getD]
theorem rowOfO (ds : List On) (i : Nat) : rowOf (rowsO ds) i = (rowO ds i).map (Value.int .i64) := by unfold rowOf; rw [rowsO_getD]
/-- The cells of the row are those of the owners; us are their lists. -/
def OwF (xs us : List Value) (ds : List On) : Prop := ∀ j, j < ds.length → xs[j * 4]? = some (.int .i64 (ds.getD j default).p) ∧ xs[j * 4 + 1]? = some (.bool (ds.getD j default).o) ∧ xs[j * 4 + 2]? = us[j * 2]? ∧ xs[j * 4 + 3]? = us[j * 2 + 1]?
/-- Owners of the call's own. -/
def OwO (lo hi : Nat) (v : Value) (n : Nat) (ds : List On) (w : World) : Prop :=
  n = ds.length ∧ ∃ xs us, OwR lo hi 30 4 v n xs w ∧ us.length = n * 2 ∧ OwF xs us ds ∧ SSk lo hi us (lenOf (rowsO ds)) (rowOf (rowsO ds)) w
theorem OwO.keep {lo hi n : Nat} {v : Value} {ds : List On} {w w' : World} (h : OwO lo hi v n ds w) (hk : ∀ k, lo ≤ k → k < hi → w'.heap[k]? = w.heap[k]?) : OwO lo hi v n ds w' := by
  obtain ⟨h0, xs, us, h1, h2, h3, h4⟩ := h
  exact ⟨h0, xs, us, h1.keep hk, h2, h3, h4.keep hk⟩
theorem OwO.mono {lo hi lo' hi' n : Nat} {v : Value} {ds : List On} {w : World} (h : OwO lo hi v n ds w) (h1 : lo' ≤ lo) (h2 : hi ≤ hi') : OwO lo' hi' v n ds w := by
  obtain ⟨h0, xs, us, e1, e2, e3, e4⟩ := h
  exact ⟨h0, xs, us, e1.mono h1 h2, e2, e3, e4.mono h1 h2⟩
theorem OwO.nil (lo hi : Nat) (w : World) : OwO lo hi (.slice none 0 0) 0 [] w :=
  ⟨rfl, [], [], OwR.nil _ _ _ _ _, rfl, fun j hj => by simp at hj, ⟨fun j hj => by simp at hj, fun i j v u k _ h1 => by simp at h1⟩⟩
theorem OwO.setCell {lo hi n : Nat} {v : Value} {ds : List On} {w : World} (h : OwO lo hi v n ds w) {a : Addr} (ha : a.block < lo) (u : Value) : OwO lo hi v n ds (w.setCell a u) :=
  h.keep fun k hk _ => Below.heap_setCell _ _ _ _ (by omega)
theorem OwO.owners {lo hi n c : Nat} {A : Option Addr} {ds : List On} {w : World} (h : OwO lo hi (.slice A n c) n ds w) : OS w hi A ds := by
  obtain ⟨h0, xs, us, h1, h2, h3, h4⟩ := h
  intro hn
  rcases h1.1.2 with ⟨_, hz⟩ | ⟨g, cap, cur, hv, _⟩
  · omega
  · have hg := h1.2 g (by rw [hv]; rfl)
    simp only [Value.slice.injEq] at hv
    obtain ⟨rfl, _, rfl⟩ := hv
    refine ⟨g, 0, rfl, hg, fun j hj => ?_⟩
    obtain ⟨f0, f1, f2, f3⟩ := h3 j hj
    obtain ⟨A1, m1, c1, a1, a2, a3⟩ := h4.row (j * 2) (by omega)
    obtain ⟨A2, m2, c2, b1, b2, b3⟩ := h4.row (j * 2 + 1) (by omega)
    rw [lenOfO, rowO_cl] at a2
    rw [lenOfO, rowO_cx] at b2
    rw [rowOfO, rowO_cl] at a3
    rw [rowOfO, rowO_cx] at b3
    refine ⟨?_, ?_, ⟨A1, m1, c1, ?_, a2, a3.ints⟩, A2, m2, c2, ?_, b2, b3.ints⟩
    · rw [Nat.zero_add, h1.1.cellAt _ (by omega)]; exact f0
    · rw [Nat.zero_add, h1.1.cellAt _ (by omega)]; exact f1
    · rw [Nat.zero_add, h1.1.cellAt _ (by omega), f2]; exact a1
    · rw [Nat.zero_add, h1.1.cellAt _ (by omega), f3]; exact b1
theorem owner_ne_int : (30 : TypeId) ≠ 3 := by decide
/-- Four cells written one after the other. -/
def set4 (xs : List Value) (j : Nat) (x y z u : Value) : List Value := (((xs.set j x).set (j + 1) y).set (j + 2) z).set (j + 3) u
theorem set4_get (xs : List Value) (j : Nat) (x y z u : Value) (h : j + 3 < xs.length) : (set4 xs j x y z u)[j]? = some x ∧ (set4 xs j x y z u)[j + 1]? = some y ∧ (set4 xs j x y z u)[j + 2]? = some z ∧ (set4 xs j x y z u)[j + 3]? = some u ∧ ∀ i, i < j ∨ j + 3 < i → (set4 xs j x y z u)[i]? = xs[i]? := by
  unfold set4
  refine ⟨?_, ?_, ?_, ?_, fun i hi => ?_⟩
  · rw [List.getElem?_set, if_neg (by omega), List.getElem?_set, if_neg (by omega), List.getElem?_set, if_neg (by omega), List.getElem?_set, if_pos rfl, if_pos (by omega)]
  · rw [List.getElem?_set, if_neg (by omega), List.getElem?_set, if_neg (by omega), List.getElem?_set, if_pos rfl, if_pos (by simp; omega)]
  · rw [List.getElem?_set, if_neg (by omega), List.getElem?_set, if_pos rfl, if_pos (by simp; omega)]
  · rw [List.getElem?_set, if_pos rfl, if_pos (by simp; omega)]
  · rw [List.getElem?_set, if_neg (by omega), List.getElem?_set, if_neg (by omega), List.getElem?_set, if_neg (by omega), List.getElem?_set, if_neg (by omega)]
/-- The world behind four stores. -/
def put4 (w : World) (g j : Nat) (x y z u : Value) : World := (((w.setCell ⟨g, j, none⟩ x).setCell ⟨g, j + 1, none⟩ y).setCell ⟨g, j + 2, none⟩ z).setCell ⟨g, j + 3, none⟩ u
theorem own_put4 {w : World} {base e size n cap g : Nat} {xs : List Value} (h : w.ownsRow base e size (.slice (some ⟨g, 0, none⟩) n cap) n xs) (j : Nat) (x y z u : Value) :
    (put4 w g j x y z u).ownsRow base e size (.slice (some ⟨g, 0, none⟩) n cap) n (set4 xs j x y z u) ∧ w.grownBy (put4 w g j x y z u) (Value.slice (some ⟨g, 0, none⟩) n cap).ownBlock := by
  have a0 := h.stored j x
  have a1 := a0.1.stored (j + 1) y
  have a2 := a1.1.stored (j + 2) z
  have a3 := a2.1.stored (j + 3) u
  exact ⟨a3.1, grown_tr a0.2 (grown_tr a1.2 (grown_tr a2.2 a3.2))⟩
theorem getD_set (ds : List On) (k j : Nat) (d : On) (hk : k < ds.length) : (ds.set k d).getD j default = if j = k then d else ds.getD j default := by
  simp only [List.getD, List.getElem?_set]
  by_cases h : k = j
  · subst h; simp [hk]
  · rw [if_neg h, if_neg (fun e => h e.symm)]
/-- One owner was written anew; its lists lie in new blocks. -/
theorem OwO.put {lo hi mid top n cap g k : Nat} {ds : List On} {d : On} {w : World} {A A' : Option Addr} {m c m' c' : Nat} (h : OwO lo hi (.slice (some ⟨g, 0, none⟩) n cap) n ds w) (hk : k < n)
    (hm : m = d.cl.length) (hm' : m' = d.cx.length) (h1 : OwR hi mid 3 1 (.slice A m c) m (d.cl.map (Value.int .i64)) w) (h2 : OwR mid top 3 1 (.slice A' m' c') m' (d.cx.map (Value.int .i64)) w) (hlo : lo ≤ hi) (hmid : hi ≤ mid) (htop : mid ≤ top) :
    OwO lo top (.slice (some ⟨g, 0, none⟩) n cap) n (ds.set k d) (put4 w g (k * 4) (.int .i64 d.p) (.bool d.o) (.slice A m c) (.slice A' m' c')) := by
  obtain ⟨hn, xs, us, hr, hu, hf, hs⟩ := h
  have hxl : xs.length = n * 4 := hr.1.1
  have hst := own_put4 hr.1 (k * 4) (.int .i64 d.p) (.bool d.o) (.slice A m c) (.slice A' m' c')
  have hs1 := hs.grown hst.2 (hs.ne hr.1 owner_ne_int.symm)
  have r1 := h1.1.kept hst.2 (blocks_ne h1.1 hr.1 owner_ne_int.symm)
  have r2 := h2.1.kept hst.2 (blocks_ne h2.1 hr.1 owner_ne_int.symm)
  have hkl : k < ds.length := by omega
  obtain ⟨s0, s1, s2, s3, s4⟩ := set4_get xs (k * 4) (.int .i64 d.p) (.bool d.o) (.slice A m c) (.slice A' m' c') (by omega)
  have hrow (i : Nat) : rowO (ds.set k d) i = if i = k * 2 then d.cl else if i = k * 2 + 1 then d.cx else rowO ds i := by
    unfold rowO
    rw [getD_set ds k (i / 2) d hkl]
    by_cases e1 : i / 2 = k
    · rw [if_pos e1]
      by_cases e2 : i % 2 = 0
      · rw [if_pos e2, if_pos (by omega)]
      · rw [if_neg e2, if_neg (by omega), if_pos (by omega)]
    · have e3 : ¬ i = k * 2 := by omega
      have e4 : ¬ i = k * 2 + 1 := by omega
      simp only [if_neg e1, if_neg e3, if_neg e4]
  refine ⟨by simp; omega, _, (us.set (k * 2) (.slice A m c)).set (k * 2 + 1) (.slice A' m' c'), ⟨hst.1, fun q hq => Nat.lt_of_lt_of_le (hr.2 q hq) (by omega)⟩, by simp; omega, ?_, ?_⟩
  · intro j hj
    rw [getD_set ds k j d hkl]
    by_cases e : j = k
    · subst e
      rw [if_pos rfl]
      refine ⟨s0, s1, s2.trans ?_, s3.trans ?_⟩
      · rw [List.getElem?_set, if_neg (by omega), List.getElem?_set, if_pos rfl, if_pos (by omega)]
      · rw [List.getElem?_set, if_pos rfl, if_pos (by simp; omega)]
    · rw [if_neg e]
      obtain ⟨f0, f1, f2, f3⟩ := hf j (by simpa using hj)
      refine ⟨(s4 _ (by omega)).trans f0, (s4 _ (by omega)).trans f1, ((s4 _ (by omega)).trans f2).trans ?_, ((s4 _ (by omega)).trans f3).trans ?_⟩
      · rw [List.getElem?_set, if_neg (by omega), List.getElem?_set, if_neg (by omega)]
      · rw [List.getElem?_set, if_neg (by omega), List.getElem?_set, if_neg (by omega)]
  · have p1 : SSk lo mid (us.set (k * 2) (.slice A m c)) (fun i => if i = k * 2 then d.cl.length else lenOf (rowsO ds) i) (fun i => if i = k * 2 then d.cl.map (Value.int .i64) else rowOf (rowsO ds) i) (put4 w g (k * 4) (.int .i64 d.p) (.bool d.o) (.slice A m c) (.slice A' m' c')) :=
      hs1.put (k * 2) (by rw [List.getElem?_set, if_pos rfl, if_pos (by omega)]) (fun j hj => by rw [List.getElem?_set, if_neg (by omega)]) (fun j hj _ => by simpa using hj) (by simpa using hm) (fun j hj => by simp [hj]) (by simpa using ⟨r1, h1.2⟩) hlo hmid
    refine p1.put (k * 2 + 1) (A := A') (m := m') (c := c') (by rw [List.getElem?_set, if_pos rfl, if_pos (by simp; omega)]) (fun j hj => by rw [List.getElem?_set, if_neg (by omega)]) (fun j hj _ => by simpa using hj) ?_ (fun j hj => ?_) ?_ (by omega) htop
    · rw [lenOfO, hrow, if_neg (by omega), if_pos rfl]; exact hm'
    · rw [lenOfO, rowOfO, hrow]
      by_cases e : j = k * 2
      · simp [e]
      · rw [if_neg e, if_neg hj, if_neg e, if_neg e, ← lenOfO, ← rowOfO]; exact ⟨rfl, rfl⟩
    · rw [rowOfO, hrow, if_neg (by omega), if_pos rfl]; exact ⟨r2, h2.2⟩
end Go.Proofs.Ytkfglodjnnlbkaa

namespace Go.Proofs.Ytkfglodjnnlbkaa
set_option linter.unusedSimpArgs false
set_option linter.unusedVariables false
open Go.RowKit
theorem OwO.step {lo hi n : Nat} {v : Value} {ds : List On} {w w' : World} (h : OwO lo hi v n ds w) (hb : Below w.heap.size w w') (hle : hi ≤ w.heap.size) : OwO lo hi v n ds w' := h.keep fun k _ hk => hb.block k (by omega)
end Go.Proofs.Ytkfglodjnnlbkaa

namespace Go.Proofs.Ytkfglodjnnlbkaa
set_option linter.unusedSimpArgs false
set_option linter.unusedVariables false
open Go.RowKit
section
variable {lo hi : Nat} {w : World}
/-- One row more ahead. -/
theorem SSk.cons {us : List Value} {x : List Int} {xs : List (List Int)} {A : Option Addr} {n c : Nat} (h : SSk lo hi us (lenOf xs) (rowOf xs) w) (hr : OwR lo hi 3 1 (.slice A n c) n (x.map (Value.int .i64)) w) (hn : n = x.length) (hap : ∀ (j : Nat) (u : Value) (k : Nat), us[j]? = some u → (Value.slice A n c).ownBlock = some k → u.ownBlock ≠ some k) : SSk lo hi (.slice A n c :: us) (lenOf (x :: xs)) (rowOf (x :: xs)) w := by
  refine ⟨fun j hj => ?_, fun i j v u k hij h3 h4 hv hu => ?_⟩
  · cases j with
    | zero => exact ⟨A, n, c, rfl, hn, hr⟩
    | succ j => exact h.row j (by simpa using hj)
  · cases i with
    | zero =>
      cases j with
      | zero => exact hij rfl
      | succ j =>
        simp only [List.getElem?_cons_zero, Option.some.injEq] at h3
        subst h3
        exact hap j u k h4 hv hu
    | succ i =>
      cases j with
      | zero =>
        simp only [List.getElem?_cons_zero, Option.some.injEq] at h4
        subst h4
        exact hap i v k h3 hu hv
      | succ j => exact h.apart i j v u k (by omega) h3 h4 hv hu
end
end Go.Proofs.Ytkfglodjnnlbkaa
