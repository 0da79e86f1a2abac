/- Words and contracts for memory that the texts behind use. -/
import Derived.Test.YtlbomopjldhmeaaB0a
import Derived.Test.YtlbomopjldhmeaaB1a
import Derived.Test.YtlbomopjldhmeaaB2a
import Derived.Test.YtlbomopjldhmeaaB3a
import Derived.Test.YtlbomopjldhmeaaB4a
import Derived.WalkKit
import Derived.Laws.OwnMore
import Derived.Deep.Draws
import Derived.Test.YtlbomopjldhmeaaProg
import Derived.WalkSpells
import Derived.WalkLawsBesides
import Derived.Outline
import Derived.Lib.Hide
import Derived.BigQuiet
import Derived.Deep.QuietTactic
import Derived.StillTailTactics
import Derived.Deep.LoopGhost
import Derived.Laws.MakeOwn
import Derived.WalkSmall
import Derived.RegionTactic
import Derived.BigRegion
import Derived.Deep.RegionWith
import Derived.Deep.RegionHeld3
import Derived.Laws.Entries
import Derived.Laws.Bits64
import Derived.IntWalk
import Derived.Maps.AppendAt
import Derived.Deep.RegionLaw
import Derived.Deep.AppendLies
import Derived.Deep.Cut
import Derived.Deep.DeepCutAuto
import Derived.Laws.CopyOwn
import Derived.ArgAppend
import Derived.RangeFuncNested
import Derived.RangeFuncBound
import Derived.RangeFuncCalls
import Derived.RangeFuncLeaves
import Derived.RangeFuncBox
import Derived.Shelf.Abstract
import Derived.Shelf.RegionOpen
import Derived.OwnWalkIn
import Derived.TacticsInMore
import Derived.LoopNIn
import Derived.LoopIn
import Derived.Sort.QuietIn
import Derived.Sort.QuietTacIn
import Derived.RegionIn
import Derived.Sort.CutIn

namespace Go.Proofs.Ytlbomopjldhmeaa
set_option linter.unusedSimpArgs false
set_option linter.unusedVariables false
open Go.RowKit
theorem OwnI.form {w : World} {base : Nat} {v : Value} {xs : List Int} (h : OwnI w base v xs) : ∃ A c, v = .slice A xs.length c ∧ IS w w.heap.size A xs := by
  have h' := h
  rcases h.2 with ⟨hv, h0⟩ | ⟨g, cap, cur, hv, _⟩
  · have hx : xs = [] := List.eq_nil_of_length_eq_zero h0
    subst hx
    exact ⟨none, 0, hv, IS.nil _ _ _⟩
  · subst hv
    exact ⟨_, _, rfl, IS.of_own h'⟩
end Go.Proofs.Ytlbomopjldhmeaa

namespace Go.Proofs.Ytlbomopjldhmeaa
set_option linter.unusedSimpArgs false
set_option linter.unusedVariables false
/-- A part with the indices of the first parts below it. -/
def Pt.sub (p : Pt) (at_ : List Int) : Pt := ⟨p.k, at_.getD 0 p.a, at_.getD 1 p.b, at_.getD 2 p.c, p.n⟩
end Go.Proofs.Ytlbomopjldhmeaa

namespace Go.Proofs.Ytlbomopjldhmeaa
set_option linter.unusedSimpArgs false
set_option linter.unusedVariables false
open Go.RowKit
theorem OwnI.at_ {w : World} {base n : Nat} {v : Value} {xs : List Int} (h : OwnI w base v xs) (hn : xs.length = n) : ∃ A c, v = .slice A n c ∧ IS w w.heap.size A xs := by
  subst hn
  exact h.form
end Go.Proofs.Ytlbomopjldhmeaa

namespace Go.Proofs.Ytlbomopjldhmeaa
set_option linter.unusedSimpArgs false
set_option linter.unusedVariables false
open Go.RowKit
/-- The slice at A reads as the lists xss; all of it lies below block B. -/
def SS (w : World) (B : Nat) (A : Option Addr) (xss : List (List Int)) : Prop :=
  0 < xss.length → ∃ b off, A = some ⟨b, off, none⟩ ∧ b < B ∧ ∀ j, j < xss.length → ∃ A' n c, w.cell? ⟨b, off + j, none⟩ = some (.slice A' n c) ∧ n = (xss.getD j []).length ∧ IS w B A' (xss.getD j [])
section
variable {w w' : World} {B B' C : Nat} {A : Option Addr} {xss : List (List Int)}
theorem SS.keep (h : SS w B A xss) (hk : ∀ p : Addr, p.block < B → w'.cell? p = w.cell? p) : SS w' B A xss := by
  intro hn
  obtain ⟨b, off, e, hb, hc⟩ := h hn
  refine ⟨b, off, e, hb, fun j hj => ?_⟩
  obtain ⟨A', n, c, h1, h2, h3⟩ := hc j hj
  exact ⟨A', n, c, (hk _ hb).trans h1, h2, h3.keep hk⟩
theorem SS.more (h : SS w B A xss) (hB : B ≤ B') : SS w B' A xss := by
  intro hn
  obtain ⟨b, off, e, hb, hc⟩ := h hn
  refine ⟨b, off, e, by omega, fun j hj => ?_⟩
  obtain ⟨A', n, c, h1, h2, h3⟩ := hc j hj
  exact ⟨A', n, c, h1, h2, h3.more hB⟩
theorem SS.below (h : SS w B A xss) (hb : Below C w w') (hC : B ≤ C) : SS w' B A xss := h.keep fun _ hp => hb.cell (Nat.lt_of_lt_of_le hp hC)
theorem SS.alloc (h : SS w B A xss) (hB : B ≤ w.heap.size) (o : Obj) : SS (w.alloc o) B A xss := h.keep fun p hp => World.cell?_alloc_lt w o p (by omega)
theorem SS.nil (w : World) (B : Nat) (A : Option Addr) : SS w B A [] := fun h => absurd h (by simp)
end
theorem SS.step {A : Option Addr} {xss : List (List Int)} {wk wl : World} (h : SS wk wk.heap.size A xss) (hb : Below wk.heap.size wk wl) : SS wl wl.heap.size A xss := (h.below hb (Nat.le_refl _)).more hb.size
theorem SS.loc (B : Nat) (A : Option Addr) (xss : List (List Int)) : Loc 0 B fun w => SS w B A xss :=
  fun w w' h hk => h.keep fun p hp => World.cell?_of_block (hk p.block (Nat.zero_le _) hp)
/-- The rows vs lie in blocks of their own and have contents cont. -/
structure SSk (lo hi : Nat) (vs : List Value) (lens : Nat → Nat) (cont : Nat → List Value) (w : World) : Prop where
  row : ∀ j, j < vs.length → ∃ A m c, vs[j]? = some (.slice A m c) ∧ m = lens j ∧ OwR lo hi 3 1 (.slice A m c) m (cont j) w
  apart : ∀ (i j : Nat) (v u : Value) (k : Nat), i ≠ j → vs[i]? = some v → vs[j]? = some u → v.ownBlock = some k → u.ownBlock ≠ some k
theorem SSk.keep {lo hi : Nat} {vs : List Value} {lens : Nat → Nat} {cont : Nat → List Value} {w w' : World} (h : SSk lo hi vs lens cont w) (hk : ∀ k, lo ≤ k → k < hi → w'.heap[k]? = w.heap[k]?) : SSk lo hi vs lens cont w' :=
  ⟨fun j hj => by obtain ⟨A, m, c, h1, h2, h3⟩ := h.row j hj; exact ⟨A, m, c, h1, h2, h3.keep hk⟩, h.apart⟩
theorem SSk.mono {lo hi lo' hi' : Nat} {vs : List Value} {lens : Nat → Nat} {cont : Nat → List Value} {w : World} (h : SSk lo hi vs lens cont w) (h1 : lo' ≤ lo) (h2 : hi ≤ hi') : SSk lo' hi' vs lens cont w :=
  ⟨fun j hj => by obtain ⟨A, m, c, e1, e2, e3⟩ := h.row j hj; exact ⟨A, m, c, e1, e2, e3.mono h1 h2⟩, h.apart⟩
theorem SSk.lt {lo hi : Nat} {vs : List Value} {lens : Nat → Nat} {cont : Nat → List Value} {w : World} (h : SSk lo hi vs lens cont w) : ∀ (j : Nat) (v : Value) (k : Nat), vs[j]? = some v → v.ownBlock = some k → lo ≤ k ∧ k < hi := by
  intro j v k hv hk
  have hj : j < vs.length := by
    rcases Nat.lt_or_ge j vs.length with h1 | h1
    · exact h1
    · rw [List.getElem?_eq_none h1] at hv; cases hv
  obtain ⟨A, m, c, h1, h2, h3⟩ := h.row j hj
  rw [h1] at hv
  cases hv
  exact ⟨(h3.1.lt k hk).1, h3.2 k hk⟩
/-- One row more, or another one in its place: it lies in new blocks. -/
theorem SSk.put {lo hi hi' : Nat} {vs vs' : List Value} {lens lens' : Nat → Nat} {cont cont' : Nat → List Value} {w : World} {A : Option Addr} {m c : Nat} (h : SSk lo hi vs lens cont w) (k : Nat) (hk : vs'[k]? = some (.slice A m c)) (hl : ∀ j, j ≠ k → vs'[j]? = vs[j]?)
    (hlen : ∀ j, j < vs'.length → j ≠ k → j < vs.length) (hm : m = lens' k) (hc : ∀ j, j ≠ k → lens' j = lens j ∧ cont' j = cont j) (hr : OwR hi hi' 3 1 (.slice A m c) m (cont' k) w) (h1 : lo ≤ hi) (h2 : hi ≤ hi') : SSk lo hi' vs' lens' cont' w := by
  refine ⟨fun j hj => ?_, fun i j v u q hij hi' hj' hv hu => ?_⟩
  · by_cases e : j = k
    · subst e
      exact ⟨A, m, c, hk, hm, hr.mono h1 (Nat.le_refl _)⟩
    · obtain ⟨A', m', c', e1, e2, e3⟩ := h.row j (hlen j hj e)
      obtain ⟨e4, e5⟩ := hc j e
      exact ⟨A', m', c', by rw [hl j e]; exact e1, by rw [e4]; exact e2, by rw [e5]; exact e3.mono (Nat.le_refl _) h2⟩
  · by_cases e : i = k
    · subst e
      rw [hk] at hi'
      cases hi'
      have a1 := (hr.1.lt q hv).1
      rw [hl j (fun e => hij e.symm)] at hj'
      have a2 := (h.lt j u q hj' hu).2
      omega
    · by_cases e' : j = k
      · subst e'
        rw [hk] at hj'
        cases hj'
        have a1 := (hr.1.lt q hu).1
        rw [hl i e] at hi'
        have a2 := (h.lt i v q hi' hv).2
        omega
      · rw [hl i e] at hi'
        rw [hl j e'] at hj'
        exact h.apart i j v u q hij hi' hj' hv hu
def rowOf (xss : List (List Int)) (j : Nat) : List Value := (xss.getD j []).map (Value.int .i64)
/-- Lists of numbers of the call's own. -/
def OwSS (lo hi : Nat) (v : Value) (n : Nat) (xss : List (List Int)) (w : World) : Prop :=
  n = xss.length ∧ ∃ vs, OwR lo hi 22 1 v n vs w ∧ SSk lo hi vs (lenOf xss) (rowOf xss) w
theorem OwSS.loc (lo hi : Nat) (v : Value) (n : Nat) (xss : List (List Int)) : Loc lo hi (OwSS lo hi v n xss) := by
  rintro w w' ⟨h0, vs, h1, h2⟩ hk
  exact ⟨h0, vs, h1.keep hk, h2.keep hk⟩
theorem OwSS.mono {lo hi lo' hi' n : Nat} {v : Value} {xss : List (List Int)} {w : World} (h : OwSS lo hi v n xss w) (h1 : lo' ≤ lo) (h2 : hi ≤ hi') : OwSS lo' hi' v n xss w := by
  obtain ⟨h0, vs, e1, e2⟩ := h
  exact ⟨h0, vs, e1.mono h1 h2, e2.mono h1 h2⟩
theorem OwSS.form {lo hi n : Nat} {v : Value} {xss : List (List Int)} {w : World} (h : OwSS lo hi v n xss w) : ∃ A c, v = .slice A n c := by
  obtain ⟨_, xs, h1, _⟩ := h
  exact own_form h1.1
theorem OwSS.lists {lo hi n c : Nat} {A : Option Addr} {xss : List (List Int)} {w : World} (h : OwSS lo hi (.slice A n c) n xss w) : SS w hi A xss := by
  obtain ⟨h0, vs, h1, h2⟩ := h
  intro hn
  rcases h1.1.2 with ⟨_, hz⟩ | ⟨g, cap, cur, hv, _⟩
  · omega
  · have hg := h1.2 g (by rw [hv]; rfl)
    simp only [Value.slice.injEq] at hv
    obtain ⟨rfl, _, rfl⟩ := hv
    have hvl : vs.length = n := by have := h1.1.1; omega
    refine ⟨g, 0, rfl, hg, fun j hj => ?_⟩
    obtain ⟨A', m, c', e1, e2, e3⟩ := h2.row j (by omega)
    refine ⟨A', m, c', ?_, e2, e3.ints⟩
    rw [Nat.zero_add, h1.1.cellAt _ (by omega)]; exact e1
theorem As.lists {lo hi n c : Nat} {A : Option Addr} {xss : List (List Int)} {w : World} (h : As lo hi (OwSS lo hi (.slice A n c) n xss) w) : SS w w.heap.size A xss := h.it.lists.more h.le
theorem OwSS.nil (lo hi : Nat) (w : World) : OwSS lo hi (.slice none 0 0) 0 [] w := ⟨rfl, [], OwR.nil _ _ _ _ _, ⟨fun j hj => by simp at hj, fun i j v u k _ h => by simp at h⟩⟩
end Go.Proofs.Ytlbomopjldhmeaa

namespace Go.Proofs.Ytlbomopjldhmeaa
set_option linter.unusedSimpArgs false
set_option linter.unusedVariables false
open Go.RowKit
structure Eg where
  vs : List Int
  rs : List (List Int)
deriving DecidableEq, Inhabited
theorem SS.at_ {w : World} {B : Nat} {A : Option Addr} {xss : List (List Int)} (h : SS w B A xss) (j : Nat) (hj : j < xss.length) : ∃ b off, A = some ⟨b, off, none⟩ ∧ b < B ∧ ∃ A' n c, w.cell? ⟨b, off + j, none⟩ = some (.slice A' n c) ∧ n = (xss.getD j []).length ∧ IS w B A' (xss.getD j []) := by
  obtain ⟨b, off, e, hb, hc⟩ := h (by omega)
  exact ⟨b, off, e, hb, hc j hj⟩
end Go.Proofs.Ytlbomopjldhmeaa

namespace Go.Proofs.Ytlbomopjldhmeaa
set_option linter.unusedSimpArgs false
set_option linter.unusedVariables false
open Go.RowKit
theorem SSk.congr {lo hi : Nat} {vs : List Value} {lens : Nat → Nat} {cont cont' : Nat → List Value} {w : World} (h : SSk lo hi vs lens cont w) (hc : ∀ j, j < vs.length → cont j = cont' j) : SSk lo hi vs lens cont' w :=
  ⟨fun j hj => by obtain ⟨A, m, c, e1, e2, e3⟩ := h.row j hj; exact ⟨A, m, c, e1, e2, by rw [← hc j hj]; exact e3⟩, h.apart⟩
section
variable {lo hi lo' hi' n c en ec : Nat} {A E : Option Addr} {st : Eg} {k : Int} {w w' : World}
theorem SSk.tail {v : Value} {us : List Value} {x : List Int} {xs : List (List Int)} (h : SSk lo hi (v :: us) (lenOf (x :: xs)) (rowOf (x :: xs)) w) : SSk lo hi us (lenOf xs) (rowOf xs) w :=
  ⟨fun j hj => by obtain ⟨A, m, c, e1, e2, e3⟩ := h.row (j + 1) (by simpa using hj); exact ⟨A, m, c, e1, e2, e3⟩, fun i j v u k hij h1 h2 => h.apart (i + 1) (j + 1) v u k (by omega) h1 h2⟩
end
end Go.Proofs.Ytlbomopjldhmeaa

namespace Go.Proofs.Ytlbomopjldhmeaa
set_option linter.unusedSimpArgs false
set_option linter.unusedVariables false
open Go.RowKit
section
variable {lo hi : Nat} {w : World}
/-- One row more ahead. -/
theorem SSk.cons {us : List Value} {x : List Int} {xs : List (List Int)} {A : Option Addr} {n c : Nat} (h : SSk lo hi us (lenOf xs) (rowOf xs) w) (hr : OwR lo hi 3 1 (.slice A n c) n (x.map (Value.int .i64)) w) (hn : n = x.length) (hap : ∀ (j : Nat) (u : Value) (k : Nat), us[j]? = some u → (Value.slice A n c).ownBlock = some k → u.ownBlock ≠ some k) : SSk lo hi (.slice A n c :: us) (lenOf (x :: xs)) (rowOf (x :: xs)) w := by
  refine ⟨fun j hj => ?_, fun i j v u k hij h3 h4 hv hu => ?_⟩
  · cases j with
    | zero => exact ⟨A, n, c, rfl, hn, hr⟩
    | succ j => exact h.row j (by simpa using hj)
  · cases i with
    | zero =>
      cases j with
      | zero => exact hij rfl
      | succ j =>
        simp only [List.getElem?_cons_zero, Option.some.injEq] at h3
        subst h3
        exact hap j u k h4 hv hu
    | succ i =>
      cases j with
      | zero =>
        simp only [List.getElem?_cons_zero, Option.some.injEq] at h4
        subst h4
        exact hap i v k h3 hu hv
      | succ j => exact h.apart i j v u k (by omega) h3 h4 hv hu
end
end Go.Proofs.Ytlbomopjldhmeaa

namespace Go.Proofs.Ytlbomopjldhmeaa
set_option linter.unusedSimpArgs false
set_option linter.unusedVariables false
open Go.RowKit
theorem validK_parts {xs : List Int} (h : validK xs = true) : xs.length ≤ 10 ∧ allR xs 0 30 = true ∧ xs.Nodup := by
  unfold validK difB at h
  simp only [Bool.and_eq_true, decide_eq_true_eq] at h
  exact ⟨h.1, h.2.1, h.2.2⟩
end Go.Proofs.Ytlbomopjldhmeaa

namespace Go.Proofs.Ytlbomopjldhmeaa
set_option linter.unusedSimpArgs false
set_option linter.unusedVariables false
open Go.RowKit
/-- The numbers of a list that are in another one, and those that are not. -/
def inK (xs ys : List Int) : List Int := xs.filter fun x => decide (x ∈ ys)
def notK (xs ys : List Int) : List Int := xs.filter fun x => !decide (x ∈ ys)
theorem notK_len (xs ys : List Int) : (notK xs ys).length ≤ xs.length := List.length_filter_le _ _
/-- Both lists are keys. -/
def bothK (xs ys : List Int) : Bool := validK xs && validK ys
theorem bothK_parts (xs ys : List Int) (h : bothK xs ys = true) : validK xs = true ∧ validK ys = true := by unfold bothK at h; simpa using h
end Go.Proofs.Ytlbomopjldhmeaa

namespace Go.Proofs.Ytlbomopjldhmeaa
set_option linter.unusedSimpArgs false
set_option linter.unusedVariables false
open Go.RowKit
/-- The greatest of the d numbers behind i whose places are greater. -/
def bst (P L : Nat → Int) (i : Nat) : Nat → Int
  | 0 => 0
  | d + 1 => if P i < P (i + 1 + d) then max (bst P L i d) (L (i + 1 + d)) else bst P L i d
def upd (f : Nat → Int) (i : Nat) (x : Int) : Nat → Int := fun j => if j = i then x else f j
/-- The lengths when the last r places have theirs. -/
def lrT (P : Nat → Int) (n : Nat) : Nat → Nat → Int
  | 0 => fun _ => 0
  | r + 1 => upd (lrT P n r) (n - 1 - r) (bst P (lrT P n r) (n - 1 - r) r + 1)
theorem bst_nonneg (P L : Nat → Int) (i d : Nat) : 0 ≤ bst P L i d := by
  induction d with
  | zero => exact Int.le_refl _
  | succ d ih => unfold bst; split <;> omega
theorem bst_ge (P L : Nat → Int) (i d e : Nat) (he : e < d) (hp : P i < P (i + 1 + e)) : L (i + 1 + e) ≤ bst P L i d := by
  induction d with
  | zero => omega
  | succ d ih =>
    unfold bst
    rcases Nat.lt_or_ge e d with h | h
    · have := ih h
      split <;> omega
    · obtain rfl : e = d := by omega
      rw [if_pos hp]; omega
theorem bst_has (P L : Nat → Int) (i d : Nat) (h : 0 < bst P L i d) : ∃ e, e < d ∧ P i < P (i + 1 + e) ∧ L (i + 1 + e) = bst P L i d := by
  induction d with
  | zero => simp [bst] at h
  | succ d ih =>
    unfold bst at h ⊢
    by_cases hp : P i < P (i + 1 + d)
    · rw [if_pos hp] at h ⊢
      by_cases hm : bst P L i d < L (i + 1 + d)
      · exact ⟨d, by omega, hp, by omega⟩
      · obtain ⟨e, h1, h2, h3⟩ := ih (by omega)
        exact ⟨e, by omega, h2, by omega⟩
    · rw [if_neg hp] at h ⊢
      obtain ⟨e, h1, h2, h3⟩ := ih h
      exact ⟨e, by omega, h2, h3⟩
theorem bst_congr (P L L' : Nat → Int) (i d : Nat) (h : ∀ e, e < d → L (i + 1 + e) = L' (i + 1 + e)) : bst P L i d = bst P L' i d := by
  induction d with
  | zero => rfl
  | succ d ih =>
    unfold bst
    rw [ih fun e he => h e (by omega), h d (by omega)]
theorem lrT_stay (P : Nat → Int) (n r s j : Nat) (h : n ≤ j + r) (hj : j < n) (hs : r + s ≤ n) : lrT P n (r + s) j = lrT P n r j := by
  induction s with
  | zero => rfl
  | succ s ih =>
    rw [show r + (s + 1) = (r + s) + 1 by omega]
    show upd (lrT P n (r + s)) (n - 1 - (r + s)) (bst P (lrT P n (r + s)) (n - 1 - (r + s)) (r + s) + 1) j = _
    unfold upd
    rw [if_neg (by omega)]
    exact ih (by omega)
/-- The lengths of all places. -/
def lrA (P : Nat → Int) (n : Nat) : Nat → Int := lrT P n n
theorem lrA_eq (P : Nat → Int) (n i : Nat) (hi : i < n) : lrA P n i = bst P (lrA P n) i (n - 1 - i) + 1 := by
  have h1 := lrT_stay P n (n - i) i i (by omega) hi (by omega)
  rw [show n - i + i = n by omega] at h1
  unfold lrA
  rw [h1]
  obtain ⟨r, hr⟩ : ∃ r, n - i = r + 1 := ⟨n - i - 1, by omega⟩
  rw [hr]
  have hir : n - 1 - r = i := by omega
  show upd (lrT P n r) (n - 1 - r) (bst P (lrT P n r) (n - 1 - r) r + 1) i = _
  unfold upd
  rw [if_pos hir.symm, hir, show n - 1 - i = r by omega]
  congr 1
  refine bst_congr P _ _ i r fun e he => ?_
  have h2 := lrT_stay P n r (n - r) (i + 1 + e) (by omega) (by omega) (by omega)
  rw [show r + (n - r) = n by omega] at h2
  exact h2.symm
theorem lrA_pos (P : Nat → Int) (n i : Nat) (hi : i < n) : 1 ≤ lrA P n i := by
  rw [lrA_eq P n i hi]; have := bst_nonneg P (lrA P n) i (n - 1 - i); omega
theorem lrA_more (P : Nat → Int) (n i j : Nat) (hj : j < n) (hij : i < j) (hp : P i < P j) : lrA P n j + 1 ≤ lrA P n i := by
  rw [lrA_eq P n i (by omega)]
  have := bst_ge P (lrA P n) i (n - 1 - i) (j - i - 1) (by omega) (by rw [show i + 1 + (j - i - 1) = j by omega]; exact hp)
  rw [show i + 1 + (j - i - 1) = j by omega] at this
  omega
theorem lrA_next (P : Nat → Int) (n i : Nat) (m : Int) (hi : i < n) (hm : 1 ≤ m) (h : lrA P n i = m + 1) : ∃ j, i < j ∧ j < n ∧ P i < P j ∧ lrA P n j = m := by
  rw [lrA_eq P n i hi] at h
  obtain ⟨e, h1, h2, h3⟩ := bst_has P (lrA P n) i (n - 1 - i) (by omega)
  exact ⟨i + 1 + e, by omega, by omega, h2, by omega⟩
/-- The greatest of the first k numbers, at least 0. -/
def mst (L : Nat → Int) : Nat → Int
  | 0 => 0
  | k + 1 => max (mst L k) (L k)
theorem keep_yes (X L : Nat → Int) (m : Int) (k : Nat) (h : L k = (keep X L m k).2) : keep X L m (k + 1) = ((keep X L m k).1 ++ [X k], (keep X L m k).2 - 1) := by
  show (if _ then _ else _) = _
  rw [if_pos h]
theorem keep_no (X L : Nat → Int) (m : Int) (k : Nat) (h : ¬ L k = (keep X L m k).2) : keep X L m (k + 1) = keep X L m k := by
  show (if _ then _ else _) = _
  rw [if_neg h]
theorem keep_bd (X L : Nat → Int) (m : Int) (k : Nat) : (keep X L m k).1.length ≤ k ∧ (keep X L m k).2 = m - (keep X L m k).1.length := by
  induction k with
  | zero => exact ⟨Nat.le_refl _, by simp [keep]⟩
  | succ k ih =>
    by_cases h : L k = (keep X L m k).2
    · rw [keep_yes X L m k h]; simp; omega
    · rw [keep_no X L m k h]; omega
/-- Where the last one that was kept lies. -/
def AtOK (P L : Nat → Int) (i : Nat) (at_ mis : Int) : Prop := at_ = -1 ∨ ∃ p, p < i ∧ at_ = P p ∧ L p = mis + 1 ∧ ∀ j, p < j → j < i → L j ≠ mis
theorem AtOK.yes {P L : Nat → Int} {i : Nat} {at_ mis : Int} (h : L i = mis) : AtOK P L (i + 1) (P i) (mis - 1) :=
  .inr ⟨i, by omega, rfl, by omega, fun j h1 h2 => by omega⟩
theorem AtOK.no {P L : Nat → Int} {i : Nat} {at_ mis : Int} (h : AtOK P L i at_ mis) (hn : ¬ L i = mis) : AtOK P L (i + 1) at_ mis := by
  rcases h with h | ⟨p, h1, h2, h3, h4⟩
  · exact .inl h
  · refine .inr ⟨p, by omega, h2, h3, fun j a b => ?_⟩
    rcases Nat.lt_or_ge j i with c | c
    · exact h4 j a c
    · obtain rfl : j = i := by omega
      exact hn
theorem AtOK.lt {P : Nat → Int} {n i : Nat} {at_ mis : Int} (h : AtOK P (lrA P n) i at_ mis) (hi : i < n) (hp : 0 ≤ P i) (he : lrA P n i = mis) : at_ < P i := by
  rcases h with h | ⟨p, h1, h2, h3, h4⟩
  · omega
  · have hm : 1 ≤ mis := by rw [← he]; exact lrA_pos P n i hi
    obtain ⟨j, a, b, c, d⟩ := lrA_next P n p mis (by omega) hm h3
    have hij : i ≤ j := by
      rcases Nat.lt_or_ge j i with e | e
      · exact absurd d (h4 j a e)
      · exact e
    rcases Nat.eq_or_lt_of_le hij with rfl | hlt
    · omega
    · rcases Int.lt_or_le (P p) (P i) with e | e
      · omega
      · have := lrA_more P n i j b hlt (by omega)
        omega
end Go.Proofs.Ytlbomopjldhmeaa

namespace Go.Proofs.Ytlbomopjldhmeaa
set_option linter.unusedSimpArgs false
set_option linter.unusedVariables false
open Go.RowKit
/-- The places that the keys of one list have in another one. -/
def plF (xs K : List Int) : Nat → Int := fun j => plc xs (K.getD j 0)
def lenF (xs K : List Int) : Nat → Int := lrA (plF xs K) K.length
/-- The keys that stay. -/
def stK (xs ys : List Int) : List Int :=
  (keep (fun j => (inK ys xs).getD j 0) (lenF xs (inK ys xs)) (mst (lenF xs (inK ys xs)) (inK ys xs).length) (inK ys xs).length).1
theorem plc_in (l : List Int) (x : Int) (h : x ∈ l) : 0 ≤ plc l x := by
  have := plc_ge l x
  rw [decide_eq_true h] at this
  simpa using this
end Go.Proofs.Ytlbomopjldhmeaa

namespace Go.Proofs.Ytlbomopjldhmeaa
set_option linter.unusedSimpArgs false
set_option linter.unusedVariables false
open Go.RowKit
end Go.Proofs.Ytlbomopjldhmeaa

namespace Go.Proofs.Ytlbomopjldhmeaa
set_option linter.unusedSimpArgs false
set_option linter.unusedVariables false
open Go.RowKit
/-- A row: its key, its number. -/
structure Rk where
  k : Int
  a : Int
deriving DecidableEq, Inhabited
def Rk.cells (p : Rk) : List Value := [.int .i64 p.k, .int .i64 p.a]
/-- The slice at A reads as the acts ps; it lies below block B. -/
def WS (w : World) (B : Nat) (A : Option Addr) (ps : List Rk) : Prop :=
  0 < ps.length → ∃ b off, A = some ⟨b, off, none⟩ ∧ b < B ∧ ∀ j, j < ps.length →
    w.cell? ⟨b, off + j * 2, none⟩ = some (.int .i64 (ps.getD j default).k) ∧ w.cell? ⟨b, off + j * 2 + 1, none⟩ = some (.int .i64 (ps.getD j default).a)
theorem WS.keep {w w' : World} {B : Nat} {A : Option Addr} {ps : List Rk} (h : WS w B A ps) (hk : ∀ p : Addr, p.block < B → w'.cell? p = w.cell? p) : WS w' B A ps := by
  intro hn
  obtain ⟨b, off, e, hb, hc⟩ := h hn
  refine ⟨b, off, e, hb, fun j hj => ?_⟩
  obtain ⟨h0, h1⟩ := hc j hj
  exact ⟨(hk _ hb).trans h0, (hk _ hb).trans h1⟩
theorem WS.more {w : World} {B B' : Nat} {A : Option Addr} {ps : List Rk} (h : WS w B A ps) (hB : B ≤ B') : WS w B' A ps := by
  intro hn
  obtain ⟨b, off, e, hb, hc⟩ := h hn
  exact ⟨b, off, e, by omega, hc⟩
theorem WS.below {w w' : World} {B C : Nat} {A : Option Addr} {ps : List Rk} (h : WS w B A ps) (hb : Below C w w') (hC : B ≤ C) : WS w' B A ps :=
  h.keep fun _ hp => hb.cell (Nat.lt_of_lt_of_le hp hC)
theorem WS.alloc {w : World} {B : Nat} {A : Option Addr} {ps : List Rk} (h : WS w B A ps) (hB : B ≤ w.heap.size) (o : Obj) : WS (w.alloc o) B A ps :=
  h.keep fun p hp => World.cell?_alloc_lt w o p (by omega)
theorem WS.nil (w : World) (B : Nat) (A : Option Addr) : WS w B A [] := fun h => absurd h (by simp)
theorem WS.step {A : Option Addr} {ps : List Rk} {wk wl : World} (h : WS wk wk.heap.size A ps) (hb : Below wk.heap.size wk wl) : WS wl wl.heap.size A ps := (h.below hb (Nat.le_refl _)).more hb.size
theorem WS.loc (B : Nat) (A : Option Addr) (ps : List Rk) : Loc 0 B fun w => WS w B A ps :=
  fun w w' h hk => h.keep fun p hp => World.cell?_of_block (hk p.block (Nat.zero_le _) hp)
theorem length_rcells (ps : List Rk) : (ps.flatMap Rk.cells).length = ps.length * 2 := by
  induction ps with
  | nil => rfl
  | cons p l ih => simp [List.flatMap_cons, ih, Rk.cells]; omega
theorem rcells_get (ps : List Rk) (j : Nat) (h : j < ps.length) : (ps.flatMap Rk.cells)[j * 2]? = some (.int .i64 (ps.getD j default).k) ∧ (ps.flatMap Rk.cells)[j * 2 + 1]? = some (.int .i64 (ps.getD j default).a) := by
  induction ps generalizing j with
  | nil => simp at h
  | cons p l ih =>
    have e : (p :: l).flatMap Rk.cells = p.cells ++ l.flatMap Rk.cells := by simp [List.flatMap_cons]
    rw [e]
    match j with
    | 0 => simp [Rk.cells]
    | j + 1 =>
      have hj : j < l.length := by simpa using h
      have hc : p.cells.length = 2 := rfl
      obtain ⟨a0, a1⟩ := ih j hj
      have s (d : Nat) : (p.cells ++ l.flatMap Rk.cells)[(j + 1) * 2 + d]? = (l.flatMap Rk.cells)[j * 2 + d]? := by
        rw [List.getElem?_append_right (by omega), hc]; congr 1; omega
      have s0 := s 0
      simp only [Nat.add_zero] at s0
      rw [s0, s 1]
      simpa using ⟨a0, a1⟩
theorem WS.of_own {w : World} {base e n c : Nat} {A : Option Addr} {ps : List Rk} (h : w.ownsRow base e 2 (.slice A n c) n (ps.flatMap Rk.cells)) : WS w w.heap.size A ps := by
  intro hn
  have hl : ps.length = n := by have := h.1; rw [length_rcells] at this; omega
  rcases h.2 with ⟨_, h0⟩ | ⟨g, cap, cur, hv, _, hh, _⟩
  · omega
  · simp only [Value.slice.injEq] at hv
    obtain ⟨rfl, _, rfl⟩ := hv
    have hg : g < w.heap.size := by
      rcases Nat.lt_or_ge g w.heap.size with hlt | hge
      · exact hlt
      · rw [Array.getElem?_eq_none hge] at hh; cases hh
    refine ⟨g, 0, rfl, hg, fun j hj => ?_⟩
    obtain ⟨a0, a1⟩ := rcells_get ps j hj
    simp only [Nat.zero_add]
    rw [h.cellAt _ (by omega), h.cellAt _ (by omega)]
    exact ⟨a0, a1⟩
theorem OwR.rowsW {lo hi : Nat} {n c : Nat} {A : Option Addr} {ps : List Rk} {w : World} (h : OwR lo hi 53 2 (.slice A n c) n (ps.flatMap Rk.cells) w) : WS w hi A ps := by
  intro hn
  obtain ⟨b, off, rfl, _, hc⟩ := WS.of_own h.1 hn
  exact ⟨b, off, rfl, h.2 b rfl, hc⟩
theorem As.rows {lo hi n c : Nat} {A : Option Addr} {ps : List Rk} {w : World} (h : As lo hi (OwR lo hi 53 2 (.slice A n c) n (ps.flatMap Rk.cells)) w) : WS w w.heap.size A ps := h.it.rowsW.more h.le
end Go.Proofs.Ytlbomopjldhmeaa

namespace Go.Proofs.Ytlbomopjldhmeaa
set_option linter.unusedSimpArgs false
set_option linter.unusedVariables false
open Go.RowKit
theorem WS.at_ {w : World} {B : Nat} {A : Option Addr} {ps : List Rk} (h : WS w B A ps) (k : Nat) (hk : k < ps.length) : ∃ b off, A = some ⟨b, off, none⟩ ∧ b < B ∧ w.cell? ⟨b, off + k * 2, none⟩ = some (.int .i64 (ps.getD k default).k) ∧ w.cell? ⟨b, off + k * 2 + 1, none⟩ = some (.int .i64 (ps.getD k default).a) := by
  obtain ⟨b, off, e, hb, hc⟩ := h (by omega)
  exact ⟨b, off, e, hb, hc k hk⟩
end Go.Proofs.Ytlbomopjldhmeaa

namespace Go.Proofs.Ytlbomopjldhmeaa
set_option linter.unusedSimpArgs false
set_option linter.unusedVariables false
open Go.RowKit Go.Shelf
attribute [local go_sem] Oper.semAt_some
/-- The rounds: numbers below n; the first k of them. -/
abbrev Below' (n : Nat) := { k : Nat // k < n }
def sub (n k : Nat) : List (Below' n) := (List.range k).filterMap fun j => if h : j < n then some ⟨j, h⟩ else none
end Go.Proofs.Ytlbomopjldhmeaa

namespace Go.Proofs.Ytlbomopjldhmeaa
set_option linter.unusedSimpArgs false
set_option linter.unusedVariables false
open Go.RowKit
/-- The slice value reads the first n cells of an own row, that are xs. -/
def OwK (lo hi : Nat) (v : Value) (n : Nat) (xs : List Value) (w : World) : Prop :=
  xs.length = n ∧ ((v = .slice none 0 0 ∧ n = 0) ∨ ∃ g c m c' ys, v = .slice (some ⟨g, 0, none⟩) n c ∧ n ≤ c ∧ w.ownsRow lo 3 1 (.slice (some ⟨g, 0, none⟩) m c') m ys ∧ g < hi ∧ n ≤ m ∧ ys.take n = xs)
theorem OwK.form {lo hi n : Nat} {v : Value} {xs : List Value} {w : World} (h : OwK lo hi v n xs w) : ∃ A c, v = .slice A n c := by
  rcases h.2 with ⟨rfl, rfl⟩ | ⟨g, c, _, _, _, rfl, _⟩
  · exact ⟨none, 0, rfl⟩
  · exact ⟨_, _, rfl⟩
theorem OwK.keep {lo hi n : Nat} {v : Value} {xs : List Value} {w w' : World} (h : OwK lo hi v n xs w) (hk : ∀ k, lo ≤ k → k < hi → w'.heap[k]? = w.heap[k]?) : OwK lo hi v n xs w' := by
  refine ⟨h.1, ?_⟩
  rcases h.2 with hn | ⟨g, c, m, c', ys, rfl, hc, ho, hg, hm, ht⟩
  · exact .inl hn
  · have := (OwR.keep (⟨ho, fun k e => by cases e; exact hg⟩ : OwR lo hi 3 1 (.slice (some ⟨g, 0, none⟩) m c') m ys w) hk).1
    exact .inr ⟨g, c, m, c', ys, rfl, hc, this, hg, hm, ht⟩
theorem OwK.loc (lo hi : Nat) (v : Value) (n : Nat) (xs : List Value) : Loc lo hi (OwK lo hi v n xs) := fun w w' h hk => h.keep hk
theorem OwK.mono {lo hi lo' hi' n : Nat} {v : Value} {xs : List Value} {w : World} (h : OwK lo hi v n xs w) (h1 : lo' ≤ lo) (h2 : hi ≤ hi') : OwK lo' hi' v n xs w := by
  refine ⟨h.1, ?_⟩
  rcases h.2 with hn | ⟨g, c, m, c', ys, rfl, hc, ho, hg, hm, ht⟩
  · exact .inl hn
  · exact .inr ⟨g, c, m, c', ys, rfl, hc, own_mono ho h1, by omega, hm, ht⟩
theorem OwK.of_own {lo : Nat} {v : Value} {xs : List Int} {w : World} (h : OwnI w lo v xs) : OwK lo w.heap.size v xs.length (xs.map (Value.int .i64)) w := by
  refine ⟨by simp, ?_⟩
  rcases h.2 with ⟨rfl, h0⟩ | ⟨g, cap, cur, rfl, hb, hg, hc, hr⟩
  · exact .inl ⟨rfl, h0⟩
  · exact .inr ⟨g, cap, xs.length, cap, xs.map (Value.int .i64), rfl, hc, h, (World.ownsRow.lt h g rfl).2, Nat.le_refl _, List.take_of_length_le (by simp)⟩
theorem OwK.ints {lo hi n c : Nat} {A : Option Addr} {xs : List Int} {w : World} (h : OwK lo hi (.slice A n c) n (xs.map (Value.int .i64)) w) : IS w hi A xs := by
  intro hn
  have hl : xs.length = n := by simpa using h.1
  rcases h.2 with ⟨hv, h0⟩ | ⟨g, c', m, c2, ys, hv, _, ho, hg, hm, ht⟩
  · omega
  · simp only [Value.slice.injEq] at hv
    obtain ⟨rfl, _, _⟩ := hv
    refine ⟨g, 0, rfl, hg, fun j hj => ?_⟩
    have hyl : ys.length = m * 1 := ho.1
    rw [ho.cellAt (0 + j) (by omega)]
    have e : (ys.take n)[j]? = (xs.map (Value.int .i64))[j]? := by rw [ht]
    rw [List.getElem?_take, if_pos (by omega)] at e
    rw [Nat.zero_add, e]
    simp [List.getD, hj]
theorem OwK.cap {lo hi n c : Nat} {A : Option Addr} {xs : List Value} {w : World} (h : OwK lo hi (.slice A n c) n xs w) : n ≤ c := by
  rcases h.2 with ⟨hv, h0⟩ | ⟨g, c', m, c2, ys, hv, hc, _⟩
  · omega
  · simp only [Value.slice.injEq] at hv
    obtain ⟨_, _, rfl⟩ := hv
    exact hc
theorem As.kept {lo hi n c : Nat} {A : Option Addr} {xs : List Int} {w : World} (h : As lo hi (OwK lo hi (.slice A n c) n (xs.map (Value.int .i64))) w) : IS w w.heap.size A xs := h.it.ints.more h.le
end Go.Proofs.Ytlbomopjldhmeaa

namespace Go.Proofs.Ytlbomopjldhmeaa
set_option linter.unusedSimpArgs false
set_option linter.unusedVariables false
/-- What is kept: some of the places, rising; and no less than there may be. -/
structure KpI (X P : Nat → Int) (n : Nat) (m : Int) (k : Nat) (J : List Nat) : Prop where
  eq : (keep X (lrA P n) m k).1 = J.map X
  rise : J.Pairwise fun i j => i < j ∧ P i < P j
  lt : ∀ j ∈ J, j < k
  last : AtOK P (lrA P n) k ((J.map P).getLastD (-1)) (keep X (lrA P n) m k).2
  none : J = [] → ∀ j, j < k → lrA P n j ≠ m
  some : J ≠ [] → ∃ p, (J.map P).getLastD (-1) = P p ∧ p ∈ J ∧ lrA P n p = (keep X (lrA P n) m k).2 + 1 ∧ ∀ j, p < j → j < k → lrA P n j ≠ (keep X (lrA P n) m k).2
  up : ∀ j ∈ J, P j ≤ (J.map P).getLastD (-1)
theorem keep_idx (X P : Nat → Int) (n : Nat) (m : Int) (hP : ∀ j, j < n → 0 ≤ P j) (k : Nat) (hk : k ≤ n) : ∃ J, KpI X P n m k J := by
  induction k with
  | zero => exact ⟨[], rfl, List.Pairwise.nil, by simp, .inl rfl, by simp, by simp, by simp⟩
  | succ k ih =>
    obtain ⟨J, h⟩ := ih (by omega)
    by_cases hl : lrA P n k = (keep X (lrA P n) m k).2
    · have hlt := h.last.lt (by omega) (hP k (by omega)) hl
      have hle : ((J ++ [k]).map P).getLastD (-1) = P k := by simp
      refine ⟨J ++ [k], ?_, ?_, ?_, ?_, by simp, fun _ => ⟨k, hle, by simp, ?_, fun j h1 h2 => by omega⟩, ?_⟩
      · rw [keep_yes _ _ _ _ hl, h.eq]; simp
      · rw [List.pairwise_append]
        refine ⟨h.rise, by simp, fun i hi j hj => ?_⟩
        simp at hj
        subst hj
        exact ⟨h.lt i hi, Int.lt_of_le_of_lt (h.up i hi) hlt⟩
      · intro j hj
        rw [List.mem_append] at hj
        rcases hj with hj | hj
        · have := h.lt j hj; omega
        · simp at hj; omega
      · rw [hle, keep_yes _ _ _ _ hl]
        exact AtOK.yes (at_ := 0) hl
      · rw [keep_yes _ _ _ _ hl]; dsimp only; omega
      · intro j hj
        rw [hle]
        rw [List.mem_append] at hj
        rcases hj with hj | hj
        · have := h.up j hj; omega
        · simp at hj; subst hj; exact Int.le_refl _
    · refine ⟨J, by rw [keep_no _ _ _ _ hl]; exact h.eq, h.rise, fun j hj => by have := h.lt j hj; omega, by rw [keep_no _ _ _ _ hl]; exact h.last.no hl, ?_, ?_, h.up⟩
      · intro hJ j hj
        rcases Nat.lt_or_ge j k with h1 | h1
        · exact h.none hJ j h1
        · obtain rfl : j = k := by omega
          have h2 := (keep_bd X (lrA P n) m j).2
          rw [h.eq, hJ] at h2
          simp at h2
          rw [← h2]; exact hl
      · intro hJ
        obtain ⟨p, e1, e2, e3, e4⟩ := h.some hJ
        rw [keep_no _ _ _ _ hl]
        refine ⟨p, e1, e2, e3, fun j h1 h2 => ?_⟩
        rcases Nat.lt_or_ge j k with h3 | h3
        · exact e4 j h1 h3
        · obtain rfl : j = k := by omega
          exact hl
/-- Keys that are in both lists, in the order of both. -/
def Ris (a b S : List Int) : Prop := S.Pairwise (fun x y => plc a x < plc a y ∧ plc b x < plc b y) ∧ ∀ x ∈ S, x ∈ a ∧ x ∈ b
theorem Ris.symm {a b S : List Int} (h : Ris a b S) : Ris b a S := ⟨h.1.imp fun h => ⟨h.2, h.1⟩, fun x hx => ⟨(h.2 x hx).2, (h.2 x hx).1⟩⟩
theorem plc_nd (l : List Int) (h : l.Nodup) (k : Nat) (hk : k < l.length) : plc l (l.getD k 0) = k := by
  refine plc_at l _ k hk rfl fun j hj e => ?_
  have h1 : l[j] = l[k] := by simpa [List.getD, hk, show j < l.length by omega] using e
  have := (List.getElem_inj h).1 h1
  omega
theorem plc_pw (l : List Int) (h : l.Nodup) : l.Pairwise fun x y => plc l x < plc l y := by
  rw [List.pairwise_iff_getElem]
  intro i j hi hj hij
  have h1 := plc_nd l h i hi
  have h2 := plc_nd l h j hj
  simp only [List.getD, List.getElem?_eq_getElem hi, List.getElem?_eq_getElem hj, Option.getD_some] at h1 h2
  rw [h1, h2]
  omega
theorem inK_sub (xs ys : List Int) : (inK ys xs).Sublist ys := List.filter_sublist
theorem mem_inK (xs ys : List Int) (x : Int) : x ∈ inK ys xs ↔ x ∈ ys ∧ x ∈ xs := by unfold inK; simp [List.mem_filter]
theorem getD_memI (l : List Int) (i : Nat) (h : i < l.length) : l.getD i 0 ∈ l := by
  rw [List.getD_eq_getElem?_getD, List.getElem?_eq_getElem h]; exact List.getElem_mem _
theorem pw_getD {l : List Int} {R : Int → Int → Prop} (h : l.Pairwise R) (i j : Nat) (hij : i < j) (hj : j < l.length) : R (l.getD i 0) (l.getD j 0) := by
  have := List.pairwise_iff_getElem.1 h i j (by omega) hj hij
  simpa [List.getD, List.getElem?_eq_getElem hj, List.getElem?_eq_getElem (show i < l.length by omega)] using this
theorem stK_Ris (xs ys : List Int) (hy : ys.Nodup) : Ris xs ys (stK xs ys) := by
  have hKp := (plc_pw ys hy).sublist (inK_sub xs ys)
  unfold stK
  generalize hK : inK ys xs = K at *
  have hmem : ∀ j, j < K.length → K.getD j 0 ∈ xs ∧ K.getD j 0 ∈ ys := fun j hj => by
    have := getD_memI K j hj
    rw [← hK, mem_inK] at this
    rw [← hK]; exact ⟨this.2, this.1⟩
  have hP : ∀ j, j < K.length → 0 ≤ plF xs K j := fun j hj => plc_in _ _ (hmem j hj).1
  obtain ⟨J, h⟩ := keep_idx (fun j => K.getD j 0) (plF xs K) K.length (mst (lenF xs K) K.length) hP K.length (Nat.le_refl _)
  have he : (keep (fun j => K.getD j 0) (lenF xs K) (mst (lenF xs K) K.length) K.length).1 = J.map fun j => K.getD j 0 := h.eq
  rw [he]
  refine ⟨?_, fun x hx => ?_⟩
  · rw [List.pairwise_map]
    refine h.rise.imp_of_mem fun {i j} hi hj hij => ⟨hij.2, pw_getD hKp i j hij.1 (h.lt j hj)⟩
  · obtain ⟨j, hj, rfl⟩ := List.mem_map.1 hx
    exact hmem j (h.lt j hj)
/-- A key that fits into the order of both could stay, too. -/
theorem Ris.more {a b S : List Int} {y : Int} (h : Ris a b S) (hy : y ∈ a ∧ y ∈ b) (hne : ∀ x ∈ S, (plc a x < plc a y ∧ plc b x < plc b y) ∨ (plc a y < plc a x ∧ plc b y < plc b x)) : ∃ T, Ris a b T ∧ T.length = S.length + 1 ∧ ∀ z ∈ T, z = y ∨ z ∈ S := by
  induction S with
  | nil => exact ⟨[y], ⟨by simp, by simpa using hy⟩, rfl, by simp⟩
  | cons x S ih =>
    have hp := List.pairwise_cons.1 h.1
    rcases hne x (by simp) with h1 | h1
    · obtain ⟨T, hT, hl, hm⟩ := ih ⟨hp.2, fun z hz => h.2 z (by simp [hz])⟩ fun z hz => hne z (by simp [hz])
      refine ⟨x :: T, ⟨?_, ?_⟩, by simp [hl], ?_⟩
      · rw [List.pairwise_cons]
        refine ⟨fun z hz => ?_, hT.1⟩
        rcases hm z hz with rfl | hz
        · exact h1
        · exact hp.1 z hz
      · intro z hz
        rcases List.mem_cons.1 hz with rfl | hz
        · exact h.2 z (by simp)
        · exact hT.2 z hz
      · intro z hz
        rcases List.mem_cons.1 hz with rfl | hz
        · simp
        · rcases hm z hz with rfl | hz
          · simp
          · simp [hz]
    · refine ⟨y :: x :: S, ⟨?_, ?_⟩, by simp, by simp⟩
      · rw [List.pairwise_cons]
        refine ⟨fun z hz => ?_, h.1⟩
        rcases List.mem_cons.1 hz with rfl | hz
        · exact h1
        · have := hp.1 z hz; omega
      · intro z hz
        rcases List.mem_cons.1 hz with rfl | hz
        · exact hy
        · exact h.2 z hz
end Go.Proofs.Ytlbomopjldhmeaa

namespace Go.Proofs.Ytlbomopjldhmeaa
set_option linter.unusedSimpArgs false
set_option linter.unusedVariables false
open Go.RowKit
/-- The keys that are taken away, from the last one to the first one. -/
def pt1 (G : List Int) (k : Nat) : List Ac := (List.range k).map fun j => ⟨0, G.getD (G.length - 1 - j) 0, -1⟩
theorem pt1_len (G : List Int) (k : Nat) : (pt1 G k).length = k := by simp [pt1]
/-- The key ahead. -/
def prevK (ys : List Int) : Nat → Int
  | 0 => -1
  | k + 1 => ys.getD k 0
/-- What is put in and moved, of the first k keys. -/
def pt2 (xs st ys : List Int) : Nat → List Ac
  | 0 => []
  | k + 1 => if ys.getD k 0 ∈ xs then (if ys.getD k 0 ∈ st then pt2 xs st ys k else pt2 xs st ys k ++ [⟨2, ys.getD k 0, prevK ys k⟩]) else pt2 xs st ys k ++ [⟨1, ys.getD k 0, prevK ys k⟩]
theorem pt2_len (xs st ys : List Int) (k : Nat) : (pt2 xs st ys k).length ≤ k := by
  induction k with
  | zero => exact Nat.le_refl _
  | succ k ih =>
    unfold pt2
    split
    · split
      · omega
      · simp; omega
    · simp; omega
theorem pt2_new (xs st ys : List Int) (k : Nat) (h : ¬ ys.getD k 0 ∈ xs) : pt2 xs st ys (k + 1) = pt2 xs st ys k ++ [⟨1, ys.getD k 0, prevK ys k⟩] := by
  show (if _ then _ else _) = _
  rw [if_neg h]
theorem pt2_move (xs st ys : List Int) (k : Nat) (h : ys.getD k 0 ∈ xs) (h2 : ¬ ys.getD k 0 ∈ st) : pt2 xs st ys (k + 1) = pt2 xs st ys k ++ [⟨2, ys.getD k 0, prevK ys k⟩] := by
  show (if _ then (if _ then _ else _) else _) = _
  rw [if_pos h, if_neg h2]
theorem pt2_stay (xs st ys : List Int) (k : Nat) (h : ys.getD k 0 ∈ xs) (h2 : ys.getD k 0 ∈ st) : pt2 xs st ys (k + 1) = pt2 xs st ys k := by
  show (if _ then (if _ then _ else _) else _) = _
  rw [if_pos h, if_pos h2]
/-- All changes. -/
def patchK (xs ys : List Int) : List Ac := pt1 (notK xs ys) (notK xs ys).length ++ pt2 xs (stK xs ys) ys ys.length
theorem patchK_len (xs ys : List Int) : (patchK xs ys).length ≤ xs.length + ys.length := by
  unfold patchK
  rw [List.length_append, pt1_len]
  have := notK_len xs ys
  have := pt2_len xs (stK xs ys) ys ys.length
  omega
def patchF (xs ys : List Int) : List Ac := if bothK xs ys then patchK xs ys else []
theorem patchF_len (xs ys : List Int) : (patchF xs ys).length ≤ 20 := by
  unfold patchF
  split
  · rename_i h
    have h1 := validK_len _ (bothK_parts _ _ h).1
    have h2 := validK_len _ (bothK_parts _ _ h).2
    have := patchK_len xs ys
    omega
  · simp
end Go.Proofs.Ytlbomopjldhmeaa

namespace Go.Proofs.Ytlbomopjldhmeaa
set_option linter.unusedSimpArgs false
set_option linter.unusedVariables false
open Go.RowKit Go.Shelf
attribute [local go_sem] Oper.semAt_some
theorem OwK.alloc {lo hi n : Nat} {v : Value} {xs : List Value} {w : World} (h : OwK lo hi v n xs w) (hh : hi ≤ w.heap.size) (o : Obj) : OwK lo hi v n xs (w.alloc o) :=
  h.keep fun k _ hk => Below.heap_alloc w o k (Nat.lt_of_lt_of_le hk hh)
end Go.Proofs.Ytlbomopjldhmeaa

namespace Go.Proofs.Ytlbomopjldhmeaa
set_option linter.unusedSimpArgs false
set_option linter.unusedVariables false
/-- Keys in the order of a list, and all of them, are the list. -/
theorem eq_of_plc {l s : List Int} (hl : l.Nodup) (hp : s.Pairwise fun x y => plc l x < plc l y) (hm : ∀ x ∈ s, x ∈ l) (hn : l.length ≤ s.length) : s = l := by
  have hs : s.Nodup := by
    rw [List.nodup_iff_pairwise_ne]
    exact hp.imp fun h e => by subst e; exact Int.lt_irrefl _ h
  have hperm : s.Perm l := by
    rw [List.perm_iff_count]
    intro x
    by_cases h : x ∈ s
    · rw [hs.count, hl.count, if_pos h, if_pos (hm x h)]
    · have h2 : x ∉ l := fun hx => by
        have : (x :: s).Nodup := List.nodup_cons.2 ⟨h, hs⟩
        have := this.length_le_of_subset (l₂ := l) fun z hz => by
          rcases List.mem_cons.1 hz with rfl | hz
          · exact hx
          · exact hm z hz
        simp at this; omega
      rw [hs.count, hl.count, if_neg h, if_neg h2]
  exact List.Perm.eq_of_pairwise (fun a b _ _ h1 h2 => by have := Int.lt_trans h1 h2; omega) hp (plc_pw l hl) hperm
end Go.Proofs.Ytlbomopjldhmeaa
