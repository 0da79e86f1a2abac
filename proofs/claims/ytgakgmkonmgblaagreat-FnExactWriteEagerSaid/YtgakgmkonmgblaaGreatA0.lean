/- Words and contracts for memory that the texts behind use. -/
import Derived.WalkKit
import Derived.Laws.OwnMore
import Derived.Deep.Draws
import Derived.Test.YtgakgmkonmgblaaGreatProg
import Derived.WalkSpells
import Derived.WalkLawsBesides
import Derived.Outline
import Derived.Lib.Hide
import Derived.BigQuiet
import Derived.Deep.QuietTactic
import Derived.StillTailTactics
import Derived.Deep.LoopGhost
import Derived.Laws.MakeOwn
import Derived.WalkSmall
import Derived.RegionTactic
import Derived.BigRegion
import Derived.Deep.RegionWith
import Derived.Deep.RegionHeld3
import Derived.Maps.AppendAt
import Derived.Laws.CopyOwn
import Derived.Laws.Entries
import Derived.Laws.Bits64
import Derived.IntWalk
import Derived.Deep.RegionLaw
import Derived.Deep.AppendLies
import Derived.Deep.Cut
import Derived.Deep.DeepCutAuto
import Derived.Maps.Own
import Derived.Maps.Views
import Derived.ChangeAlike

namespace Go.Proofs.YtgakgmkonmgblaaGreat
set_option linter.unusedSimpArgs false
set_option linter.unusedVariables false
open Go.RowKit
/-- A part of a formula. -/
structure Pt where
  k : Int
  a : Int
  b : Int
  c : Int
  n : Int
deriving DecidableEq, Inhabited
def Pt.cells (p : Pt) : List Value := [.int .i64 p.k, .int .i64 p.a, .int .i64 p.b, .int .i64 p.c, .int .i64 p.n]
end Go.Proofs.YtgakgmkonmgblaaGreat

namespace Go.Proofs.YtgakgmkonmgblaaGreat
set_option linter.unusedSimpArgs false
set_option linter.unusedVariables false
open Go.RowKit
/-- Whether a number is in a range. -/
def rng (n lo hi : Int) : Bool := decide (lo ≤ n ∧ n ≤ hi)
/-- How many parts a kind has below. -/
def ar (k : Int) : Int := if k = 0 ∨ k = 1 then 0 else if 2 ≤ k ∧ k ≤ 7 then 2 else if k = 8 then 3 else -1
end Go.Proofs.YtgakgmkonmgblaaGreat

namespace Go.Proofs.YtgakgmkonmgblaaGreat
set_option linter.unusedSimpArgs false
set_option linter.unusedVariables false
open Go.RowKit
def bel (p : Pt) : List Int := if ar p.k = 2 then [p.a, p.b] else if ar p.k = 3 then [p.a, p.b, p.c] else []
def goodPt (p : Pt) (i : Int) : Bool :=
  if ar p.k == 0 then p.a == -1 && p.b == -1 && p.c == -1 && rng p.n 0 (if p.k == 1 then 9 else 99)
  else if ar p.k == 2 then rng p.a 0 (i - 1) && rng p.b 0 (i - 1) && p.c == -1 && p.n == 0
  else if ar p.k == 3 then rng p.a 0 (i - 1) && rng p.b 0 (i - 1) && rng p.c 0 (i - 1) && p.n == 0
  else false
end Go.Proofs.YtgakgmkonmgblaaGreat

namespace Go.Proofs.YtgakgmkonmgblaaGreat
set_option linter.unusedSimpArgs false
set_option linter.unusedVariables false
open Go.RowKit
def allR (l : List Int) (lo hi : Int) : Bool := l.all fun x => rng x lo hi
end Go.Proofs.YtgakgmkonmgblaaGreat

namespace Go.Proofs.YtgakgmkonmgblaaGreat
set_option linter.unusedSimpArgs false
set_option linter.unusedVariables false
open Go.RowKit
/-- The formula is valid, as the model reckons it. -/
def validF (ps : List Pt) : Bool :=
  decide (∀ i, i < ps.length → goodPt (ps.getD i default) i = true) && decide (∀ i, i < ps.length - 1 → (ps.flatMap bel).count (i : Int) = 1) && rng ps.length 1 12
theorem good_bel (p : Pt) (i : Int) (h : goodPt p i = true) : ∀ b ∈ bel p, 0 ≤ b ∧ b ≤ i - 1 := by
  intro b hb
  unfold goodPt at h
  unfold bel at hb
  by_cases h0 : ar p.k = 0
  · simp [h0] at hb
  · by_cases h2 : ar p.k = 2
    · simp [h2, rng] at h hb
      omega
    · by_cases h3 : ar p.k = 3
      · simp [h3, rng] at h hb
        omega
      · simp [h0, h2, h3] at h
end Go.Proofs.YtgakgmkonmgblaaGreat

namespace Go.Proofs.YtgakgmkonmgblaaGreat
set_option linter.unusedSimpArgs false
set_option linter.unusedVariables false
open Go.RowKit
theorem ar_cases (k : Int) : k = 0 ∨ k = 1 ∨ k = 2 ∨ k = 3 ∨ k = 4 ∨ k = 5 ∨ k = 6 ∨ k = 7 ∨ k = 8 ∨ (k < 0 ∨ 8 < k) := by omega
end Go.Proofs.YtgakgmkonmgblaaGreat

namespace Go.Proofs.YtgakgmkonmgblaaGreat
set_option linter.unusedSimpArgs false
set_option linter.unusedVariables false
open Go.RowKit
theorem sum_counts_cons (x : Int) (L : List Int) (m : Nat) : ((List.range m).map fun i : Nat => (x :: L).count (i : Int)).sum = ((List.range m).map fun i : Nat => L.count (i : Int)).sum + if 0 ≤ x ∧ x < m then 1 else 0 := by
  induction m with
  | zero =>
    rw [if_neg (by omega)]; rfl
  | succ m ih =>
    rw [List.range_succ, List.map_append, List.sum_append, ih, List.map_append, List.sum_append]
    simp only [List.map_cons, List.map_nil, List.sum_cons, List.sum_nil, List.count_cons]
    by_cases e : x = (m : Int)
    · subst e
      have e1 : ¬ (0 ≤ (m : Int) ∧ (m : Int) < (m : Int)) := by omega
      have e2 : 0 ≤ (m : Int) ∧ (m : Int) < ((m + 1 : Nat) : Int) := by omega
      rw [if_neg e1, if_pos e2]
      simp; omega
    · have : ((x == (m : Int)) = true) = False := by simp [e]
      simp only [this, if_false]
      by_cases h : 0 ≤ x ∧ x < (m : Int)
      · rw [if_pos h, if_pos (by omega)]; omega
      · rw [if_neg h, if_neg (by omega)]; omega
theorem sum_counts (L : List Int) (m : Nat) (h : ∀ x ∈ L, 0 ≤ x ∧ x < (m : Int)) : ((List.range m).map fun i : Nat => L.count (i : Int)).sum = L.length := by
  induction L with
  | nil =>
    clear h
    induction m with
    | zero => rfl
    | succ m ih => rw [List.range_succ, List.map_append, List.sum_append, ih]; simp
  | cons x L ih =>
    rw [sum_counts_cons, ih fun y hy => h y (List.mem_cons_of_mem _ hy), if_pos (h x List.mem_cons_self)]; simp
theorem sum_ones (f : Nat → Nat) (m : Nat) (h : ∀ i, i < m → f i ≤ 1) : ((List.range m).map f).sum ≤ m ∧ (((List.range m).map f).sum = m ↔ ∀ i, i < m → f i = 1) := by
  induction m with
  | zero => simp
  | succ m ih =>
    obtain ⟨h1, h2⟩ := ih fun i hi => h i (by omega)
    have h3 := h m (by omega)
    rw [List.range_succ, List.map_append, List.sum_append]
    simp only [List.map_cons, List.map_nil, List.sum_cons, List.sum_nil]
    refine ⟨by omega, fun e => ?_, fun e => ?_⟩
    · have hm : ((List.range m).map f).sum = m := by omega
      have := h2.1 hm
      intro i hi
      rcases Nat.lt_or_ge i m with hlt | hge
      · exact this i hlt
      · obtain rfl : i = m := by omega
        omega
    · have := h2.2 fun i hi => e i (by omega)
      have := e m (by omega)
      omega
end Go.Proofs.YtgakgmkonmgblaaGreat

namespace Go.Proofs.YtgakgmkonmgblaaGreat
set_option linter.unusedSimpArgs false
set_option linter.unusedVariables false
open Go.RowKit
/-- Numbers without those that came before. -/
def firsts (l : List Int) : List Int := l.foldl (fun acc x => if x ∈ acc then acc else acc ++ [x]) []
/-- The nodes that a formula has, ascending. -/
def hasNode (ps : List Pt) (m : Nat) : Bool := ps.any fun p => p.k == 1 && p.n == (m : Int)
def mayR (ps : List Pt) : List Int := ((List.range 10).filter (hasNode ps)).map fun m : Nat => (m : Int)
end Go.Proofs.YtgakgmkonmgblaaGreat

namespace Go.Proofs.YtgakgmkonmgblaaGreat
set_option linter.unusedSimpArgs false
set_option linter.unusedVariables false
open Go.RowKit
inductive Tm where
  | num (v : Int)
  | rd (v : Int)
  | pr (k : Int) (l r : Tm)
  | ch (t a b : Tm)
/-- The term of the part at an index; the number bounds how deep one goes. -/
def tmAt (ps : List Pt) : Nat → Nat → Tm
  | 0, _ => .num 0
  | f + 1, i =>
    let p := ps.getD i default
    if p.k == 0 then .num p.n
    else if p.k == 1 then .rd p.n
    else if p.k == 8 then .ch (tmAt ps f p.a.toNat) (tmAt ps f p.b.toNat) (tmAt ps f p.c.toNat)
    else .pr p.k (tmAt ps f p.a.toNat) (tmAt ps f p.b.toNat)
/-- All parts are good. -/
def AllGood (ps : List Pt) : Prop := ∀ i, i < ps.length → goodPt (ps.getD i default) i = true
theorem good_bel_nat (p : Pt) (i : Nat) (h : goodPt p i = true) : (2 ≤ p.k ∧ p.k ≤ 7 → ∃ a b : Nat, p.a = a ∧ p.b = b ∧ a < i ∧ b < i) ∧ (p.k = 8 → ∃ a b c : Nat, p.a = a ∧ p.b = b ∧ p.c = c ∧ a < i ∧ b < i ∧ c < i) := by
  have hb := good_bel p i h
  constructor
  · intro hk
    have h2 : ar p.k = 2 := by unfold ar; rw [if_neg (by omega), if_pos hk]
    have h1 : bel p = [p.a, p.b] := by simp [bel, h2]
    rw [h1] at hb
    have ha := hb p.a (by simp)
    have hb' := hb p.b (by simp)
    exact ⟨p.a.toNat, p.b.toNat, by omega, by omega, by omega, by omega⟩
  · intro hk
    have h2 : ar p.k = 3 := by unfold ar; rw [if_neg (by omega), if_neg (by omega), if_pos hk]
    have h1 : bel p = [p.a, p.b, p.c] := by simp [bel, h2]
    rw [h1] at hb
    have ha := hb p.a (by simp)
    have hb' := hb p.b (by simp)
    have hc := hb p.c (by simp)
    exact ⟨p.a.toNat, p.b.toNat, p.c.toNat, by omega, by omega, by omega, by omega, by omega, by omega⟩
theorem good_kind (p : Pt) (i : Int) (h : goodPt p i = true) : p.k = 0 ∨ p.k = 1 ∨ (2 ≤ p.k ∧ p.k ≤ 7) ∨ p.k = 8 := by
  rcases ar_cases p.k with h1 | h1 | h1 | h1 | h1 | h1 | h1 | h1 | h1 | h1
  all_goals try omega
  exfalso
  have ha : ar p.k = -1 := by unfold ar; rw [if_neg (by omega), if_neg (by omega), if_neg (by omega)]
  simp [goodPt, ha] at h
end Go.Proofs.YtgakgmkonmgblaaGreat

namespace Go.Proofs.YtgakgmkonmgblaaGreat
set_option linter.unusedSimpArgs false
set_option linter.unusedVariables false
open Go.RowKit
/-- What a part of two makes of two values. -/
def jn (k x y : Int) : Int :=
  if k == 2 then (x + y) % 1000
  else if k == 3 then (x - y + 1000) % 1000
  else if k == 4 then x * y % 1000
  else if k == 5 then min x y
  else if k == 6 then max x y
  else if x < y then 1 else 0
theorem mul_bd (x y : Int) (hx : 0 ≤ x) (hx' : x ≤ 999) (hy : 0 ≤ y) (hy' : y ≤ 999) : 0 ≤ x * y ∧ x * y ≤ 998001 :=
  ⟨Int.mul_nonneg hx hy, by
    have h1 : x * y ≤ 999 * y := Int.mul_le_mul_of_nonneg_right hx' hy
    omega⟩
theorem jn_bd (k x y : Int) (hx : 0 ≤ x) (hx' : x ≤ 999) (hy : 0 ≤ y) (hy' : y ≤ 999) : 0 ≤ jn k x y ∧ jn k x y ≤ 999 := by
  have := mul_bd x y hx hx' hy hy'
  unfold jn
  (repeat' split) <;> omega
theorem getD_mem' {α : Type} [Inhabited α] (l : List α) (m : Nat) (h : m < l.length) : l.getD m default ∈ l := by
  simp [List.getD, h]
/-- There is a value for each node of the formula. -/
def eachOK (ps : List Pt) (n : Nat) : Bool := ps.all fun p => !(p.k == 1 && decide ((n : Int) ≤ p.n))
/-- The values serve the formula, as impl reckons it. -/
def canEv (ps : List Pt) (vs : List Int) : Bool := validF ps && ((decide (vs.length ≤ 10) && allR vs 0 999) && eachOK ps vs.length)
end Go.Proofs.YtgakgmkonmgblaaGreat

namespace Go.Proofs.YtgakgmkonmgblaaGreat
set_option linter.unusedSimpArgs false
set_option linter.unusedVariables false
open Go.RowKit
def Tm.ev (vs : List Int) : Tm → Int
  | .num v => v
  | .rd v => vs.getD v.toNat 0
  | .pr k l r => jn k (l.ev vs) (r.ev vs)
  | .ch t a b => if t.ev vs == 0 then b.ev vs else a.ev vs
def Tm.rds (vs : List Int) : Tm → List Int
  | .num _ => []
  | .rd v => [v]
  | .pr _ l r => l.rds vs ++ r.rds vs
  | .ch t a b => t.rds vs ++ (if t.ev vs == 0 then b.rds vs else a.rds vs)
def Tm.ok (m : Nat) : Tm → Prop
  | .num v => 0 ≤ v ∧ v ≤ 99
  | .rd v => 0 ≤ v ∧ v < (m : Int)
  | .pr _ l r => l.ok m ∧ r.ok m
  | .ch t a b => t.ok m ∧ a.ok m ∧ b.ok m
/-- All values are in range. -/
def VOK (vs : List Int) : Prop := ∀ j, j < vs.length → 0 ≤ vs.getD j 0 ∧ vs.getD j 0 ≤ 999
theorem Tm.ev_bd (vs : List Int) (hv : VOK vs) (t : Tm) (h : t.ok vs.length) : 0 ≤ t.ev vs ∧ t.ev vs ≤ 999 := by
  induction t with
  | num v => simp only [Tm.ok] at h; simp only [Tm.ev]; omega
  | rd v => simp only [Tm.ok] at h; exact hv _ (by omega)
  | pr k l r hl hr =>
    simp only [Tm.ok] at h
    obtain ⟨a1, a2⟩ := hl h.1
    obtain ⟨b1, b2⟩ := hr h.2
    exact jn_bd _ _ _ a1 a2 b1 b2
  | ch t a b ht ha hb =>
    simp only [Tm.ok] at h
    simp only [Tm.ev]
    split
    · exact hb h.2.2
    · exact ha h.2.1
theorem good_num (p : Pt) (i : Int) (h : goodPt p i = true) : (p.k = 0 → 0 ≤ p.n ∧ p.n ≤ 99) ∧ (p.k = 1 → 0 ≤ p.n ∧ p.n ≤ 9) := by
  constructor
  · intro hk
    have e : ar p.k = 0 := by simp [ar, hk]
    unfold goodPt at h
    rw [e, hk] at h
    simp [rng] at h
    omega
  · intro hk
    have e : ar p.k = 0 := by simp [ar, hk]
    unfold goodPt at h
    rw [e, hk] at h
    simp [rng] at h
    omega
theorem tmAt_eq (ps : List Pt) (f i : Nat) : tmAt ps (f + 1) i = (if (ps.getD i default).k == 0 then .num (ps.getD i default).n else if (ps.getD i default).k == 1 then .rd (ps.getD i default).n
    else if (ps.getD i default).k == 8 then .ch (tmAt ps f (ps.getD i default).a.toNat) (tmAt ps f (ps.getD i default).b.toNat) (tmAt ps f (ps.getD i default).c.toNat)
    else .pr (ps.getD i default).k (tmAt ps f (ps.getD i default).a.toNat) (tmAt ps f (ps.getD i default).b.toNat)) := rfl
theorem tmAt_ok (ps : List Pt) (m : Nat) (hg : AllGood ps) (he : eachOK ps m = true) (f : Nat) : ∀ i, i < f → i < ps.length → (tmAt ps f i).ok m := by
  induction f with
  | zero => intro i hi; omega
  | succ f ih =>
    intro i hif hin
    have hgi := hg i hin
    have hei : ((ps.getD i default).k == 1 && decide ((m : Int) ≤ (ps.getD i default).n)) = false := by
      unfold eachOK at he
      rw [List.all_eq_true] at he
      have := he (ps.getD i default) (getD_mem' ps i hin)
      cases hq : ((ps.getD i default).k == 1 && decide ((m : Int) ≤ (ps.getD i default).n))
      · rfl
      · rw [hq] at this; cases this
    rw [tmAt_eq]
    generalize ps.getD i default = p at *
    rcases good_kind _ _ hgi with h0 | h1 | h2 | h8
    · have := (good_num p i hgi).1 h0
      simp [h0, Tm.ok, this]
    · have := (good_num p i hgi).2 h1
      simp [h1] at hei
      simp [h1, Tm.ok, this, hei]
    · obtain ⟨a, b, ea, eb, la, lb⟩ := (good_bel_nat p i hgi).1 h2
      have k0 : (p.k == 0) = false := by simp only [beq_eq_false_iff_ne, ne_eq]; omega
      have k1 : (p.k == 1) = false := by simp only [beq_eq_false_iff_ne, ne_eq]; omega
      have k8 : (p.k == 8) = false := by simp only [beq_eq_false_iff_ne, ne_eq]; omega
      simp only [k0, k1, k8, Bool.false_eq_true, if_false, Tm.ok]
      exact ⟨ih _ (by omega) (by omega), ih _ (by omega) (by omega)⟩
    · obtain ⟨a, b, c, ea, eb, ec, la, lb, lc⟩ := (good_bel_nat p i hgi).2 h8
      simp only [h8, Tm.ok]
      exact ⟨ih _ (by omega) (by omega), ih _ (by omega) (by omega), ih _ (by omega) (by omega)⟩
end Go.Proofs.YtgakgmkonmgblaaGreat

namespace Go.Proofs.YtgakgmkonmgblaaGreat
set_option linter.unusedSimpArgs false
set_option linter.unusedVariables false
open Go.RowKit
def Tm.deep : Tm → Nat
  | .num _ => 1
  | .rd _ => 1
  | .pr _ l r => max l.deep r.deep + 1
  | .ch t a b => max (max t.deep a.deep) b.deep + 1
theorem validF_good (ps : List Pt) (h : validF ps = true) : AllGood ps ∧ 1 ≤ ps.length ∧ ps.length ≤ 12 := by
  unfold validF rng at h
  simp only [Bool.and_eq_true, decide_eq_true_eq] at h
  exact ⟨h.1.1, by omega, by omega⟩
end Go.Proofs.YtgakgmkonmgblaaGreat

namespace Go.Proofs.YtgakgmkonmgblaaGreat
set_option linter.unusedSimpArgs false
set_option linter.unusedVariables false
open Go.RowKit
theorem mem_mayR (ps : List Pt) (x : Int) : x ∈ mayR ps ↔ ∃ m : Nat, m < 10 ∧ hasNode ps m = true ∧ x = m := by
  unfold mayR
  simp only [List.mem_map, List.mem_filter, List.mem_range]
  constructor
  · rintro ⟨m, ⟨h1, h2⟩, rfl⟩; exact ⟨m, h1, h2, rfl⟩
  · rintro ⟨m, h1, h2, rfl⟩; exact ⟨m, ⟨h1, h2⟩, rfl⟩
theorem allR_VOK (vs : List Int) (h : allR vs 0 999 = true) : VOK vs := by
  intro j hj
  unfold allR at h
  rw [List.all_eq_true] at h
  have := h (vs.getD j 0) (by simp [List.getD, hj])
  simpa [rng] using this
theorem canEv_parts (ps : List Pt) (vs : List Int) (h : canEv ps vs = true) : validF ps = true ∧ VOK vs ∧ vs.length ≤ 10 ∧ eachOK ps vs.length = true := by
  unfold canEv at h
  simp only [Bool.and_eq_true, decide_eq_true_eq] at h
  exact ⟨h.1, allR_VOK vs h.2.1.2, h.2.1.1, h.2.2⟩
/-- The whole of a formula as a term. -/
def whole (ps : List Pt) : Tm := tmAt ps ps.length (ps.length - 1)
/-- What ValueOf answers. -/
def valF (ps : List Pt) (vs : List Int) : Int := if canEv ps vs then (whole ps).ev vs else 0
end Go.Proofs.YtgakgmkonmgblaaGreat

namespace Go.Proofs.YtgakgmkonmgblaaGreat
set_option linter.unusedSimpArgs false
set_option linter.unusedVariables false
open Go.RowKit
/-- A node of a graph: its kind, the parts of its formula. -/
structure Nd where
  k : Int
  ps : List Pt
deriving DecidableEq, Inhabited
end Go.Proofs.YtgakgmkonmgblaaGreat

namespace Go.Proofs.YtgakgmkonmgblaaGreat
set_option linter.unusedSimpArgs false
set_option linter.unusedVariables false
open Go.RowKit
/-- A node ahead of the one at i that is no effect. -/
def rdOK (gs : List Nd) (i : Nat) (x : Int) : Bool := decide (x < (i : Int)) && !((gs.getD x.toNat default).k == 2)
def goodRd (gs : List Nd) (i : Nat) : Bool := (mayR (gs.getD i default).ps).all (rdOK gs i)
def nodeOK (gs : List Nd) (i : Nat) : Bool :=
  if (gs.getD i default).k == 0 then decide ((gs.getD i default).ps.length = 0)
  else if (gs.getD i default).k == 1 then validF (gs.getD i default).ps && goodRd gs i
  else if (gs.getD i default).k == 2 then validF (gs.getD i default).ps && goodRd gs i
  else false
def validG (gs : List Nd) : Bool := decide (∀ i, i < gs.length → nodeOK gs i = true) && decide (gs.length ≤ 10)
theorem validG_parts (gs : List Nd) (h : validG gs = true) : gs.length ≤ 10 ∧ ∀ i, i < gs.length → nodeOK gs i = true := by
  unfold validG at h
  simp only [Bool.and_eq_true, decide_eq_true_eq] at h
  exact ⟨h.2, h.1⟩
theorem nodeOK_cell (gs : List Nd) (i : Nat) (h : nodeOK gs i = true) (hk : ((gs.getD i default).k == 0) = true) : (gs.getD i default).ps = [] := by
  unfold nodeOK at h
  rw [if_pos hk] at h
  exact List.eq_nil_of_length_eq_zero (by simpa using h)
theorem nodeOK_formula (gs : List Nd) (i : Nat) (h : nodeOK gs i = true) (hk : ((gs.getD i default).k == 0) = false) : validF (gs.getD i default).ps = true ∧ goodRd gs i = true := by
  unfold nodeOK at h
  rw [if_neg (by rw [hk]; decide)] at h
  cases h1 : ((gs.getD i default).k == 1)
  · rw [if_neg (by rw [h1]; decide)] at h
    cases h2 : ((gs.getD i default).k == 2)
    · rw [if_neg (by rw [h2]; decide)] at h; cases h
    · rw [if_pos h2] at h; simpa using h
  · rw [if_pos h1] at h; simpa using h
theorem mayR_nil : mayR [] = [] := by
  unfold mayR hasNode
  simp
theorem mem_mayR_bd (ps : List Pt) (x : Int) (h : x ∈ mayR ps) : 0 ≤ x ∧ x < 10 := by
  obtain ⟨m, hm, _, rfl⟩ := (mem_mayR ps x).1 h
  omega
/-- All nodes that a node of a valid graph may read are ahead of it. -/
theorem mayR_ahead (gs : List Nd) (i : Nat) (h : validG gs = true) (hi : i < gs.length) (x : Int) (hx : x ∈ mayR (gs.getD i default).ps) : 0 ≤ x ∧ x < (i : Int) := by
  obtain ⟨h10, hok⟩ := validG_parts gs h
  have hb := mem_mayR_bd _ _ hx
  cases hk : ((gs.getD i default).k == 0)
  · obtain ⟨_, hg⟩ := nodeOK_formula gs i (hok i hi) hk
    unfold goodRd at hg
    rw [List.all_eq_true] at hg
    have := hg x hx
    unfold rdOK at this
    simp only [Bool.and_eq_true, decide_eq_true_eq] at this
    omega
  · rw [nodeOK_cell gs i (hok i hi) hk, mayR_nil] at hx
    cases hx
/-- Values for all nodes ahead are enough for the formula of a node. -/
theorem each_ahead (gs : List Nd) (i m : Nat) (h : validG gs = true) (hi : i < gs.length) (hk : ((gs.getD i default).k == 0) = false) (hm : i ≤ m) : eachOK (gs.getD i default).ps m = true := by
  obtain ⟨h10, hok⟩ := validG_parts gs h
  obtain ⟨hv, hg⟩ := nodeOK_formula gs i (hok i hi) hk
  unfold eachOK
  rw [List.all_eq_true]
  intro p hp
  cases h1 : (p.k == 1)
  · simp
  · obtain ⟨j, hj, rfl⟩ := List.mem_iff_getElem.1 hp
    have hgd := (validF_good _ hv).1 j hj
    have hah := fun x hx => mayR_ahead gs i h hi x hx
    clear hg hok
    generalize gs.getD i default = d at *
    have e : d.ps.getD j default = d.ps[j] := by simp [List.getD, hj]
    rw [e] at hgd
    have hb := (good_num _ _ hgd).2 (by simpa using h1)
    have hx : (d.ps[j]).n ∈ mayR d.ps := by
      rw [mem_mayR]
      refine ⟨(d.ps[j]).n.toNat, by omega, ?_, by omega⟩
      unfold hasNode
      rw [List.any_eq_true]
      exact ⟨_, hp, by simp only [Bool.and_eq_true]; exact ⟨h1, by simp; omega⟩⟩
    have := hah _ hx
    simp
    omega
theorem whole_ok (ps : List Pt) (m : Nat) (hv : validF ps = true) (he : eachOK ps m = true) : (whole ps).ok m := by
  obtain ⟨hg, h1, h12⟩ := validF_good ps hv
  exact tmAt_ok ps m hg he ps.length (ps.length - 1) (by omega) (by omega)
end Go.Proofs.YtgakgmkonmgblaaGreat

namespace Go.Proofs.YtgakgmkonmgblaaGreat
set_option linter.unusedSimpArgs false
set_option linter.unusedVariables false
open Go.RowKit
theorem firsts_inv (P : List Int → Prop) (l : List Int) : ∀ acc : List Int, P acc → (∀ acc x, x ∈ l → P acc → P (if x ∈ acc then acc else acc ++ [x])) → P (l.foldl (fun acc x => if x ∈ acc then acc else acc ++ [x]) acc) := by
  induction l with
  | nil => intro acc h _; exact h
  | cons y l ih => intro acc h hs; exact ih _ (hs acc y List.mem_cons_self h) fun a x hx => hs a x (List.mem_cons_of_mem _ hx)
theorem firsts_bd (l : List Int) (m : Nat) (h : ∀ x ∈ l, ∃ q : Nat, q < m ∧ x = (q : Int)) : (firsts l).length ≤ m := by
  have h1 : (firsts l).Nodup ∧ ∀ x ∈ firsts l, ∃ q : Nat, q < m ∧ x = (q : Int) := by
    refine firsts_inv (fun a => a.Nodup ∧ ∀ x ∈ a, ∃ q : Nat, q < m ∧ x = (q : Int)) l [] ⟨List.nodup_nil, fun x hx => by cases hx⟩ ?_
    intro acc x hx ⟨h2, h3⟩
    split
    · exact ⟨h2, h3⟩
    · rename_i hn
      refine ⟨?_, ?_⟩
      · rw [List.nodup_append]
        refine ⟨h2, by simp, ?_⟩
        intro a ha b hb e
        simp at hb
        subst hb; subst e
        exact hn ha
      · intro y hy
        rcases List.mem_append.mp hy with h4 | h4
        · exact h3 y h4
        · simp at h4; subst h4; exact h y hx
  have h2 := sum_counts (firsts l) m fun x hx => by
    obtain ⟨q, hq, rfl⟩ := h1.2 x hx; omega
  rw [← h2]
  exact (sum_ones (fun i : Nat => (firsts l).count (i : Int)) m fun i _ => List.nodup_iff_count.mp h1.1 _).1
end Go.Proofs.YtgakgmkonmgblaaGreat

namespace Go.Proofs.YtgakgmkonmgblaaGreat
set_option linter.unusedSimpArgs false
set_option linter.unusedVariables false
open Go.RowKit
theorem rds_lt (t : Tm) (vs : List Int) (m : Nat) (h : t.ok m) : ∀ x ∈ t.rds vs, ∃ q : Nat, q < m ∧ x = (q : Int) := by
  induction t with
  | num v => intro x hx; simp [Tm.rds] at hx
  | rd v =>
    intro x hx
    simp [Tm.rds] at hx
    simp only [Tm.ok] at h
    exact ⟨v.toNat, by omega, by omega⟩
  | pr k l r ihl ihr =>
    intro x hx
    simp only [Tm.ok] at h
    simp only [Tm.rds, List.mem_append] at hx
    rcases hx with hx | hx
    · exact ihl h.1 x hx
    · exact ihr h.2 x hx
  | ch a b c iha ihb ihc =>
    intro x hx
    simp only [Tm.ok] at h
    simp only [Tm.rds, List.mem_append] at hx
    rcases hx with hx | hx
    · exact iha h.1 x hx
    · split at hx
      · exact ihc h.2.2 x hx
      · exact ihb h.2.1 x hx
theorem valF_bd (ps : List Pt) (vs : List Int) (h : canEv ps vs = true) : 0 ≤ valF ps vs ∧ valF ps vs < 1000 := by
  obtain ⟨hv, hvo, hl, he⟩ := canEv_parts ps vs h
  have := Tm.ev_bd vs hvo (whole ps) (whole_ok ps vs.length hv he)
  unfold valF
  rw [h]
  simp only [if_true]
  omega
end Go.Proofs.YtgakgmkonmgblaaGreat

namespace Go.Proofs.YtgakgmkonmgblaaGreat
set_option linter.unusedSimpArgs false
set_option linter.unusedVariables false
open Go.RowKit
/-- No more lists, and no longer ones, than a million. -/
def SB (xss : List (List Int)) : Prop := xss.length ≤ 1048576 ∧ ∀ j, (xss.getD j []).length ≤ 1048576
end Go.Proofs.YtgakgmkonmgblaaGreat

namespace Go.Proofs.YtgakgmkonmgblaaGreat
set_option linter.unusedSimpArgs false
set_option linter.unusedVariables false
open Go.RowKit
/-- What a node reads with some values. -/
def depF (gs : List Nd) (vs : List Int) (i : Nat) : List Int := if (gs.getD i default).k == 0 then [] else firsts ((whole (gs.getD i default).ps).rds vs)
end Go.Proofs.YtgakgmkonmgblaaGreat

namespace Go.Proofs.YtgakgmkonmgblaaGreat
set_option linter.unusedSimpArgs false
set_option linter.unusedVariables false
open Go.RowKit
structure Eg where
  vs : List Int
  rs : List (List Int)
deriving DecidableEq, Inhabited
def rowsE (e : Eg) : List (List Int) := e.vs :: e.rs
/-- Some more lists than a million, none longer. -/
def SB2 (xss : List (List Int)) : Prop := xss.length ≤ 2000000 ∧ ∀ j, (xss.getD j []).length ≤ 1048576
/-- No more numbers than a million. -/
def EB (e : Eg) : Prop := e.vs.length ≤ 1048576 ∧ SB e.rs ∧ SB2 (rowsE e) ∧ (e.rs.map List.length).sum ≤ 1048576 ∧ ((rowsE e).map List.length).sum ≤ 1048576
theorem len_le_sum (xss : List (List Int)) (j : Nat) : (xss.getD j []).length ≤ (xss.map List.length).sum := by
  induction xss generalizing j with
  | nil => simp
  | cons x xs ih =>
    cases j with
    | zero => simp [List.getD]
    | succ j => have := ih j; simp [List.getD] at *; omega
theorem SB.of_sum {xss : List (List Int)} (h : xss.length ≤ 1048576) (h' : (xss.map List.length).sum ≤ 1048576) : SB xss :=
  ⟨h, fun j => Nat.le_trans (len_le_sum xss j) h'⟩
theorem SB2.of_sum {xss : List (List Int)} (h : xss.length ≤ 2000000) (h' : (xss.map List.length).sum ≤ 1048576) : SB2 xss :=
  ⟨h, fun j => Nat.le_trans (len_le_sum xss j) h'⟩
end Go.Proofs.YtgakgmkonmgblaaGreat

namespace Go.Proofs.YtgakgmkonmgblaaGreat
set_option linter.unusedSimpArgs false
set_option linter.unusedVariables false
/-- The value of a node that runs with some values. -/
def valE (gs : List Nd) (vs : List Int) (i : Nat) : Int := if (gs.getD i default).k == 0 then vs.getD i 0 else (whole (gs.getD i default).ps).ev vs
def okE (gs : List Nd) (st : Eg) (i : Nat) : Bool := (valE gs st.vs i == st.vs.getD i 0) && decide (depF gs st.vs i = st.rs.getD i [])
def allE (gs : List Nd) (st : Eg) : Bool := decide (∀ i, i < gs.length → okE gs st i = true)
def validE (gs : List Nd) (st : Eg) : Bool := validG gs && (decide (st.vs.length = gs.length) && (decide (st.rs.length = gs.length) && (allR st.vs 0 999 && allE gs st)))
theorem validE_parts (gs : List Nd) (st : Eg) (h : validE gs st = true) : validG gs = true ∧ st.vs.length = gs.length ∧ st.rs.length = gs.length ∧ allR st.vs 0 999 = true ∧ ∀ i, i < gs.length → okE gs st i = true := by
  unfold validE allE at h
  simp only [Bool.and_eq_true, decide_eq_true_eq] at h
  exact ⟨h.1, h.2.1, h.2.2.1, h.2.2.2.1, h.2.2.2.2⟩
theorem eager_canEv (gs : List Nd) (vs : List Int) (i : Nat) (hg : validG gs = true) (hl : vs.length = gs.length) (hr : allR vs 0 999 = true) (hi : i < gs.length) (hk : ((gs.getD i default).k == 0) = false) : canEv (gs.getD i default).ps vs = true := by
  obtain ⟨h10, hn⟩ := validG_parts gs hg
  have hv := (nodeOK_formula gs i (hn i hi) hk).1
  have he := each_ahead gs i vs.length hg hi hk (by omega)
  unfold canEv
  rw [hv, he, hr]
  simp
  omega
theorem eager_depF_bd (gs : List Nd) (vs : List Int) (hg : validG gs = true) (hl : vs.length = gs.length) (i : Nat) (hi : i < gs.length) : (depF gs vs i).length ≤ 10 := by
  unfold depF
  cases hk : ((gs.getD i default).k == 0)
  · simp only [Bool.false_eq_true, if_false]
    have hv := (nodeOK_formula gs i ((validG_parts gs hg).2 i hi) hk).1
    have hok := whole_ok _ vs.length hv (by rw [hl]; exact each_ahead gs i gs.length hg hi hk (by omega))
    have h10 := (validG_parts gs hg).1
    refine Nat.le_trans (firsts_bd _ vs.length ?_) (by rw [hl]; exact h10)
    intro x hx
    exact rds_lt _ _ _ hok x hx
  · simp
end Go.Proofs.YtgakgmkonmgblaaGreat

namespace Go.Proofs.YtgakgmkonmgblaaGreat
set_option linter.unusedSimpArgs false
set_option linter.unusedVariables false
open Go.RowKit
/-- Whether there is such a node. -/
def hasN (gs : List Nd) (x : Int) : Bool := rng x 0 ((gs.length : Int) - 1)
/-- Whether a node is a cell. -/
def isC (gs : List Nd) (x : Int) : Bool := hasN gs x && ((gs.getD x.toNat default).k == 0)
end Go.Proofs.YtgakgmkonmgblaaGreat

namespace Go.Proofs.YtgakgmkonmgblaaGreat
set_option linter.unusedSimpArgs false
set_option linter.unusedVariables false
open Go.RowKit
theorem sum_le_mul (l : List (List Int)) (b : Nat) (h : ∀ x ∈ l, x.length ≤ b) : (l.map List.length).sum ≤ l.length * b := by
  induction l with
  | nil => simp
  | cons x l ih =>
    have h1 := h x (by simp)
    have h2 := ih fun y hy => h y (by simp [hy])
    simp only [List.map_cons, List.sum_cons, List.length_cons, Nat.succ_mul]
    omega
end Go.Proofs.YtgakgmkonmgblaaGreat

namespace Go.Proofs.YtgakgmkonmgblaaGreat
set_option linter.unusedSimpArgs false
set_option linter.unusedVariables false
open Go.RowKit
theorem EB.of_small (e : Eg) (h1 : e.vs.length ≤ 1000) (h2 : SB e.rs) (h3 : (e.rs.map List.length).sum ≤ 1000) : EB e := by
  have h4 : ((rowsE e).map List.length).sum ≤ 1048576 := by unfold rowsE; simp; omega
  exact ⟨by omega, h2, SB2.of_sum (by unfold rowsE; simp; have := h2.1; omega) h4, by omega, h4⟩
end Go.Proofs.YtgakgmkonmgblaaGreat

namespace Go.Proofs.YtgakgmkonmgblaaGreat
set_option linter.unusedSimpArgs false
set_option linter.unusedVariables false
/-- Lists have a number in common. -/
def meetB (a b : List Int) : Bool := a.any fun x => decide (x ∈ b)
end Go.Proofs.YtgakgmkonmgblaaGreat

namespace Go.Proofs.YtgakgmkonmgblaaGreat
set_option linter.unusedSimpArgs false
set_option linter.unusedVariables false
open Go.RowKit
/-- Different cells of a graph. -/
def wrB (gs : List Nd) (xs : List Int) : Bool := decide (∀ k, k < xs.length → isC gs (xs.getD k 0) = true) && decide xs.Nodup
/-- What spec.goodWrites answers. -/
def gwB (gs : List Nd) (xs vs : List Int) : Bool := decide (xs.length = vs.length) && (decide (xs.length ≤ 10) && (allR vs 0 999 && wrB gs xs))
end Go.Proofs.YtgakgmkonmgblaaGreat
