/- Words and contracts for memory that the texts behind use. -/
import Derived.Test.YtdhjflhpenkchaaH0a
import Derived.Test.YtdhjflhpenkchaaH0b
import Derived.Test.YtdhjflhpenkchaaH0
import Derived.Test.YtdhjflhpenkchaaH1
import Derived.Test.YtdhjflhpenkchaaH2
import Derived.Test.YtdhjflhpenkchaaH3
import Derived.Test.YtdhjflhpenkchaaH4
import Derived.Test.YtdhjflhpenkchaaH6
import Derived.Test.YtdhjflhpenkchaaH5
import Derived.Test.YtdhjflhpenkchaaH7
import Derived.Test.YtdhjflhpenkchaaH8
import Derived.Test.YtdhjflhpenkchaaH9
import Derived.Test.YtdhjflhpenkchaaH10
import Derived.Test.YtdhjflhpenkchaaH11
import Derived.WalkKit
import Derived.Laws.OwnMore
import Derived.Deep.Draws
import Derived.Test.YtdhjflhpenkchaaProg
import Derived.WalkSpells
import Derived.WalkLawsBesides
import Derived.Outline
import Derived.Lib.Hide
import Derived.BigQuiet
import Derived.Deep.QuietTactic
import Derived.StillTailTactics
import Derived.Deep.LoopGhost
import Derived.Laws.MakeOwn
import Derived.WalkSmall
import Derived.RegionTactic
import Derived.BigRegion
import Derived.Deep.RegionWith
import Derived.Deep.RegionHeld3
import Derived.Maps.Own
import Derived.Maps.Views
import Derived.Maps.AppendAt
import Derived.Laws.CopyOwn
import Derived.ChangeAlike
import Derived.Deep.Cut
import Derived.Deep.AppendLies
import Derived.Laws.Entries
import Derived.Laws.Bits64
import Derived.IntWalk

namespace Go.Proofs.Ytdhjflhpenkchaa
set_option linter.unusedSimpArgs false
set_option linter.unusedVariables false
open Go.RowKit
def allR (l : List Int) (lo hi : Int) : Bool := l.all fun x => rng x lo hi
theorem allR_true (l : List Int) (lo hi : Int) (h : ∀ k, k < l.length → rng (l.getD k 0) lo hi = true) : allR l lo hi = true := by
  unfold allR
  rw [List.all_eq_true]
  intro x hx
  obtain ⟨k, hk, rfl⟩ := List.mem_iff_getElem.1 hx
  have := h k hk
  simpa [List.getD, hk] using this
end Go.Proofs.Ytdhjflhpenkchaa

namespace Go.Proofs.Ytdhjflhpenkchaa
set_option linter.unusedSimpArgs false
set_option linter.unusedVariables false
open Go.RowKit
theorem good_bel_nat (p : Pt) (i : Nat) (h : goodPt p i = true) : (2 ≤ p.k ∧ p.k ≤ 7 → ∃ a b : Nat, p.a = a ∧ p.b = b ∧ a < i ∧ b < i) ∧ (p.k = 8 → ∃ a b c : Nat, p.a = a ∧ p.b = b ∧ p.c = c ∧ a < i ∧ b < i ∧ c < i) := by
  have hb := good_bel p i h
  constructor
  · intro hk
    have h2 : ar p.k = 2 := by unfold ar; rw [if_neg (by omega), if_pos hk]
    have h1 : bel p = [p.a, p.b] := by simp [bel, h2]
    rw [h1] at hb
    have ha := hb p.a (by simp)
    have hb' := hb p.b (by simp)
    exact ⟨p.a.toNat, p.b.toNat, by omega, by omega, by omega, by omega⟩
  · intro hk
    have h2 : ar p.k = 3 := by unfold ar; rw [if_neg (by omega), if_neg (by omega), if_pos hk]
    have h1 : bel p = [p.a, p.b, p.c] := by simp [bel, h2]
    rw [h1] at hb
    have ha := hb p.a (by simp)
    have hb' := hb p.b (by simp)
    have hc := hb p.c (by simp)
    exact ⟨p.a.toNat, p.b.toNat, p.c.toNat, by omega, by omega, by omega, by omega, by omega, by omega⟩
theorem good_kind (p : Pt) (i : Int) (h : goodPt p i = true) : p.k = 0 ∨ p.k = 1 ∨ (2 ≤ p.k ∧ p.k ≤ 7) ∨ p.k = 8 := by
  rcases ar_cases p.k with h1 | h1 | h1 | h1 | h1 | h1 | h1 | h1 | h1 | h1
  all_goals try omega
  exfalso
  have ha : ar p.k = -1 := by unfold ar; rw [if_neg (by omega), if_neg (by omega), if_neg (by omega)]
  simp [goodPt, ha] at h
end Go.Proofs.Ytdhjflhpenkchaa

namespace Go.Proofs.Ytdhjflhpenkchaa
set_option linter.unusedSimpArgs false
set_option linter.unusedVariables false
open Go.RowKit
/-- Numbers without those that came before. -/
def firsts (l : List Int) : List Int := l.foldl (fun acc x => if x ∈ acc then acc else acc ++ [x]) []
end Go.Proofs.Ytdhjflhpenkchaa

namespace Go.Proofs.Ytdhjflhpenkchaa
set_option linter.unusedSimpArgs false
set_option linter.unusedVariables false
open Go.RowKit
/-- What a part of two makes of two values. -/
def jn (k x y : Int) : Int :=
  if k == 2 then (x + y) % 1000
  else if k == 3 then (x - y + 1000) % 1000
  else if k == 4 then x * y % 1000
  else if k == 5 then min x y
  else if k == 6 then max x y
  else if x < y then 1 else 0
theorem mul_bd (x y : Int) (hx : 0 ≤ x) (hx' : x ≤ 999) (hy : 0 ≤ y) (hy' : y ≤ 999) : 0 ≤ x * y ∧ x * y ≤ 998001 :=
  ⟨Int.mul_nonneg hx hy, by
    have h1 : x * y ≤ 999 * y := Int.mul_le_mul_of_nonneg_right hx' hy
    omega⟩
theorem jn_bd (k x y : Int) (hx : 0 ≤ x) (hx' : x ≤ 999) (hy : 0 ≤ y) (hy' : y ≤ 999) : 0 ≤ jn k x y ∧ jn k x y ≤ 999 := by
  have := mul_bd x y hx hx' hy hy'
  unfold jn
  (repeat' split) <;> omega
theorem getD_mem' {α : Type} [Inhabited α] (l : List α) (m : Nat) (h : m < l.length) : l.getD m default ∈ l := by
  simp [List.getD, h]
/-- There is a value for each node of the formula. -/
def eachOK (ps : List Pt) (n : Nat) : Bool := ps.all fun p => !(p.k == 1 && decide ((n : Int) ≤ p.n))
/-- The values serve the formula, as impl reckons it. -/
def canEv (ps : List Pt) (vs : List Int) : Bool := validF ps && ((decide (vs.length ≤ 10) && allR vs 0 999) && eachOK ps vs.length)
end Go.Proofs.Ytdhjflhpenkchaa

namespace Go.Proofs.Ytdhjflhpenkchaa
set_option linter.unusedSimpArgs false
set_option linter.unusedVariables false
open Go.RowKit
def Tm.ev (vs : List Int) : Tm → Int
  | .num v => v
  | .rd v => vs.getD v.toNat 0
  | .pr k l r => jn k (l.ev vs) (r.ev vs)
  | .ch t a b => if t.ev vs == 0 then b.ev vs else a.ev vs
def Tm.rds (vs : List Int) : Tm → List Int
  | .num _ => []
  | .rd v => [v]
  | .pr _ l r => l.rds vs ++ r.rds vs
  | .ch t a b => t.rds vs ++ (if t.ev vs == 0 then b.rds vs else a.rds vs)
/-- All values are in range. -/
def VOK (vs : List Int) : Prop := ∀ j, j < vs.length → 0 ≤ vs.getD j 0 ∧ vs.getD j 0 ≤ 999
theorem Tm.ev_bd (vs : List Int) (hv : VOK vs) (t : Tm) (h : t.ok vs.length) : 0 ≤ t.ev vs ∧ t.ev vs ≤ 999 := by
  induction t with
  | num v => simp only [Tm.ok] at h; simp only [Tm.ev]; omega
  | rd v => simp only [Tm.ok] at h; exact hv _ (by omega)
  | pr k l r hl hr =>
    simp only [Tm.ok] at h
    obtain ⟨a1, a2⟩ := hl h.1
    obtain ⟨b1, b2⟩ := hr h.2
    exact jn_bd _ _ _ a1 a2 b1 b2
  | ch t a b ht ha hb =>
    simp only [Tm.ok] at h
    simp only [Tm.ev]
    split
    · exact hb h.2.2
    · exact ha h.2.1
theorem tmAt_eq (ps : List Pt) (f i : Nat) : tmAt ps (f + 1) i = (if (ps.getD i default).k == 0 then .num (ps.getD i default).n else if (ps.getD i default).k == 1 then .rd (ps.getD i default).n
    else if (ps.getD i default).k == 8 then .ch (tmAt ps f (ps.getD i default).a.toNat) (tmAt ps f (ps.getD i default).b.toNat) (tmAt ps f (ps.getD i default).c.toNat)
    else .pr (ps.getD i default).k (tmAt ps f (ps.getD i default).a.toNat) (tmAt ps f (ps.getD i default).b.toNat)) := rfl
theorem tmAt_ok (ps : List Pt) (m : Nat) (hg : AllGood ps) (he : eachOK ps m = true) (f : Nat) : ∀ i, i < f → i < ps.length → (tmAt ps f i).ok m := by
  induction f with
  | zero => intro i hi; omega
  | succ f ih =>
    intro i hif hin
    have hgi := hg i hin
    have hei : ((ps.getD i default).k == 1 && decide ((m : Int) ≤ (ps.getD i default).n)) = false := by
      unfold eachOK at he
      rw [List.all_eq_true] at he
      have := he (ps.getD i default) (getD_mem' ps i hin)
      cases hq : ((ps.getD i default).k == 1 && decide ((m : Int) ≤ (ps.getD i default).n))
      · rfl
      · rw [hq] at this; cases this
    rw [tmAt_eq]
    generalize ps.getD i default = p at *
    rcases good_kind _ _ hgi with h0 | h1 | h2 | h8
    · have := (good_num p i hgi).1 h0
      simp [h0, Tm.ok, this]
    · have := (good_num p i hgi).2 h1
      simp [h1] at hei
      simp [h1, Tm.ok, this, hei]
    · obtain ⟨a, b, ea, eb, la, lb⟩ := (good_bel_nat p i hgi).1 h2
      have k0 : (p.k == 0) = false := by simp only [beq_eq_false_iff_ne, ne_eq]; omega
      have k1 : (p.k == 1) = false := by simp only [beq_eq_false_iff_ne, ne_eq]; omega
      have k8 : (p.k == 8) = false := by simp only [beq_eq_false_iff_ne, ne_eq]; omega
      simp only [k0, k1, k8, Bool.false_eq_true, if_false, Tm.ok]
      exact ⟨ih _ (by omega) (by omega), ih _ (by omega) (by omega)⟩
    · obtain ⟨a, b, c, ea, eb, ec, la, lb, lc⟩ := (good_bel_nat p i hgi).2 h8
      simp only [h8, Tm.ok]
      exact ⟨ih _ (by omega) (by omega), ih _ (by omega) (by omega), ih _ (by omega) (by omega)⟩
end Go.Proofs.Ytdhjflhpenkchaa

namespace Go.Proofs.Ytdhjflhpenkchaa
set_option linter.unusedSimpArgs false
set_option linter.unusedVariables false
open Go.RowKit
theorem allR_VOK (vs : List Int) (h : allR vs 0 999 = true) : VOK vs := by
  intro j hj
  unfold allR at h
  rw [List.all_eq_true] at h
  have := h (vs.getD j 0) (by simp [List.getD, hj])
  simpa [rng] using this
theorem canEv_parts (ps : List Pt) (vs : List Int) (h : canEv ps vs = true) : validF ps = true ∧ VOK vs ∧ vs.length ≤ 10 ∧ eachOK ps vs.length = true := by
  unfold canEv at h
  simp only [Bool.and_eq_true, decide_eq_true_eq] at h
  exact ⟨h.1, allR_VOK vs h.2.1.2, h.2.1.1, h.2.2⟩
/-- What ValueOf answers. -/
def valF (ps : List Pt) (vs : List Int) : Int := if canEv ps vs then (whole ps).ev vs else 0
end Go.Proofs.Ytdhjflhpenkchaa

namespace Go.Proofs.Ytdhjflhpenkchaa
set_option linter.unusedSimpArgs false
set_option linter.unusedVariables false
open Go.RowKit
/-- Values for all nodes ahead are enough for the formula of a node. -/
theorem each_ahead (gs : List Nd) (i m : Nat) (h : validG gs = true) (hi : i < gs.length) (hk : ((gs.getD i default).k == 0) = false) (hm : i ≤ m) : eachOK (gs.getD i default).ps m = true := by
  obtain ⟨h10, hok⟩ := validG_parts gs h
  obtain ⟨hv, hg⟩ := nodeOK_formula gs i (hok i hi) hk
  unfold eachOK
  rw [List.all_eq_true]
  intro p hp
  cases h1 : (p.k == 1)
  · simp
  · obtain ⟨j, hj, rfl⟩ := List.mem_iff_getElem.1 hp
    have hgd := (validF_good _ hv).1 j hj
    have hah := fun x hx => mayR_ahead gs i h hi x hx
    clear hg hok
    generalize gs.getD i default = d at *
    have e : d.ps.getD j default = d.ps[j] := by simp [List.getD, hj]
    rw [e] at hgd
    have hb := (good_num _ _ hgd).2 (by simpa using h1)
    have hx : (d.ps[j]).n ∈ mayR d.ps := by
      rw [mem_mayR]
      refine ⟨(d.ps[j]).n.toNat, by omega, ?_, by omega⟩
      unfold hasNode
      rw [List.any_eq_true]
      exact ⟨_, hp, by simp only [Bool.and_eq_true]; exact ⟨h1, by simp; omega⟩⟩
    have := hah _ hx
    simp
    omega
def okC (gs : List Nd) (cs : List Int) : Bool := validG gs && validC gs cs
theorem validC_parts (gs : List Nd) (cs : List Int) (h : validC gs cs = true) : cs.length = gs.length ∧ ∀ i, i < gs.length → cellOK gs cs i = true := by
  unfold validC at h
  simpa only [Bool.and_eq_true, decide_eq_true_eq] using h
theorem cellOK_bd (gs : List Nd) (cs : List Int) (i : Nat) (h : cellOK gs cs i = true) : 0 ≤ cs.getD i 0 ∧ cs.getD i 0 ≤ 999 := by
  unfold cellOK rng at h
  simp only [Bool.and_eq_true, decide_eq_true_eq] at h
  exact h.1
/-- The values of the first nodes. -/
def meanTo (gs : List Nd) (cs : List Int) : Nat → List Int
  | 0 => []
  | i + 1 => meanTo gs cs i ++ [if (gs.getD i default).k == 0 then cs.getD i 0 else (whole (gs.getD i default).ps).ev (meanTo gs cs i)]
def mean (gs : List Nd) (cs : List Int) : List Int := meanTo gs cs gs.length
def meanF (gs : List Nd) (cs : List Int) : List Int := if okC gs cs then mean gs cs else []
theorem meanTo_len (gs : List Nd) (cs : List Int) (i : Nat) : (meanTo gs cs i).length = i := by
  induction i with
  | zero => rfl
  | succ i ih => simp [meanTo, ih]
theorem whole_ok (ps : List Pt) (m : Nat) (hv : validF ps = true) (he : eachOK ps m = true) : (whole ps).ok m := by
  obtain ⟨hg, h1, h12⟩ := validF_good ps hv
  exact tmAt_ok ps m hg he ps.length (ps.length - 1) (by omega) (by omega)
theorem meanTo_VOK (gs : List Nd) (cs : List Int) (h : okC gs cs = true) (i : Nat) (hi : i ≤ gs.length) : VOK (meanTo gs cs i) := by
  unfold okC at h
  simp only [Bool.and_eq_true] at h
  obtain ⟨hg, hc⟩ := h
  induction i with
  | zero => intro j hj; simp [meanTo] at hj
  | succ i ih =>
    have ih := ih (by omega)
    have hl := meanTo_len gs cs i
    intro j hj
    rw [meanTo_len] at hj
    rcases Nat.lt_or_ge j i with h1 | h1
    · have := ih j (by omega)
      simpa [meanTo, List.getD, List.getElem?_append, hl, h1] using this
    · obtain rfl : j = i := by omega
      have e : (meanTo gs cs (j + 1)).getD j 0 = (if (gs.getD j default).k == 0 then cs.getD j 0 else (whole (gs.getD j default).ps).ev (meanTo gs cs j)) := by
        simp [meanTo, List.getD, List.getElem?_append, hl]
      rw [e]
      cases hk : ((gs.getD j default).k == 0)
      · simp only [Bool.false_eq_true, if_false]
        refine Tm.ev_bd _ ih _ ?_
        rw [hl]
        exact whole_ok _ _ (nodeOK_formula gs j ((validG_parts gs hg).2 j (by omega)) hk).1 (each_ahead gs j j hg (by omega) hk (Nat.le_refl _))
      · simp only [if_true]
        exact cellOK_bd gs cs j ((validC_parts gs cs hc).2 j (by omega))
theorem canEv_of (ps : List Pt) (vs : List Int) (hv : validF ps = true) (hl : vs.length ≤ 10) (hr : VOK vs) (he : eachOK ps vs.length = true) : canEv ps vs = true := by
  unfold canEv
  rw [hv, he, decide_eq_true hl]
  simp only [Bool.true_and, Bool.and_true]
  refine allR_true _ _ _ fun k hk => ?_
  have := hr k hk
  unfold rng
  simpa using this
theorem okC_parts (gs : List Nd) (cs : List Int) (h : okC gs cs = true) : validG gs = true ∧ validC gs cs = true := by
  unfold okC at h
  simpa only [Bool.and_eq_true] using h
/-- The indices at which two lists differ. -/
def diffTo (a b : List Int) (k : Nat) : List Int := ((List.range k).filter fun i => !(a.getD i 0 == b.getD i 0)).map fun i : Nat => (i : Int)
end Go.Proofs.Ytdhjflhpenkchaa

namespace Go.Proofs.Ytdhjflhpenkchaa
set_option linter.unusedSimpArgs false
set_option linter.unusedVariables false
open Go.RowKit
/-- What ReadsOf answers. -/
def readF (ps : List Pt) (vs : List Int) : List Int := if canEv ps vs then firsts ((whole ps).rds vs) else []
theorem firsts_inv (P : List Int → Prop) (l : List Int) : ∀ acc : List Int, P acc → (∀ acc x, x ∈ l → P acc → P (if x ∈ acc then acc else acc ++ [x])) → P (l.foldl (fun acc x => if x ∈ acc then acc else acc ++ [x]) acc) := by
  induction l with
  | nil => intro acc h _; exact h
  | cons y l ih => intro acc h hs; exact ih _ (hs acc y List.mem_cons_self h) fun a x hx => hs a x (List.mem_cons_of_mem _ hx)
end Go.Proofs.Ytdhjflhpenkchaa

namespace Go.Proofs.Ytdhjflhpenkchaa
set_option linter.unusedSimpArgs false
set_option linter.unusedVariables false
open Go.RowKit
theorem rds_lt (t : Tm) (vs : List Int) (m : Nat) (h : t.ok m) : ∀ x ∈ t.rds vs, ∃ q : Nat, q < m ∧ x = (q : Int) := by
  induction t with
  | num v => intro x hx; simp [Tm.rds] at hx
  | rd v =>
    intro x hx
    simp [Tm.rds] at hx
    simp only [Tm.ok] at h
    exact ⟨v.toNat, by omega, by omega⟩
  | pr k l r ihl ihr =>
    intro x hx
    simp only [Tm.ok] at h
    simp only [Tm.rds, List.mem_append] at hx
    rcases hx with hx | hx
    · exact ihl h.1 x hx
    · exact ihr h.2 x hx
  | ch a b c iha ihb ihc =>
    intro x hx
    simp only [Tm.ok] at h
    simp only [Tm.rds, List.mem_append] at hx
    rcases hx with hx | hx
    · exact iha h.1 x hx
    · split at hx
      · exact ihc h.2.2 x hx
      · exact ihb h.2.1 x hx
/-- What is not read does not matter. -/
theorem ev_agree (t : Tm) (vs vs' : List Int) (m : Nat) (hok : t.ok m) (h : ∀ x ∈ t.rds vs, vs'.getD x.toNat 0 = vs.getD x.toNat 0) : t.ev vs' = t.ev vs ∧ t.rds vs' = t.rds vs := by
  induction t with
  | num v => exact ⟨rfl, rfl⟩
  | rd v =>
    simp only [Tm.ev, Tm.rds] at *
    exact ⟨h v (by simp), trivial⟩
  | pr k l r ihl ihr =>
    simp only [Tm.ok] at hok
    simp only [Tm.ev, Tm.rds] at *
    obtain ⟨l1, l2⟩ := ihl hok.1 fun x hx => h x (List.mem_append_left _ hx)
    obtain ⟨r1, r2⟩ := ihr hok.2 fun x hx => h x (List.mem_append_right _ hx)
    rw [l1, l2, r1, r2]
    exact ⟨rfl, rfl⟩
  | ch a b c iha ihb ihc =>
    simp only [Tm.ok] at hok
    simp only [Tm.ev, Tm.rds] at *
    obtain ⟨a1, a2⟩ := iha hok.1 fun x hx => h x (List.mem_append_left _ hx)
    rw [a1, a2]
    split
    · rename_i h0
      obtain ⟨b1, b2⟩ := ihc hok.2.2 fun x hx => h x (List.mem_append_right _ (by rw [if_pos h0]; exact hx))
      rw [b1, b2]
      exact ⟨rfl, rfl⟩
    · rename_i h0
      obtain ⟨c1, c2⟩ := ihb hok.2.1 fun x hx => h x (List.mem_append_right _ (by rw [if_neg h0]; exact hx))
      rw [c1, c2]
      exact ⟨rfl, rfl⟩
theorem firsts_mem (l : List Int) (x : Int) : x ∈ firsts l ↔ x ∈ l := by
  have : ∀ (l acc : List Int), x ∈ l.foldl (fun acc x => if x ∈ acc then acc else acc ++ [x]) acc ↔ x ∈ acc ∨ x ∈ l := by
    intro l
    induction l with
    | nil => intro acc; simp
    | cons y l ih =>
      intro acc
      rw [List.foldl_cons, ih]
      by_cases hy : y ∈ acc
      · rw [if_pos hy, List.mem_cons]
        constructor
        · rintro (h | h)
          · exact .inl h
          · exact .inr (.inr h)
        · rintro (h | h | h)
          · exact .inl h
          · subst h; exact .inl hy
          · exact .inr h
      · rw [if_neg hy, List.mem_append, List.mem_cons, List.mem_cons]
        simp only [List.not_mem_nil, or_false]
        constructor
        · rintro ((h | h) | h)
          · exact .inl h
          · exact .inr (.inl h)
          · exact .inr (.inr h)
        · rintro (h | h | h)
          · exact .inl (.inl h)
          · exact .inl (.inr h)
          · exact .inr h
  simpa [firsts] using this l []
theorem firsts_nodup (l : List Int) : (firsts l).Nodup :=
  firsts_inv (fun a => a.Nodup) l [] List.nodup_nil fun acc x _ h => by
    by_cases hx : x ∈ acc
    · rw [if_pos hx]; exact h
    · rw [if_neg hx]
      refine List.nodup_append.2 ⟨h, by simp, ?_⟩
      intro a ha b hb e
      simp at hb
      subst hb; subst e
      exact hx ha
/-- What is read may be read. -/
theorem rds_node (ps : List Pt) (hg : AllGood ps) (vs : List Int) (f : Nat) : ∀ i, i < f → i < ps.length → ∀ x ∈ (tmAt ps f i).rds vs, ∃ q : Nat, q < 10 ∧ x = (q : Int) ∧ hasNode ps q = true := by
  induction f with
  | zero => intro i hi; omega
  | succ f ih =>
    intro i hi hin x hx
    have hgi := hg i hin
    have hmem : ps.getD i default ∈ ps := by simp [List.getD, hin]
    rw [tmAt_eq] at hx
    have hbn := good_bel_nat _ _ hgi
    have hnum := good_num _ _ hgi
    generalize ps.getD i default = p at *
    rcases good_kind _ _ hgi with h0 | h0 | h0 | h0
    · simp only [h0] at hx
      simp [Tm.rds] at hx
    · have h1 : (p.k == 1) = true := by simp [h0]
      have h00 : (p.k == 0) = false := by simp [h0]
      simp only [h00, h1, if_true, Bool.false_eq_true, if_false, Tm.rds, List.mem_singleton] at hx
      have := hnum.2 h0
      refine ⟨p.n.toNat, by omega, by omega, ?_⟩
      unfold hasNode
      rw [List.any_eq_true]
      exact ⟨_, hmem, by rw [h1, Bool.true_and]; simp only [beq_iff_eq]; omega⟩
    · obtain ⟨a, b, ea, eb, la, lb⟩ := hbn.1 h0
      have k0 : (p.k == 0) = false := by simp; omega
      have k1 : (p.k == 1) = false := by simp; omega
      have k8 : (p.k == 8) = false := by simp; omega
      simp only [k0, k1, k8, Bool.false_eq_true, if_false, ea, eb, Int.toNat_natCast, Tm.rds, List.mem_append] at hx
      rcases hx with hx | hx
      · exact ih a (by omega) (by omega) x hx
      · exact ih b (by omega) (by omega) x hx
    · obtain ⟨a, b, c, ea, eb, ec, la, lb, lc⟩ := hbn.2 h0
      have k0 : (p.k == 0) = false := by simp [h0]
      have k1 : (p.k == 1) = false := by simp [h0]
      have k8 : (p.k == 8) = true := by simp [h0]
      simp only [k0, k1, k8, Bool.false_eq_true, if_false, if_true, ea, eb, ec, Int.toNat_natCast, Tm.rds, List.mem_append] at hx
      rcases hx with hx | hx
      · exact ih a (by omega) (by omega) x hx
      · split at hx
        · exact ih c (by omega) (by omega) x hx
        · exact ih b (by omega) (by omega) x hx
theorem readF_may (ps : List Pt) (vs : List Int) : (readF ps vs).Nodup ∧ ∀ x ∈ readF ps vs, x ∈ mayF ps := by
  unfold readF mayF
  cases h : canEv ps vs
  · simp
  · simp only [if_true]
    obtain ⟨hv, hvo, hl, he⟩ := canEv_parts ps vs h
    obtain ⟨hg, h1, h12⟩ := validF_good ps hv
    rw [hv]
    refine ⟨firsts_nodup _, fun x hx => ?_⟩
    rw [firsts_mem] at hx
    obtain ⟨q, hq, rfl, hq2⟩ := rds_node ps hg vs ps.length (ps.length - 1) (by omega) (by omega) x hx
    simp only [if_true]
    rw [mem_mayR]
    exact ⟨q, hq, hq2, rfl⟩

/-! Graphs. -/
end Go.Proofs.Ytdhjflhpenkchaa

namespace Go.Proofs.Ytdhjflhpenkchaa
set_option linter.unusedSimpArgs false
set_option linter.unusedVariables false
open Go.RowKit
theorem mean_step (gs : List Nd) (xs : List Int) (k : Nat) : meanTo gs xs (k + 1) = meanTo gs xs k ++ [if (gs.getD k default).k == 0 then xs.getD k 0 else (whole (gs.getD k default).ps).ev (meanTo gs xs k)] := rfl
end Go.Proofs.Ytdhjflhpenkchaa

namespace Go.Proofs.Ytdhjflhpenkchaa
set_option linter.unusedSimpArgs false
set_option linter.unusedVariables false
open Go.RowKit
def chgB (gs : List Nd) (xs ys : List Int) : Bool := validG gs && validC gs xs && validC gs ys
def chgF (gs : List Nd) (xs ys : List Int) : List Int := if chgB gs xs ys then diffTo (mean gs xs) (mean gs ys) gs.length else []
end Go.Proofs.Ytdhjflhpenkchaa

namespace Go.Proofs.Ytdhjflhpenkchaa
set_option linter.unusedSimpArgs false
set_option linter.unusedVariables false
open Go.RowKit
/-- What a node reads with some values. -/
def depF (gs : List Nd) (vs : List Int) (i : Nat) : List Int := if (gs.getD i default).k == 0 then [] else firsts ((whole (gs.getD i default).ps).rds vs)
def depTo (gs : List Nd) (vs : List Int) (k : Nat) : List (List Int) := (List.range k).map (depF gs vs)
def depsF (gs : List Nd) (xs : List Int) : List (List Int) := if okC gs xs then depTo gs (mean gs xs) gs.length else []
end Go.Proofs.Ytdhjflhpenkchaa

namespace Go.Proofs.Ytdhjflhpenkchaa
set_option linter.unusedSimpArgs false
set_option linter.unusedVariables false
theorem meanTo_take (gs : List Nd) (cs : List Int) (i k : Nat) (h : i ≤ k) : (meanTo gs cs k).take i = meanTo gs cs i := by
  induction k with
  | zero => obtain rfl : i = 0 := by omega
            simp [meanTo]
  | succ k ih =>
    have hl := meanTo_len gs cs k
    rcases Nat.lt_or_ge i (k + 1) with h1 | h1
    · rw [mean_step, List.take_append_of_le_length (by omega)]
      exact ih (by omega)
    · obtain rfl : i = k + 1 := by omega
      rw [List.take_of_length_le (by rw [meanTo_len]; exact Nat.le_refl _)]
theorem meanTo_getD (gs : List Nd) (cs : List Int) (i k q : Nat) (h : i ≤ k) (hq : q < i) : (meanTo gs cs k).getD q 0 = (meanTo gs cs i).getD q 0 := by
  rw [← meanTo_take gs cs i k h]
  simp only [List.getD, List.getElem?_take, if_pos hq]
theorem mean_at (gs : List Nd) (cs : List Int) (i : Nat) (hi : i < gs.length) : (mean gs cs).getD i 0 = if (gs.getD i default).k == 0 then cs.getD i 0 else (whole (gs.getD i default).ps).ev (meanTo gs cs i) := by
  unfold mean
  rw [meanTo_getD gs cs (i + 1) gs.length i (by omega) (by omega), mean_step]
  have hl := meanTo_len gs cs i
  simp [List.getD, hl]
/-- Lists have a number in common. -/
def meetB (a b : List Int) : Bool := a.any fun x => decide (x ∈ b)
theorem diffTo_mem (a b : List Int) (n q : Nat) (hq : q < n) (h : (q : Int) ∉ diffTo a b n) : a.getD q 0 = b.getD q 0 := by
  apply Classical.byContradiction
  intro hne
  apply h
  unfold diffTo
  exact List.mem_map.2 ⟨q, List.mem_filter.2 ⟨List.mem_range.2 hq, by simpa using hne⟩, rfl⟩
theorem diffTo_iff (a b : List Int) (n q : Nat) (h : (q : Int) ∈ diffTo a b n) : a.getD q 0 ≠ b.getD q 0 := by
  unfold diffTo at h
  obtain ⟨r, hr, he⟩ := List.mem_map.1 h
  have : r = q := by exact_mod_cast he
  subst this
  have := (List.mem_filter.1 hr).2
  simpa using this
/-- A node that is another one reads one that is. -/
theorem must_changed (gs : List Nd) (xs ys : List Int) (hx : okC gs xs = true) (hy : okC gs ys = true) (i : Nat) (hi : i < gs.length) (hk : ((gs.getD i default).k == 0) = false)
    (hm : (i : Int) ∈ diffTo (mean gs xs) (mean gs ys) gs.length) : meetB (depF gs (mean gs xs) i) (diffTo (mean gs xs) (mean gs ys) gs.length) = true := by
  have hne := diffTo_iff _ _ _ _ hm
  apply Classical.byContradiction
  intro hc
  apply hne
  rw [mean_at gs xs i hi, mean_at gs ys i hi, hk]
  simp only [Bool.false_eq_true, if_false]
  have hg := (okC_parts gs xs hx).1
  have hv := (nodeOK_formula gs i ((validG_parts gs hg).2 i hi) hk).1
  have hok := whole_ok _ i hv (each_ahead gs i i hg hi hk (Nat.le_refl _))
  have hall := rds_lt (whole (gs.getD i default).ps) (meanTo gs xs i) i hok
  have e1 := ev_agree (whole (gs.getD i default).ps) (meanTo gs xs i) (mean gs xs) i hok fun x hx => by
    obtain ⟨q, hq, rfl⟩ := hall x hx
    exact meanTo_getD gs xs i gs.length q (by omega) hq
  refine (ev_agree (whole (gs.getD i default).ps) (meanTo gs xs i) (meanTo gs ys i) i hok fun x hx => ?_).1.symm
  obtain ⟨q, hq, rfl⟩ := hall x hx
  have hdx : (q : Int) ∈ depF gs (mean gs xs) i := by
    unfold depF
    rw [hk]
    simp only [Bool.false_eq_true, if_false]
    rw [firsts_mem, e1.2]
    exact hx
  have hnc : (q : Int) ∉ diffTo (mean gs xs) (mean gs ys) gs.length := fun hin => hc (List.any_eq_true.2 ⟨_, hdx, decide_eq_true hin⟩)
  have := diffTo_mem _ _ _ q (by omega) hnc
  rw [Int.toNat_natCast]
  rw [← meanTo_getD gs xs i gs.length q (by omega) hq, ← meanTo_getD gs ys i gs.length q (by omega) hq]
  exact this.symm
end Go.Proofs.Ytdhjflhpenkchaa

namespace Go.Proofs.Ytdhjflhpenkchaa
set_option linter.unusedSimpArgs false
set_option linter.unusedVariables false
open Go.RowKit
theorem diffTo_self (a : List Int) (n : Nat) : diffTo a a n = [] := by
  unfold diffTo
  simp
end Go.Proofs.Ytdhjflhpenkchaa

namespace Go.Proofs.Ytdhjflhpenkchaa
set_option linter.unusedSimpArgs false
set_option linter.unusedVariables false
open Go.RowKit
theorem meanTo_pre (gs : List Nd) (cs : List Int) (i n j : Nat) (h : i ≤ n) (hj : j < i) : (meanTo gs cs n).getD j 0 = (meanTo gs cs i).getD j 0 := by
  induction n with
  | zero => omega
  | succ n ih =>
    rcases Nat.lt_or_ge n i with h1 | h1
    · have : i = n + 1 := by omega
      subst this
      rfl
    · rw [← ih h1]
      have hl := meanTo_len gs cs n
      show (meanTo gs cs n ++ [_]).getD j 0 = _
      simp [List.getD, List.getElem?_append, hl, show j < n by omega]
theorem meanTo_last (gs : List Nd) (cs : List Int) (i : Nat) : (meanTo gs cs (i + 1)).getD i 0 = if (gs.getD i default).k == 0 then cs.getD i 0 else (whole (gs.getD i default).ps).ev (meanTo gs cs i) := by
  have hl := meanTo_len gs cs i
  show (meanTo gs cs i ++ [_]).getD i 0 = _
  simp [List.getD, List.getElem?_append, hl]
theorem mean_cell (gs : List Nd) (cs : List Int) (i : Nat) (hi : i < gs.length) (hk : ((gs.getD i default).k == 0) = true) : (mean gs cs).getD i 0 = cs.getD i 0 := by
  unfold mean
  rw [meanTo_pre gs cs (i + 1) gs.length i (by omega) (by omega), meanTo_last, hk]
  rfl
theorem mean_node (gs : List Nd) (cs : List Int) (h : okC gs cs = true) (i : Nat) (hi : i < gs.length) (hk : ((gs.getD i default).k == 0) = false) :
    canEv (gs.getD i default).ps (mean gs cs) = true ∧ valF (gs.getD i default).ps (mean gs cs) = (mean gs cs).getD i 0 := by
  obtain ⟨hg, hc⟩ := okC_parts gs cs h
  have h10 := (validG_parts gs hg).1
  have hml : (mean gs cs).length = gs.length := meanTo_len gs cs gs.length
  have hvf := (nodeOK_formula gs i ((validG_parts gs hg).2 i hi) hk).1
  have hce : canEv (gs.getD i default).ps (mean gs cs) = true := canEv_of _ _ hvf (by omega) (meanTo_VOK gs cs h gs.length (Nat.le_refl _)) (by rw [hml]; exact each_ahead gs i gs.length hg hi hk (by omega))
  refine ⟨hce, ?_⟩
  unfold valF
  rw [hce, if_pos rfl]
  have hok : (whole (gs.getD i default).ps).ok i := whole_ok _ i hvf (each_ahead gs i i hg hi hk (Nat.le_refl _))
  have hag := (ev_agree (whole (gs.getD i default).ps) (meanTo gs cs i) (mean gs cs) i hok fun x hx => by
    obtain ⟨q, hq, rfl⟩ := rds_lt _ _ i hok x hx
    unfold mean
    exact meanTo_pre gs cs i gs.length q (by omega) hq).1
  rw [hag]
  unfold mean
  rw [meanTo_pre gs cs (i + 1) gs.length i (by omega) (by omega), meanTo_last, hk]
  rfl
end Go.Proofs.Ytdhjflhpenkchaa

namespace Go.Proofs.Ytdhjflhpenkchaa
set_option linter.unusedSimpArgs false
set_option linter.unusedVariables false
open Go.RowKit
theorem ext_getD {α : Type} [Inhabited α] (l m : List α) (h : l.length = m.length) (he : ∀ i, i < l.length → l.getD i default = m.getD i default) : l = m := by
  apply List.ext_getElem h
  intro i h1 h2
  have := he i h1
  simpa [List.getD, h1, h2] using this
theorem ext_getD0 (l m : List Int) (h : l.length = m.length) (he : ∀ i, i < l.length → l.getD i 0 = m.getD i 0) : l = m := ext_getD l m h he
theorem depTo_get (gs : List Nd) (vs : List Int) (n i : Nat) (h : i < n) : (depTo gs vs n).getD i [] = depF gs vs i := by
  unfold depTo
  simp [List.getD, h]
end Go.Proofs.Ytdhjflhpenkchaa

namespace Go.Proofs.Ytdhjflhpenkchaa
set_option linter.unusedSimpArgs false
set_option linter.unusedVariables false
open Go.RowKit
/-- The numbers of a list that are in another one, and those that are not. -/
def inK (xs ys : List Int) : List Int := xs.filter fun x => decide (x ∈ ys)
end Go.Proofs.Ytdhjflhpenkchaa

namespace Go.Proofs.Ytdhjflhpenkchaa
set_option linter.unusedSimpArgs false
set_option linter.unusedVariables false
open Go.RowKit
/-- The node that the way goes on to from n downward. -/
def nxtW (gs : List Nd) (M D : List Int) (n : Nat) : Nat := ((inK D (depF gs M n)).headD 0).toNat
/-- The way to a node. -/
def wayF (gs : List Nd) (M D : List Int) : Nat → Nat → List Int
  | 0, n => [(n : Int)]
  | f + 1, n => if (gs.getD n default).k == 0 then [(n : Int)] else wayF gs M D f (nxtW gs M D n) ++ [(n : Int)]
/-- What WhyChanged answers. -/
def whyF (gs : List Nd) (xs ys : List Int) (n : Int) : List Int := if n ∈ chgF gs xs ys then wayF gs (mean gs xs) (chgF gs xs ys) 10 n.toNat else []
/-- A step of the way: the next node is ahead, and changed. -/
def StepW (gs : List Nd) (M D : List Int) : Prop := ∀ n : Nat, (n : Int) ∈ D → n < gs.length ∧ (((gs.getD n default).k == 0) = false →
  nxtW gs M D n < n ∧ ((nxtW gs M D n : Nat) : Int) ∈ D ∧ 0 < (inK D (depF gs M n)).length ∧ (inK D (depF gs M n)).getD 0 0 = ((nxtW gs M D n : Nat) : Int))
theorem chgB_parts (gs : List Nd) (xs ys : List Int) (h : chgB gs xs ys = true) : okC gs xs = true ∧ okC gs ys = true := by
  unfold chgB at h
  simp only [Bool.and_eq_true] at h
  unfold okC
  rw [h.1.1, h.1.2, h.2]; exact ⟨rfl, rfl⟩
theorem chgF_bd (gs : List Nd) (xs ys : List Int) (x : Int) (h : x ∈ chgF gs xs ys) : chgB gs xs ys = true ∧ ∃ q : Nat, q < gs.length ∧ x = (q : Int) := by
  unfold chgF at h
  cases hb : chgB gs xs ys
  · rw [hb] at h; simp at h
  · rw [hb] at h
    simp only [if_true] at h
    unfold diffTo at h
    obtain ⟨r, hr, he⟩ := List.mem_map.1 h
    exact ⟨rfl, r, List.mem_range.1 (List.mem_filter.1 hr).1, he.symm⟩
theorem depF_ahead (gs : List Nd) (xs : List Int) (hx : okC gs xs = true) (i : Nat) (hi : i < gs.length) (x : Int) (h : x ∈ depF gs (mean gs xs) i) : ∃ q : Nat, q < i ∧ x = (q : Int) := by
  unfold depF at h
  cases hk : ((gs.getD i default).k == 0)
  · rw [hk] at h
    simp only [Bool.false_eq_true, if_false] at h
    rw [firsts_mem] at h
    have hg := (okC_parts gs xs hx).1
    have hv := (nodeOK_formula gs i ((validG_parts gs hg).2 i hi) hk).1
    exact rds_lt _ _ i (whole_ok _ i hv (each_ahead gs i i hg hi hk (Nat.le_refl _))) x h
  · rw [hk] at h; simp at h
theorem step_why (gs : List Nd) (xs ys : List Int) : StepW gs (mean gs xs) (chgF gs xs ys) := by
  intro n hn
  obtain ⟨hb, q, hq, he⟩ := chgF_bd gs xs ys _ hn
  have hqn : q = n := by omega
  subst hqn
  refine ⟨hq, fun hk => ?_⟩
  obtain ⟨hx, hy⟩ := chgB_parts gs xs ys hb
  have hD : chgF gs xs ys = diffTo (mean gs xs) (mean gs ys) gs.length := by unfold chgF; rw [hb]; rfl
  have hm := must_changed gs xs ys hx hy q hq hk (by rw [← hD]; exact hn)
  rw [← hD] at hm
  obtain ⟨x, hxd, hxD⟩ := List.any_eq_true.1 hm
  have hxin : x ∈ inK (chgF gs xs ys) (depF gs (mean gs xs) q) := List.mem_filter.2 ⟨of_decide_eq_true hxD, decide_eq_true hxd⟩
  unfold nxtW
  cases hl : inK (chgF gs xs ys) (depF gs (mean gs xs) q) with
  | nil => rw [hl] at hxin; cases hxin
  | cons y l =>
    have hy2 : y ∈ inK (chgF gs xs ys) (depF gs (mean gs xs) q) := by rw [hl]; exact List.mem_cons_self
    obtain ⟨h1, h2⟩ := List.mem_filter.1 hy2
    obtain ⟨r, hr, rfl⟩ := depF_ahead gs xs hx q hq y (of_decide_eq_true h2)
    refine ⟨?_, ?_, by simp, by simp⟩
    · simpa using hr
    · simpa using h1
theorem wayF_more (gs : List Nd) (M D : List Int) (H : StepW gs M D) : ∀ (n : Nat), (n : Int) ∈ D → ∀ f g, n ≤ f → n ≤ g → wayF gs M D f n = wayF gs M D g n := by
  intro n
  induction n using Nat.strongRecOn with
  | ind n ih =>
    intro hn f g hf hg
    obtain ⟨_, hst⟩ := H n hn
    cases hk : ((gs.getD n default).k == 0)
    · obtain ⟨h1, h2, _, _⟩ := hst hk
      obtain ⟨f, rfl⟩ : ∃ f', f = f' + 1 := ⟨f - 1, by omega⟩
      obtain ⟨g, rfl⟩ : ∃ g', g = g' + 1 := ⟨g - 1, by omega⟩
      simp only [wayF, hk, Bool.false_eq_true, if_false]
      rw [ih _ h1 h2 f g (by omega) (by omega)]
    · cases f <;> cases g <;> simp only [wayF, hk, if_true]
theorem way_cell (gs : List Nd) (M D : List Int) (n f : Nat) (hk : ((gs.getD n default).k == 0) = true) : wayF gs M D f n = [(n : Int)] := by
  cases f <;> simp only [wayF, hk, if_true]
theorem way_step (gs : List Nd) (M D : List Int) (H : StepW gs M D) (h10 : gs.length ≤ 10) (n : Nat) (hn : (n : Int) ∈ D) (hk : ((gs.getD n default).k == 0) = false) : wayF gs M D 10 n = wayF gs M D 10 (nxtW gs M D n) ++ [(n : Int)] := by
  obtain ⟨hl, hst⟩ := H n hn
  obtain ⟨h1, h2, _, _⟩ := hst hk
  rw [wayF_more gs M D H n hn 10 11 (by omega) (by omega)]
  simp only [wayF, hk, Bool.false_eq_true, if_false]
end Go.Proofs.Ytdhjflhpenkchaa
