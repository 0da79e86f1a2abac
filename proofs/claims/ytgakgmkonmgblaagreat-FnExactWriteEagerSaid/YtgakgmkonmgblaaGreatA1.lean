/- Words and contracts for memory that the texts behind use. -/
import Derived.Test.YtgakgmkonmgblaaGreatA0
import Derived.WalkKit
import Derived.Laws.OwnMore
import Derived.Deep.Draws
import Derived.Test.YtgakgmkonmgblaaGreatProg
import Derived.WalkSpells
import Derived.WalkLawsBesides
import Derived.Outline
import Derived.Lib.Hide
import Derived.BigQuiet
import Derived.Deep.QuietTactic
import Derived.StillTailTactics
import Derived.Deep.LoopGhost
import Derived.Laws.MakeOwn
import Derived.WalkSmall
import Derived.RegionTactic
import Derived.BigRegion
import Derived.Deep.RegionWith
import Derived.Deep.RegionHeld3
import Derived.Maps.AppendAt
import Derived.Laws.CopyOwn
import Derived.Laws.Entries
import Derived.Laws.Bits64
import Derived.IntWalk
import Derived.Deep.RegionLaw
import Derived.Deep.AppendLies
import Derived.Deep.Cut
import Derived.Deep.DeepCutAuto
import Derived.Maps.Own
import Derived.Maps.Views
import Derived.ChangeAlike

namespace Go.Proofs.YtgakgmkonmgblaaGreat
set_option linter.unusedSimpArgs false
set_option linter.unusedVariables false
open Go.RowKit
theorem take_succ_getD {α : Type} [Inhabited α] (l : List α) (k : Nat) (h : k < l.length) : l.take (k + 1) = l.take k ++ [l.getD k default] := by
  rw [List.take_succ_eq_append_getElem h]; simp [List.getD, h]
end Go.Proofs.YtgakgmkonmgblaaGreat

namespace Go.Proofs.YtgakgmkonmgblaaGreat
set_option linter.unusedSimpArgs false
set_option linter.unusedVariables false
open Go.RowKit
theorem allR_false (l : List Int) (lo hi : Int) (k : Nat) (h : k < l.length) (hr : rng (l.getD k 0) lo hi = false) : allR l lo hi = false := by
  unfold allR
  rw [List.all_eq_false]
  exact ⟨l.getD k 0, by simp [List.getD, h], by rw [hr]; simp⟩
theorem allR_true (l : List Int) (lo hi : Int) (h : ∀ k, k < l.length → rng (l.getD k 0) lo hi = true) : allR l lo hi = true := by
  unfold allR
  rw [List.all_eq_true]
  intro x hx
  obtain ⟨k, hk, rfl⟩ := List.mem_iff_getElem.1 hx
  have := h k hk
  simpa [List.getD, hk] using this
end Go.Proofs.YtgakgmkonmgblaaGreat

namespace Go.Proofs.YtgakgmkonmgblaaGreat
set_option linter.unusedSimpArgs false
set_option linter.unusedVariables false
open Go.RowKit
/-- A cell is a value, 0 if its node is no cell. -/
def cellOK (gs : List Nd) (cs : List Int) (i : Nat) : Bool := rng (cs.getD i 0) 0 999 && ((gs.getD i default).k == 0 || cs.getD i 0 == 0)
def validC (gs : List Nd) (cs : List Int) : Bool := decide (cs.length = gs.length) && decide (∀ i, i < gs.length → cellOK gs cs i = true)
def okC (gs : List Nd) (cs : List Int) : Bool := validG gs && validC gs cs
theorem validC_fin (gs : List Nd) (cs : List Int) (hl : cs.length = gs.length) (h : ∀ i, i < gs.length → cellOK gs cs i = true) : validC gs cs = true := by
  unfold validC
  rw [decide_eq_true hl, decide_eq_true h]; rfl
theorem validC_parts (gs : List Nd) (cs : List Int) (h : validC gs cs = true) : cs.length = gs.length ∧ ∀ i, i < gs.length → cellOK gs cs i = true := by
  unfold validC at h
  simpa only [Bool.and_eq_true, decide_eq_true_eq] using h
theorem cellOK_bd (gs : List Nd) (cs : List Int) (i : Nat) (h : cellOK gs cs i = true) : 0 ≤ cs.getD i 0 ∧ cs.getD i 0 ≤ 999 := by
  unfold cellOK rng at h
  simp only [Bool.and_eq_true, decide_eq_true_eq] at h
  exact h.1
theorem validC_VOK (gs : List Nd) (cs : List Int) (h : validC gs cs = true) : VOK cs := by
  obtain ⟨hl, hc⟩ := validC_parts gs cs h
  intro j hj
  exact cellOK_bd gs cs j (hc j (by omega))
theorem validC_allR (gs : List Nd) (cs : List Int) (h : validC gs cs = true) : allR cs 0 999 = true := by
  refine allR_true _ _ _ fun k hk => ?_
  have := validC_VOK gs cs h k hk
  unfold rng
  simpa using this
/-- The values of the first nodes. -/
def meanTo (gs : List Nd) (cs : List Int) : Nat → List Int
  | 0 => []
  | i + 1 => meanTo gs cs i ++ [if (gs.getD i default).k == 0 then cs.getD i 0 else (whole (gs.getD i default).ps).ev (meanTo gs cs i)]
def mean (gs : List Nd) (cs : List Int) : List Int := meanTo gs cs gs.length
theorem meanTo_len (gs : List Nd) (cs : List Int) (i : Nat) : (meanTo gs cs i).length = i := by
  induction i with
  | zero => rfl
  | succ i ih => simp [meanTo, ih]
theorem okC_parts (gs : List Nd) (cs : List Int) (h : okC gs cs = true) : validG gs = true ∧ validC gs cs = true := by
  unfold okC at h
  simpa only [Bool.and_eq_true] using h
/-- The indices at which two lists differ. -/
def diffTo (a b : List Int) (k : Nat) : List Int := ((List.range k).filter fun i => !(a.getD i 0 == b.getD i 0)).map fun i : Nat => (i : Int)
end Go.Proofs.YtgakgmkonmgblaaGreat

namespace Go.Proofs.YtgakgmkonmgblaaGreat
set_option linter.unusedSimpArgs false
set_option linter.unusedVariables false
open Go.RowKit
/-- What is not read does not matter. -/
theorem ev_agree (t : Tm) (vs vs' : List Int) (m : Nat) (hok : t.ok m) (h : ∀ x ∈ t.rds vs, vs'.getD x.toNat 0 = vs.getD x.toNat 0) : t.ev vs' = t.ev vs ∧ t.rds vs' = t.rds vs := by
  induction t with
  | num v => exact ⟨rfl, rfl⟩
  | rd v =>
    simp only [Tm.ev, Tm.rds] at *
    exact ⟨h v (by simp), trivial⟩
  | pr k l r ihl ihr =>
    simp only [Tm.ok] at hok
    simp only [Tm.ev, Tm.rds] at *
    obtain ⟨l1, l2⟩ := ihl hok.1 fun x hx => h x (List.mem_append_left _ hx)
    obtain ⟨r1, r2⟩ := ihr hok.2 fun x hx => h x (List.mem_append_right _ hx)
    rw [l1, l2, r1, r2]
    exact ⟨rfl, rfl⟩
  | ch a b c iha ihb ihc =>
    simp only [Tm.ok] at hok
    simp only [Tm.ev, Tm.rds] at *
    obtain ⟨a1, a2⟩ := iha hok.1 fun x hx => h x (List.mem_append_left _ hx)
    rw [a1, a2]
    split
    · rename_i h0
      obtain ⟨b1, b2⟩ := ihc hok.2.2 fun x hx => h x (List.mem_append_right _ (by rw [if_pos h0]; exact hx))
      rw [b1, b2]
      exact ⟨rfl, rfl⟩
    · rename_i h0
      obtain ⟨c1, c2⟩ := ihb hok.2.1 fun x hx => h x (List.mem_append_right _ (by rw [if_neg h0]; exact hx))
      rw [c1, c2]
      exact ⟨rfl, rfl⟩
theorem firsts_mem (l : List Int) (x : Int) : x ∈ firsts l ↔ x ∈ l := by
  have : ∀ (l acc : List Int), x ∈ l.foldl (fun acc x => if x ∈ acc then acc else acc ++ [x]) acc ↔ x ∈ acc ∨ x ∈ l := by
    intro l
    induction l with
    | nil => intro acc; simp
    | cons y l ih =>
      intro acc
      rw [List.foldl_cons, ih]
      by_cases hy : y ∈ acc
      · rw [if_pos hy, List.mem_cons]
        constructor
        · rintro (h | h)
          · exact .inl h
          · exact .inr (.inr h)
        · rintro (h | h | h)
          · exact .inl h
          · subst h; exact .inl hy
          · exact .inr h
      · rw [if_neg hy, List.mem_append, List.mem_cons, List.mem_cons]
        simp only [List.not_mem_nil, or_false]
        constructor
        · rintro ((h | h) | h)
          · exact .inl h
          · exact .inr (.inl h)
          · exact .inr (.inr h)
        · rintro (h | h | h)
          · exact .inl (.inl h)
          · exact .inl (.inr h)
          · exact .inr h
  simpa [firsts] using this l []
end Go.Proofs.YtgakgmkonmgblaaGreat

namespace Go.Proofs.YtgakgmkonmgblaaGreat
set_option linter.unusedSimpArgs false
set_option linter.unusedVariables false
open Go.RowKit
theorem mean_step (gs : List Nd) (xs : List Int) (k : Nat) : meanTo gs xs (k + 1) = meanTo gs xs k ++ [if (gs.getD k default).k == 0 then xs.getD k 0 else (whole (gs.getD k default).ps).ev (meanTo gs xs k)] := rfl
end Go.Proofs.YtgakgmkonmgblaaGreat

namespace Go.Proofs.YtgakgmkonmgblaaGreat
set_option linter.unusedSimpArgs false
set_option linter.unusedVariables false
open Go.RowKit
theorem mean_len (gs : List Nd) (xs : List Int) : (mean gs xs).length = gs.length := meanTo_len _ _ _
end Go.Proofs.YtgakgmkonmgblaaGreat

namespace Go.Proofs.YtgakgmkonmgblaaGreat
set_option linter.unusedSimpArgs false
set_option linter.unusedVariables false
open Go.RowKit
def depTo (gs : List Nd) (vs : List Int) (k : Nat) : List (List Int) := (List.range k).map (depF gs vs)
theorem depTo_len (gs : List Nd) (vs : List Int) (k : Nat) : (depTo gs vs k).length = k := by simp [depTo]
end Go.Proofs.YtgakgmkonmgblaaGreat

namespace Go.Proofs.YtgakgmkonmgblaaGreat
set_option linter.unusedSimpArgs false
set_option linter.unusedVariables false
open Go.RowKit
def chgB (gs : List Nd) (xs ys : List Int) : Bool := validG gs && validC gs xs && validC gs ys
/-- The first numbers for which something holds. -/
def nwTo (P : Nat → Bool) (n : Nat) : List Int := ((List.range n).filter P).map fun i : Nat => (i : Int)
theorem nwTo_step (P : Nat → Bool) (k : Nat) : nwTo P (k + 1) = nwTo P k ++ (if P k then [(k : Int)] else []) := by
  unfold nwTo
  rw [List.range_succ, List.filter_append, List.map_append]
  congr 1
  cases h : P k <;> simp [h]
end Go.Proofs.YtgakgmkonmgblaaGreat

namespace Go.Proofs.YtgakgmkonmgblaaGreat
set_option linter.unusedSimpArgs false
set_option linter.unusedVariables false
open Go.RowKit
/-- Values with 0 for the first nodes that are no cells. -/
def celTo (gs : List Nd) (vs : List Int) : Nat → List Int
  | 0 => vs
  | k + 1 => if (gs.getD k default).k == 0 then celTo gs vs k else (celTo gs vs k).set k 0
theorem celTo_len (gs : List Nd) (vs : List Int) (k : Nat) : (celTo gs vs k).length = vs.length := by
  induction k with
  | zero => rfl
  | succ k ih => unfold celTo; split <;> simp [ih]
theorem celTo_succ (gs : List Nd) (vs : List Int) (k : Nat) : celTo gs vs (k + 1) = if (gs.getD k default).k == 0 then celTo gs vs k else (celTo gs vs k).set k 0 := rfl
def cellsF (gs : List Nd) (st : Eg) : List Int := if validE gs st then celTo gs st.vs gs.length else []
end Go.Proofs.YtgakgmkonmgblaaGreat

namespace Go.Proofs.YtgakgmkonmgblaaGreat
set_option linter.unusedSimpArgs false
set_option linter.unusedVariables false
open Go.RowKit
/-- The state after all nodes ran. -/
def startF (gs : List Nd) (xs : List Int) : Eg := if okC gs xs then ⟨mean gs xs, depTo gs (mean gs xs) gs.length⟩ else ⟨[], []⟩
end Go.Proofs.YtgakgmkonmgblaaGreat

namespace Go.Proofs.YtgakgmkonmgblaaGreat
set_option linter.unusedSimpArgs false
set_option linter.unusedVariables false
theorem meanTo_take (gs : List Nd) (cs : List Int) (i k : Nat) (h : i ≤ k) : (meanTo gs cs k).take i = meanTo gs cs i := by
  induction k with
  | zero => obtain rfl : i = 0 := by omega
            simp [meanTo]
  | succ k ih =>
    have hl := meanTo_len gs cs k
    rcases Nat.lt_or_ge i (k + 1) with h1 | h1
    · rw [mean_step, List.take_append_of_le_length (by omega)]
      exact ih (by omega)
    · obtain rfl : i = k + 1 := by omega
      rw [List.take_of_length_le (by rw [meanTo_len]; exact Nat.le_refl _)]
theorem meanTo_getD (gs : List Nd) (cs : List Int) (i k q : Nat) (h : i ≤ k) (hq : q < i) : (meanTo gs cs k).getD q 0 = (meanTo gs cs i).getD q 0 := by
  rw [← meanTo_take gs cs i k h]
  simp only [List.getD, List.getElem?_take, if_pos hq]
theorem mean_at (gs : List Nd) (cs : List Int) (i : Nat) (hi : i < gs.length) : (mean gs cs).getD i 0 = if (gs.getD i default).k == 0 then cs.getD i 0 else (whole (gs.getD i default).ps).ev (meanTo gs cs i) := by
  unfold mean
  rw [meanTo_getD gs cs (i + 1) gs.length i (by omega) (by omega), mean_step]
  have hl := meanTo_len gs cs i
  simp [List.getD, hl]
/-- A node has to run: it is no cell, and reads a changed one. -/
def mustP (gs : List Nd) (M C : List Int) (i : Nat) : Bool := !((gs.getD i default).k == 0) && meetB (depF gs M i) C
def mustF (gs : List Nd) (xs ys : List Int) : List Int := if chgB gs xs ys then nwTo (mustP gs (mean gs xs) (diffTo (mean gs xs) (mean gs ys) gs.length)) gs.length else []
theorem diffTo_mem (a b : List Int) (n q : Nat) (hq : q < n) (h : (q : Int) ∉ diffTo a b n) : a.getD q 0 = b.getD q 0 := by
  apply Classical.byContradiction
  intro hne
  apply h
  unfold diffTo
  exact List.mem_map.2 ⟨q, List.mem_filter.2 ⟨List.mem_range.2 hq, by simpa using hne⟩, rfl⟩
theorem diffTo_iff (a b : List Int) (n q : Nat) (h : (q : Int) ∈ diffTo a b n) : a.getD q 0 ≠ b.getD q 0 := by
  unfold diffTo at h
  obtain ⟨r, hr, he⟩ := List.mem_map.1 h
  have : r = q := by exact_mod_cast he
  subst this
  have := (List.mem_filter.1 hr).2
  simpa using this
end Go.Proofs.YtgakgmkonmgblaaGreat

namespace Go.Proofs.YtgakgmkonmgblaaGreat
set_option linter.unusedSimpArgs false
set_option linter.unusedVariables false
open Go.RowKit
theorem ext_getD {α : Type} [Inhabited α] (l m : List α) (h : l.length = m.length) (he : ∀ i, i < l.length → l.getD i default = m.getD i default) : l = m := by
  apply List.ext_getElem h
  intro i h1 h2
  have := he i h1
  simpa [List.getD, h1, h2] using this
theorem ext_getD0 (l m : List Int) (h : l.length = m.length) (he : ∀ i, i < l.length → l.getD i 0 = m.getD i 0) : l = m := ext_getD l m h he
theorem ext_getDn (l m : List (List Int)) (h : l.length = m.length) (he : ∀ i, i < l.length → l.getD i [] = m.getD i []) : l = m := ext_getD l m h he
theorem celTo_get (gs : List Nd) (vs : List Int) (k i : Nat) (hi : i < vs.length) : (celTo gs vs k).getD i 0 = if i < k ∧ ((gs.getD i default).k == 0) = false then 0 else vs.getD i 0 := by
  induction k with
  | zero => simp [celTo]
  | succ k ih =>
    rw [celTo_succ]
    have hl := celTo_len gs vs k
    cases hk : ((gs.getD k default).k == 0)
    · simp only [Bool.false_eq_true, if_false]
      by_cases e : k = i
      · subst e
        rw [if_pos ⟨Nat.lt_succ_self _, hk⟩]
        simp [List.getD, List.getElem?_set, show k < (celTo gs vs k).length by omega]
      · have h1 : ((celTo gs vs k).set k 0).getD i 0 = (celTo gs vs k).getD i 0 := by simp [List.getD, List.getElem?_set, e]
        rw [h1, ih]
        by_cases h2 : i < k
        · simp [h2, show i < k + 1 by omega]
        · simp [h2, show ¬ i < k + 1 by omega]
    · simp only [if_true]
      rw [ih]
      by_cases e : k = i
      · subst e
        rw [hk]
        simp
      · by_cases h2 : i < k
        · simp [h2, show i < k + 1 by omega]
        · simp [h2, show ¬ i < k + 1 by omega]
theorem depTo_get (gs : List Nd) (vs : List Int) (n i : Nat) (h : i < n) : (depTo gs vs n).getD i [] = depF gs vs i := by
  unfold depTo
  simp [List.getD, h]
section
variable (gs : List Nd) (st : Eg)
theorem cells_ok (h : validE gs st = true) : okC gs (cellsF gs st) = true ∧ (cellsF gs st).length = gs.length := by
  obtain ⟨hg, hl, hr, ha, ho⟩ := validE_parts gs st h
  have hcl : (cellsF gs st).length = gs.length := by unfold cellsF; rw [h, if_pos rfl, celTo_len]; exact hl
  refine ⟨?_, hcl⟩
  unfold okC
  rw [hg, Bool.true_and]
  refine validC_fin _ _ hcl fun i hi => ?_
  have hget : (cellsF gs st).getD i 0 = if i < gs.length ∧ ((gs.getD i default).k == 0) = false then 0 else st.vs.getD i 0 := by
    unfold cellsF; rw [h, if_pos rfl]; exact celTo_get gs st.vs gs.length i (by omega)
  unfold cellOK
  rw [hget]
  cases hk : ((gs.getD i default).k == 0)
  · rw [if_pos ⟨hi, rfl⟩]; rfl
  · rw [if_neg (by simp)]
    have hx : rng (st.vs.getD i 0) 0 999 = true := by
      cases hx : rng (st.vs.getD i 0) 0 999
      · rw [allR_false st.vs 0 999 i (by omega) hx] at ha; cases ha
      · rfl
    rw [hx]; rfl
theorem mean_cells (h : validE gs st = true) : mean gs (cellsF gs st) = st.vs := by
  obtain ⟨hg, hl, hr, ha, ho⟩ := validE_parts gs st h
  have key : ∀ i, i ≤ gs.length → meanTo gs (cellsF gs st) i = st.vs.take i := by
    intro i
    induction i with
    | zero => intro _; rfl
    | succ i ih =>
      intro hi
      have ih := ih (by omega)
      have hget : (cellsF gs st).getD i 0 = if i < gs.length ∧ ((gs.getD i default).k == 0) = false then 0 else st.vs.getD i 0 := by
        unfold cellsF; rw [h, if_pos rfl]; exact celTo_get gs st.vs gs.length i (by omega)
      have hoi := ho i (by omega)
      unfold okE valE at hoi
      simp only [Bool.and_eq_true, beq_iff_eq, decide_eq_true_eq] at hoi
      have hts : st.vs.take (i + 1) = st.vs.take i ++ [st.vs.getD i 0] := take_succ_getD st.vs i (by omega)
      rw [hts]
      show meanTo gs (cellsF gs st) i ++ [_] = _
      rw [ih]
      congr 2
      cases hk : ((gs.getD i default).k == 0)
      · have hkn : ¬ (gs.getD i default).k = 0 := by simpa using hk
        rw [if_neg hkn] at hoi
        simp only [Bool.false_eq_true, if_false]
        rw [← hoi.1]
        have hvf := (nodeOK_formula gs i ((validG_parts gs hg).2 i (by omega)) hk).1
        have hok : (whole (gs.getD i default).ps).ok i := whole_ok _ i hvf (each_ahead gs i i hg (by omega) hk (Nat.le_refl _))
        refine (ev_agree (whole (gs.getD i default).ps) (st.vs) (st.vs.take i) i hok fun x hx => ?_).1
        obtain ⟨q, hq, rfl⟩ := rds_lt _ _ i hok x hx
        simp [List.getD, List.getElem?_take, hq]
      · simp only [if_true]
        rw [hget, if_neg (by rw [hk]; simp)]
  unfold mean
  rw [key gs.length (Nat.le_refl _), List.take_of_length_le (by omega)]
end
end Go.Proofs.YtgakgmkonmgblaaGreat
