/- Words and contracts for memory that the texts behind use. -/
import Derived.Test.YtgakgmkonmgblaaGreatA0
import Derived.Test.YtgakgmkonmgblaaGreatA1
import Derived.Test.YtgakgmkonmgblaaGreatA2
import Derived.Test.YtgakgmkonmgblaaGreatA3
import Derived.Test.YtgakgmkonmgblaaGreatA4
import Derived.Test.YtgakgmkonmgblaaGreatA5
import Derived.Test.YtgakgmkonmgblaaGreatA6
import Derived.Test.YtgakgmkonmgblaaGreatA7
import Derived.Test.YtgakgmkonmgblaaGreatA8
import Derived.Test.YtgakgmkonmgblaaGreatZ0
import Derived.Test.YtgakgmkonmgblaaGreatZ1
import Derived.Test.YtgakgmkonmgblaaGreatZ2
import Derived.Test.YtgakgmkonmgblaaGreatA9a
import Derived.Test.YtgakgmkonmgblaaGreatA9b
import Derived.Test.YtgakgmkonmgblaaGreatA9c
import Derived.Test.YtgakgmkonmgblaaGreatA9
import Derived.Test.YtgakgmkonmgblaaGreatAa
import Derived.WalkKit
import Derived.Laws.OwnMore
import Derived.Deep.Draws
import Derived.Test.YtgakgmkonmgblaaGreatProg
import Derived.WalkSpells
import Derived.WalkLawsBesides
import Derived.Outline
import Derived.Lib.Hide
import Derived.BigQuiet
import Derived.Deep.QuietTactic
import Derived.StillTailTactics
import Derived.Deep.LoopGhost
import Derived.Laws.MakeOwn
import Derived.WalkSmall
import Derived.RegionTactic
import Derived.BigRegion
import Derived.Deep.RegionWith
import Derived.Deep.RegionHeld3
import Derived.Maps.Own
import Derived.Maps.Views
import Derived.Maps.AppendAt
import Derived.Laws.CopyOwn
import Derived.ChangeAlike
import Derived.Deep.Cut
import Derived.Deep.AppendLies
import Derived.Laws.Entries
import Derived.Laws.Bits64
import Derived.IntWalk
import Derived.Deep.RegionLaw
import Derived.Deep.DeepCutAuto
import Derived.Lib.SliceRun
import Derived.BigFrame

namespace Go.Proofs.YtgakgmkonmgblaaGreat
set_option linter.unusedSimpArgs false
set_option linter.unusedVariables false
open Go.RowKit
theorem firsts_nodup (l : List Int) : (firsts l).Nodup :=
  firsts_inv (fun a => a.Nodup) l [] List.nodup_nil fun acc x _ h => by
    by_cases hx : x ∈ acc
    · rw [if_pos hx]; exact h
    · rw [if_neg hx]
      refine List.nodup_append.2 ⟨h, by simp, ?_⟩
      intro a ha b hb e
      simp at hb
      subst hb; subst e
      exact hx ha
/-- What is read may be read. -/
theorem rds_node (ps : List Pt) (hg : AllGood ps) (vs : List Int) (f : Nat) : ∀ i, i < f → i < ps.length → ∀ x ∈ (tmAt ps f i).rds vs, ∃ q : Nat, q < 10 ∧ x = (q : Int) ∧ hasNode ps q = true := by
  induction f with
  | zero => intro i hi; omega
  | succ f ih =>
    intro i hi hin x hx
    have hgi := hg i hin
    have hmem : ps.getD i default ∈ ps := by simp [List.getD, hin]
    rw [tmAt_eq] at hx
    have hbn := good_bel_nat _ _ hgi
    have hnum := good_num _ _ hgi
    generalize ps.getD i default = p at *
    rcases good_kind _ _ hgi with h0 | h0 | h0 | h0
    · simp only [h0] at hx
      simp [Tm.rds] at hx
    · have h1 : (p.k == 1) = true := by simp [h0]
      have h00 : (p.k == 0) = false := by simp [h0]
      simp only [h00, h1, if_true, Bool.false_eq_true, if_false, Tm.rds, List.mem_singleton] at hx
      have := hnum.2 h0
      refine ⟨p.n.toNat, by omega, by omega, ?_⟩
      unfold hasNode
      rw [List.any_eq_true]
      exact ⟨_, hmem, by rw [h1, Bool.true_and]; simp only [beq_iff_eq]; omega⟩
    · obtain ⟨a, b, ea, eb, la, lb⟩ := hbn.1 h0
      have k0 : (p.k == 0) = false := by simp; omega
      have k1 : (p.k == 1) = false := by simp; omega
      have k8 : (p.k == 8) = false := by simp; omega
      simp only [k0, k1, k8, Bool.false_eq_true, if_false, ea, eb, Int.toNat_natCast, Tm.rds, List.mem_append] at hx
      rcases hx with hx | hx
      · exact ih a (by omega) (by omega) x hx
      · exact ih b (by omega) (by omega) x hx
    · obtain ⟨a, b, c, ea, eb, ec, la, lb, lc⟩ := hbn.2 h0
      have k0 : (p.k == 0) = false := by simp [h0]
      have k1 : (p.k == 1) = false := by simp [h0]
      have k8 : (p.k == 8) = true := by simp [h0]
      simp only [k0, k1, k8, Bool.false_eq_true, if_false, if_true, ea, eb, ec, Int.toNat_natCast, Tm.rds, List.mem_append] at hx
      rcases hx with hx | hx
      · exact ih a (by omega) (by omega) x hx
      · split at hx
        · exact ih c (by omega) (by omega) x hx
        · exact ih b (by omega) (by omega) x hx
theorem readF_may (ps : List Pt) (vs : List Int) : (readF ps vs).Nodup ∧ ∀ x ∈ readF ps vs, x ∈ mayF ps := by
  unfold readF mayF
  cases h : canEv ps vs
  · simp
  · simp only [if_true]
    obtain ⟨hv, hvo, hl, he⟩ := canEv_parts ps vs h
    obtain ⟨hg, h1, h12⟩ := validF_good ps hv
    rw [hv]
    refine ⟨firsts_nodup _, fun x hx => ?_⟩
    rw [firsts_mem] at hx
    obtain ⟨q, hq, rfl, hq2⟩ := rds_node ps hg vs ps.length (ps.length - 1) (by omega) (by omega) x hx
    simp only [if_true]
    rw [mem_mayR]
    exact ⟨q, hq, hq2, rfl⟩

/-! Graphs. -/
end Go.Proofs.YtgakgmkonmgblaaGreat

namespace Go.Proofs.YtgakgmkonmgblaaGreat
set_option linter.unusedSimpArgs false
set_option linter.unusedVariables false
open Go.RowKit
/-- The set T has all steps. -/
def ClS (steps : Nat → List Nat) (T : Nat → Bool) : Prop := ∀ x, T x = true → ∀ y ∈ steps x, T y = true
/-- The nodes that a node's formula has, and those whose formula has a node. -/
def rdsN (gs : List Nd) (j : Nat) : List Nat := (mayR (gs.getD j default).ps).map Int.toNat
def usN (gs : List Nd) (n j : Nat) : List Nat := (List.range n).filter fun u => decide ((j : Int) ∈ mayR (gs.getD u default).ps)
theorem mem_rdsN (gs : List Nd) (h : validG gs = true) (j q : Nat) (hj : j < gs.length) : q ∈ rdsN gs j ↔ (q : Int) ∈ mayR (gs.getD j default).ps := by
  unfold rdsN
  rw [List.mem_map]
  constructor
  · rintro ⟨x, hx, rfl⟩
    have := mayR_ahead gs j h hj x hx
    rw [Int.toNat_of_nonneg this.1]; exact hx
  · intro hq; exact ⟨_, hq, by simp⟩
theorem mem_usN (gs : List Nd) (n j u : Nat) : u ∈ usN gs n j ↔ u < n ∧ (j : Int) ∈ mayR (gs.getD u default).ps := by
  unfold usN
  rw [List.mem_filter, List.mem_range, decide_eq_true_iff]
theorem usN_gt (gs : List Nd) (h : validG gs = true) (n j u : Nat) (hn : n ≤ gs.length) (hu : u ∈ usN gs n j) : j < u := by
  obtain ⟨h1, h2⟩ := (mem_usN gs n j u).1 hu
  have := mayR_ahead gs u h (by omega) _ h2
  omega
/-- Whether nodes are met on ways from starts. -/
def reachTo (gs : List Nd) (st : List Int) : Nat → List Int
  | 0 => []
  | k + 1 => reachTo gs st k ++ if (decide ((k : Int) ∈ st) || (mayR (gs.getD k default).ps).any fun r => decide (r ∈ reachTo gs st k)) then [(k : Int)] else []
theorem reachTo_mem (gs : List Nd) (st : List Int) (k : Nat) (x : Int) (h : x ∈ reachTo gs st k) : ∃ q : Nat, q < k ∧ x = (q : Int) := by
  induction k with
  | zero => simp [reachTo] at h
  | succ k ih =>
    simp only [reachTo, List.mem_append] at h
    rcases h with h | h
    · obtain ⟨q, h1, h2⟩ := ih h; exact ⟨q, by omega, h2⟩
    · split at h
      · simp at h; exact ⟨k, by omega, h⟩
      · simp at h
theorem reachTo_more (gs : List Nd) (st : List Int) (k n q : Nat) (hq : q < k) (hk : k ≤ n) : ((q : Int) ∈ reachTo gs st n) ↔ ((q : Int) ∈ reachTo gs st k) := by
  induction n with
  | zero => omega
  | succ n ih =>
    rcases Nat.lt_or_ge n k with h1 | h1
    · have : k = n + 1 := by omega
      subst this; rfl
    · rw [← ih h1]
      simp only [reachTo, List.mem_append]
      constructor
      · rintro (h | h)
        · exact h
        · split at h
          · simp at h; omega
          · simp at h
      · exact .inl
theorem reachTo_iff (gs : List Nd) (st : List Int) (n q : Nat) (hq : q < n) : ((q : Int) ∈ reachTo gs st n) ↔ ((q : Int) ∈ st ∨ ∃ r ∈ mayR (gs.getD q default).ps, r ∈ reachTo gs st q) := by
  rw [reachTo_more gs st (q + 1) n q (by omega) (by omega)]
  simp only [reachTo, List.mem_append]
  constructor
  · rintro (h | h)
    · obtain ⟨p, h1, h2⟩ := reachTo_mem gs st q _ h; omega
    · split at h
      · rename_i hc
        simp only [Bool.or_eq_true, decide_eq_true_eq, List.any_eq_true] at hc
        exact hc
      · simp at h
  · intro h
    right
    rw [if_pos (by simp only [Bool.or_eq_true, decide_eq_true_eq, List.any_eq_true]; exact h)]
    simp
/-- The set of nodes that are reached: closed, and the least one. -/
theorem reach_cl (gs : List Nd) (h : validG gs = true) (st : List Int) : ClS (usN gs gs.length) fun i => decide ((i : Int) ∈ reachTo gs st gs.length) := by
  intro x hx y hy
  obtain ⟨h1, h2⟩ := (mem_usN _ _ _ _).1 hy
  have hgt := usN_gt gs h _ _ _ (Nat.le_refl _) hy
  simp only [decide_eq_true_eq] at *
  rw [reachTo_iff gs st _ y h1]
  exact .inr ⟨_, h2, (reachTo_more gs st y gs.length x hgt (by omega)).1 hx⟩
end Go.Proofs.YtgakgmkonmgblaaGreat

namespace Go.Proofs.YtgakgmkonmgblaaGreat
set_option linter.unusedSimpArgs false
set_option linter.unusedVariables false
open Go.RowKit
theorem mayF_valid (gs : List Nd) (k : Nat) (hv : validG gs = true) (hk : k < gs.length) : mayF (gs.getD k default).ps = mayR (gs.getD k default).ps := by
  unfold mayF
  cases h0 : ((gs.getD k default).k == 0)
  · rw [(nodeOK_formula gs k ((validG_parts gs hv).2 k hk) h0).1]; rfl
  · rw [nodeOK_cell gs k ((validG_parts gs hv).2 k hk) h0, mayR_nil]
    cases validF [] <;> rfl
end Go.Proofs.YtgakgmkonmgblaaGreat

namespace Go.Proofs.YtgakgmkonmgblaaGreat
set_option linter.unusedSimpArgs false
set_option linter.unusedVariables false
open Go.RowKit Go.Maps
/-- Starts that are nodes. -/
def stOK (gs : List Nd) (xs : List Int) : Prop := ∀ x ∈ xs, 0 ≤ x ∧ x < (gs.length : Int)
end Go.Proofs.YtgakgmkonmgblaaGreat

namespace Go.Proofs.YtgakgmkonmgblaaGreat
set_option linter.unusedSimpArgs false
set_option linter.unusedVariables false
open Go.RowKit
theorem meanTo_pre (gs : List Nd) (cs : List Int) (i n j : Nat) (h : i ≤ n) (hj : j < i) : (meanTo gs cs n).getD j 0 = (meanTo gs cs i).getD j 0 := by
  induction n with
  | zero => omega
  | succ n ih =>
    rcases Nat.lt_or_ge n i with h1 | h1
    · have : i = n + 1 := by omega
      subst this
      rfl
    · rw [← ih h1]
      have hl := meanTo_len gs cs n
      show (meanTo gs cs n ++ [_]).getD j 0 = _
      simp [List.getD, List.getElem?_append, hl, show j < n by omega]
theorem meanTo_last (gs : List Nd) (cs : List Int) (i : Nat) : (meanTo gs cs (i + 1)).getD i 0 = if (gs.getD i default).k == 0 then cs.getD i 0 else (whole (gs.getD i default).ps).ev (meanTo gs cs i) := by
  have hl := meanTo_len gs cs i
  show (meanTo gs cs i ++ [_]).getD i 0 = _
  simp [List.getD, List.getElem?_append, hl]
theorem mean_cell (gs : List Nd) (cs : List Int) (i : Nat) (hi : i < gs.length) (hk : ((gs.getD i default).k == 0) = true) : (mean gs cs).getD i 0 = cs.getD i 0 := by
  unfold mean
  rw [meanTo_pre gs cs (i + 1) gs.length i (by omega) (by omega), meanTo_last, hk]
  rfl
theorem mean_node (gs : List Nd) (cs : List Int) (h : okC gs cs = true) (i : Nat) (hi : i < gs.length) (hk : ((gs.getD i default).k == 0) = false) :
    canEv (gs.getD i default).ps (mean gs cs) = true ∧ valF (gs.getD i default).ps (mean gs cs) = (mean gs cs).getD i 0 := by
  obtain ⟨hg, hc⟩ := okC_parts gs cs h
  have h10 := (validG_parts gs hg).1
  have hml : (mean gs cs).length = gs.length := meanTo_len gs cs gs.length
  have hvf := (nodeOK_formula gs i ((validG_parts gs hg).2 i hi) hk).1
  have hce : canEv (gs.getD i default).ps (mean gs cs) = true := canEv_of _ _ hvf (by omega) (meanTo_VOK gs cs h gs.length (Nat.le_refl _)) (by rw [hml]; exact each_ahead gs i gs.length hg hi hk (by omega))
  refine ⟨hce, ?_⟩
  unfold valF
  rw [hce, if_pos rfl]
  have hok : (whole (gs.getD i default).ps).ok i := whole_ok _ i hvf (each_ahead gs i i hg hi hk (Nat.le_refl _))
  have hag := (ev_agree (whole (gs.getD i default).ps) (meanTo gs cs i) (mean gs cs) i hok fun x hx => by
    obtain ⟨q, hq, rfl⟩ := rds_lt _ _ i hok x hx
    unfold mean
    exact meanTo_pre gs cs i gs.length q (by omega) hq).1
  rw [hag]
  unfold mean
  rw [meanTo_pre gs cs (i + 1) gs.length i (by omega) (by omega), meanTo_last, hk]
  rfl
end Go.Proofs.YtgakgmkonmgblaaGreat

namespace Go.Proofs.YtgakgmkonmgblaaGreat
set_option linter.unusedSimpArgs false
set_option linter.unusedVariables false
open Go.RowKit
/-- What a node reads is among what it may read. -/
theorem rds_in (gs : List Nd) (xs : List Int) (h : okC gs xs = true) (i : Nat) (hi : i < gs.length) (hk : ((gs.getD i default).k == 0) = false) :
    readF (gs.getD i default).ps (mean gs xs) = firsts ((whole (gs.getD i default).ps).rds (mean gs xs)) ∧ ∀ x ∈ (whole (gs.getD i default).ps).rds (mean gs xs), x ∈ mayR (gs.getD i default).ps := by
  obtain ⟨hce, _⟩ := mean_node gs xs h i hi hk
  have e : readF (gs.getD i default).ps (mean gs xs) = firsts ((whole (gs.getD i default).ps).rds (mean gs xs)) := by unfold readF; rw [hce]; rfl
  refine ⟨e, fun x hx => ?_⟩
  have := (readF_may (gs.getD i default).ps (mean gs xs)).2 x (by rw [e]; exact (firsts_mem _ _).2 hx)
  rwa [mayF_valid gs i (okC_parts gs xs h).1 hi] at this
/-- Meanings agree where all that may be read agrees. -/
theorem mean_agree (gs : List Nd) (xs ys : List Int) (hx : okC gs xs = true) (hy : okC gs ys = true) (S : Nat → Bool) (hS : ClS (rdsN gs) S)
    (hc : ∀ i, i < gs.length → S i = true → ((gs.getD i default).k == 0) = true → xs.getD i 0 = ys.getD i 0) :
    ∀ i, i < gs.length → S i = true → (mean gs xs).getD i 0 = (mean gs ys).getD i 0 := by
  have hv := (okC_parts gs xs hx).1
  intro i
  induction i using Nat.strongRecOn with
  | ind i ih =>
    intro hi hs
    cases hk : (gs.getD i default).k == 0
    · obtain ⟨hce, hva⟩ := mean_node gs xs hx i hi hk
      obtain ⟨hce', hva'⟩ := mean_node gs ys hy i hi hk
      unfold valF at hva hva'
      rw [hce, if_pos rfl] at hva
      rw [hce', if_pos rfl] at hva'
      rw [← hva, ← hva']
      have hvf := (nodeOK_formula gs i ((validG_parts gs hv).2 i hi) hk).1
      have hok : (whole (gs.getD i default).ps).ok i := whole_ok _ i hvf (each_ahead gs i i hv hi hk (Nat.le_refl _))
      refine ((ev_agree _ (mean gs xs) (mean gs ys) i hok fun x hm => ?_).1).symm
      have hr := (rds_in gs xs hx i hi hk).2 x hm
      have hb := mayR_ahead gs i hv hi _ hr
      obtain ⟨u, rfl⟩ : ∃ u : Nat, x = (u : Int) := ⟨x.toNat, by omega⟩
      have hu : u ∈ rdsN gs i := (mem_rdsN gs hv i u hi).2 hr
      exact (ih u (by omega) (by omega) (hS i hs u hu)).symm
    · rw [mean_cell gs xs i hi hk, mean_cell gs ys i hi hk]
      exact hc i hi hs hk
end Go.Proofs.YtgakgmkonmgblaaGreat

namespace Go.Proofs.YtgakgmkonmgblaaGreat
set_option linter.unusedSimpArgs false
set_option linter.unusedVariables false
open Go.RowKit
/-- Nodes that are no cells. -/
def ncB (gs : List Nd) (x : Int) : Bool := !((gs.getD x.toNat default).k == 0)
/-- What MayRun answers. -/
def mrB (gs : List Nd) (xs : List Int) : Bool := validG gs && (decide (xs.length ≤ 10) && wrB gs xs)
def mrF (gs : List Nd) (xs : List Int) : List Int := if mrB gs xs then (reachTo gs xs gs.length).filter (ncB gs) else []
end Go.Proofs.YtgakgmkonmgblaaGreat

namespace Go.Proofs.YtgakgmkonmgblaaGreat
set_option linter.unusedSimpArgs false
set_option linter.unusedVariables false
open Go.RowKit
theorem nodup_le : ∀ (m : Nat) (L : List Int), L.Nodup → (∀ x ∈ L, 0 ≤ x ∧ x < (m : Int)) → L.length ≤ m := by
  intro m
  induction m with
  | zero =>
    intro L _ h
    cases L with
    | nil => simp
    | cons x r => have := h x (by simp); omega
  | succ m ih =>
    intro L hn h
    have h1 := ih (L.erase (m : Int)) (hn.erase _) (fun x hx => by
      have h2 := (hn.mem_erase_iff).1 hx
      have h3 := h x h2.2
      have h4 := h2.1
      omega)
    rw [List.length_erase] at h1
    split at h1 <;> omega
theorem wrB_parts (gs : List Nd) (xs : List Int) (h : wrB gs xs = true) : xs.Nodup ∧ stOK gs xs := by
  unfold wrB at h
  simp only [Bool.and_eq_true, decide_eq_true_eq] at h
  refine ⟨h.2, fun x hx => ?_⟩
  obtain ⟨k, hk, rfl⟩ := List.getElem_of_mem hx
  have h1 := h.1 k hk
  have e : xs.getD k 0 = xs[k] := by simp [List.getD, hk]
  rw [e] at h1
  unfold isC at h1
  simp only [Bool.and_eq_true] at h1
  obtain ⟨t, ht, htl⟩ := hasN_nat gs _ h1.1
  rw [ht]; omega
theorem wrB_len (gs : List Nd) (xs : List Int) (h : wrB gs xs = true) : xs.length ≤ gs.length := by
  obtain ⟨h1, h2⟩ := wrB_parts gs xs h
  exact nodup_le gs.length xs h1 h2
theorem mrB_eq (gs : List Nd) (xs : List Int) : mrB gs xs = (validG gs && wrB gs xs) := by
  unfold mrB
  cases hv : validG gs
  · rfl
  · cases hw : wrB gs xs
    · simp
    · have := wrB_len gs xs hw
      have := (validG_parts gs hv).1
      rw [decide_eq_true (by omega)]; rfl
end Go.Proofs.YtgakgmkonmgblaaGreat
