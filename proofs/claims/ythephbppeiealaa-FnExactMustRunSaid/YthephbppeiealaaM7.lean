/- Plain facts on nodes that have to run. -/
import Derived.Test.YthephbppeiealaaM6
import Derived.Test.YthephbppeiealaaT5
import Derived.Test.YthephbppeiealaaM5
namespace Go.Proofs.Ythephbppeiealaa
set_option linter.unusedSimpArgs false
set_option linter.unusedVariables false

theorem meanTo_take (gs : List Nd) (cs : List Int) (i k : Nat) (h : i ≤ k) : (meanTo gs cs k).take i = meanTo gs cs i := by
  induction k with
  | zero => obtain rfl : i = 0 := by omega
            simp [meanTo]
  | succ k ih =>
    have hl := meanTo_len gs cs k
    rcases Nat.lt_or_ge i (k + 1) with h1 | h1
    · rw [mean_step, List.take_append_of_le_length (by omega)]
      exact ih (by omega)
    · obtain rfl : i = k + 1 := by omega
      rw [List.take_of_length_le (by rw [meanTo_len]; exact Nat.le_refl _)]

theorem meanTo_getD (gs : List Nd) (cs : List Int) (i k q : Nat) (h : i ≤ k) (hq : q < i) : (meanTo gs cs k).getD q 0 = (meanTo gs cs i).getD q 0 := by
  rw [← meanTo_take gs cs i k h]
  simp only [List.getD, List.getElem?_take, if_pos hq]

theorem mean_at (gs : List Nd) (cs : List Int) (i : Nat) (hi : i < gs.length) : (mean gs cs).getD i 0 = if (gs.getD i default).k == 0 then cs.getD i 0 else (whole (gs.getD i default).ps).ev (meanTo gs cs i) := by
  unfold mean
  rw [meanTo_getD gs cs (i + 1) gs.length i (by omega) (by omega), mean_step]
  have hl := meanTo_len gs cs i
  simp [List.getD, hl]

/-- Lists have a number in common. -/
def meetB (a b : List Int) : Bool := a.any fun x => decide (x ∈ b)
/-- A node has to run: it is no cell, and reads a changed one. -/
def mustP (gs : List Nd) (M C : List Int) (i : Nat) : Bool := !((gs.getD i default).k == 0) && meetB (depF gs M i) C
def mustF (gs : List Nd) (xs ys : List Int) : List Int := if chgB gs xs ys then nwTo (mustP gs (mean gs xs) (diffTo (mean gs xs) (mean gs ys) gs.length)) gs.length else []

theorem mustF_len (gs : List Nd) (xs ys : List Int) : (mustF gs xs ys).length ≤ 10 := by
  unfold mustF
  cases h : chgB gs xs ys
  · simp
  · simp only [if_true]
    unfold chgB at h
    simp only [Bool.and_eq_true] at h
    have := nwTo_len (mustP gs (mean gs xs) (diffTo (mean gs xs) (mean gs ys) gs.length)) gs.length
    have := (validG_parts gs h.1.1).1
    omega

theorem diffTo_mem (a b : List Int) (n q : Nat) (hq : q < n) (h : (q : Int) ∉ diffTo a b n) : a.getD q 0 = b.getD q 0 := by
  apply Classical.byContradiction
  intro hne
  apply h
  unfold diffTo
  exact List.mem_map.2 ⟨q, List.mem_filter.2 ⟨List.mem_range.2 hq, by simpa using hne⟩, rfl⟩

theorem diffTo_iff (a b : List Int) (n q : Nat) (h : (q : Int) ∈ diffTo a b n) : a.getD q 0 ≠ b.getD q 0 := by
  unfold diffTo at h
  obtain ⟨r, hr, he⟩ := List.mem_map.1 h
  have : r = q := by exact_mod_cast he
  subst this
  have := (List.mem_filter.1 hr).2
  simpa using this

/-- A node that is another one reads one that is. -/
theorem must_changed (gs : List Nd) (xs ys : List Int) (hx : okC gs xs = true) (hy : okC gs ys = true) (i : Nat) (hi : i < gs.length) (hk : ((gs.getD i default).k == 0) = false)
    (hm : (i : Int) ∈ diffTo (mean gs xs) (mean gs ys) gs.length) : meetB (depF gs (mean gs xs) i) (diffTo (mean gs xs) (mean gs ys) gs.length) = true := by
  have hne := diffTo_iff _ _ _ _ hm
  apply Classical.byContradiction
  intro hc
  apply hne
  rw [mean_at gs xs i hi, mean_at gs ys i hi, hk]
  simp only [Bool.false_eq_true, if_false]
  have hg := (okC_parts gs xs hx).1
  have hv := (nodeOK_formula gs i ((validG_parts gs hg).2 i hi) hk).1
  have hok := whole_ok _ i hv (each_ahead gs i i hg hi hk (Nat.le_refl _))
  have hall := rds_lt (whole (gs.getD i default).ps) (meanTo gs xs i) i hok
  have e1 := ev_agree (whole (gs.getD i default).ps) (meanTo gs xs i) (mean gs xs) i hok fun x hx => by
    obtain ⟨q, hq, rfl⟩ := hall x hx
    exact meanTo_getD gs xs i gs.length q (by omega) hq
  refine (ev_agree (whole (gs.getD i default).ps) (meanTo gs xs i) (meanTo gs ys i) i hok fun x hx => ?_).1.symm
  obtain ⟨q, hq, rfl⟩ := hall x hx
  have hdx : (q : Int) ∈ depF gs (mean gs xs) i := by
    unfold depF
    rw [hk]
    simp only [Bool.false_eq_true, if_false]
    rw [firsts_mem, e1.2]
    exact hx
  have hnc : (q : Int) ∉ diffTo (mean gs xs) (mean gs ys) gs.length := fun hin => hc (List.any_eq_true.2 ⟨_, hdx, decide_eq_true hin⟩)
  have := diffTo_mem _ _ _ q (by omega) hnc
  rw [Int.toNat_natCast]
  rw [← meanTo_getD gs xs i gs.length q (by omega) hq, ← meanTo_getD gs ys i gs.length q (by omega) hq]
  exact this.symm

/-- The same, as the program asks it. -/
theorem must_same (gs : List Nd) (xs ys : List Int) (hx : okC gs xs = true) (hy : okC gs ys = true) (i : Nat) (hi : i < gs.length) :
    (!((gs.getD i default).k == 0) && (decide ((i : Int) ∈ diffTo (mean gs xs) (mean gs ys) gs.length) || meetB (depF gs (mean gs xs) i) (diffTo (mean gs xs) (mean gs ys) gs.length))) = mustP gs (mean gs xs) (diffTo (mean gs xs) (mean gs ys) gs.length) i := by
  unfold mustP
  cases hk : ((gs.getD i default).k == 0)
  · cases hd : decide ((i : Int) ∈ diffTo (mean gs xs) (mean gs ys) gs.length)
    · simp
    · rw [must_changed gs xs ys hx hy i hi hk (of_decide_eq_true hd)]; rfl
  · rfl
end Go.Proofs.Ythephbppeiealaa
