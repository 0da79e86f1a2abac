/- Plain facts for WhyChanged: the way from a cell down to which a change goes back. -/
import Derived.Test.YtehlamofancdjaaS0

namespace Go.Proofs.Ytehlamofancdjaa
set_option linter.unusedSimpArgs false
set_option linter.unusedVariables false
open Go.RowKit

/-- The node that the way goes on to from n downward. -/
def nxtW (gs : List Nd) (M D : List Int) (n : Nat) : Nat := ((inK D (depF gs M n)).headD 0).toNat
/-- The way to a node. -/
def wayF (gs : List Nd) (M D : List Int) : Nat → Nat → List Int
  | 0, n => [(n : Int)]
  | f + 1, n => if (gs.getD n default).k == 0 then [(n : Int)] else wayF gs M D f (nxtW gs M D n) ++ [(n : Int)]
/-- What WhyChanged answers. -/
def whyF (gs : List Nd) (xs ys : List Int) (n : Int) : List Int := if n ∈ chgF gs xs ys then wayF gs (mean gs xs) (chgF gs xs ys) 10 n.toNat else []

/-- A step of the way: the next node is ahead, and changed. -/
def StepW (gs : List Nd) (M D : List Int) : Prop := ∀ n : Nat, (n : Int) ∈ D → n < gs.length ∧ (((gs.getD n default).k == 0) = false →
  nxtW gs M D n < n ∧ ((nxtW gs M D n : Nat) : Int) ∈ D ∧ 0 < (inK D (depF gs M n)).length ∧ (inK D (depF gs M n)).getD 0 0 = ((nxtW gs M D n : Nat) : Int))

theorem chgB_parts (gs : List Nd) (xs ys : List Int) (h : chgB gs xs ys = true) : okC gs xs = true ∧ okC gs ys = true := by
  unfold chgB at h
  simp only [Bool.and_eq_true] at h
  unfold okC
  rw [h.1.1, h.1.2, h.2]; exact ⟨rfl, rfl⟩

theorem chgF_bd (gs : List Nd) (xs ys : List Int) (x : Int) (h : x ∈ chgF gs xs ys) : chgB gs xs ys = true ∧ ∃ q : Nat, q < gs.length ∧ x = (q : Int) := by
  unfold chgF at h
  cases hb : chgB gs xs ys
  · rw [hb] at h; simp at h
  · rw [hb] at h
    simp only [if_true] at h
    unfold diffTo at h
    obtain ⟨r, hr, he⟩ := List.mem_map.1 h
    exact ⟨rfl, r, List.mem_range.1 (List.mem_filter.1 hr).1, he.symm⟩

theorem depF_ahead (gs : List Nd) (xs : List Int) (hx : okC gs xs = true) (i : Nat) (hi : i < gs.length) (x : Int) (h : x ∈ depF gs (mean gs xs) i) : ∃ q : Nat, q < i ∧ x = (q : Int) := by
  unfold depF at h
  cases hk : ((gs.getD i default).k == 0)
  · rw [hk] at h
    simp only [Bool.false_eq_true, if_false] at h
    rw [firsts_mem] at h
    have hg := (okC_parts gs xs hx).1
    have hv := (nodeOK_formula gs i ((validG_parts gs hg).2 i hi) hk).1
    exact rds_lt _ _ i (whole_ok _ i hv (each_ahead gs i i hg hi hk (Nat.le_refl _))) x h
  · rw [hk] at h; simp at h

theorem step_why (gs : List Nd) (xs ys : List Int) : StepW gs (mean gs xs) (chgF gs xs ys) := by
  intro n hn
  obtain ⟨hb, q, hq, he⟩ := chgF_bd gs xs ys _ hn
  have hqn : q = n := by omega
  subst hqn
  refine ⟨hq, fun hk => ?_⟩
  obtain ⟨hx, hy⟩ := chgB_parts gs xs ys hb
  have hD : chgF gs xs ys = diffTo (mean gs xs) (mean gs ys) gs.length := by unfold chgF; rw [hb]; rfl
  have hm := must_changed gs xs ys hx hy q hq hk (by rw [← hD]; exact hn)
  rw [← hD] at hm
  obtain ⟨x, hxd, hxD⟩ := List.any_eq_true.1 hm
  have hxin : x ∈ inK (chgF gs xs ys) (depF gs (mean gs xs) q) := List.mem_filter.2 ⟨of_decide_eq_true hxD, decide_eq_true hxd⟩
  unfold nxtW
  cases hl : inK (chgF gs xs ys) (depF gs (mean gs xs) q) with
  | nil => rw [hl] at hxin; cases hxin
  | cons y l =>
    have hy2 : y ∈ inK (chgF gs xs ys) (depF gs (mean gs xs) q) := by rw [hl]; exact List.mem_cons_self
    obtain ⟨h1, h2⟩ := List.mem_filter.1 hy2
    obtain ⟨r, hr, rfl⟩ := depF_ahead gs xs hx q hq y (of_decide_eq_true h2)
    refine ⟨?_, ?_, by simp, by simp⟩
    · simpa using hr
    · simpa using h1

theorem wayF_more (gs : List Nd) (M D : List Int) (H : StepW gs M D) : ∀ (n : Nat), (n : Int) ∈ D → ∀ f g, n ≤ f → n ≤ g → wayF gs M D f n = wayF gs M D g n := by
  intro n
  induction n using Nat.strongRecOn with
  | ind n ih =>
    intro hn f g hf hg
    obtain ⟨_, hst⟩ := H n hn
    cases hk : ((gs.getD n default).k == 0)
    · obtain ⟨h1, h2, _, _⟩ := hst hk
      obtain ⟨f, rfl⟩ : ∃ f', f = f' + 1 := ⟨f - 1, by omega⟩
      obtain ⟨g, rfl⟩ : ∃ g', g = g' + 1 := ⟨g - 1, by omega⟩
      simp only [wayF, hk, Bool.false_eq_true, if_false]
      rw [ih _ h1 h2 f g (by omega) (by omega)]
    · cases f <;> cases g <;> simp only [wayF, hk, if_true]

theorem way_cell (gs : List Nd) (M D : List Int) (n f : Nat) (hk : ((gs.getD n default).k == 0) = true) : wayF gs M D f n = [(n : Int)] := by
  cases f <;> simp only [wayF, hk, if_true]

theorem way_step (gs : List Nd) (M D : List Int) (H : StepW gs M D) (h10 : gs.length ≤ 10) (n : Nat) (hn : (n : Int) ∈ D) (hk : ((gs.getD n default).k == 0) = false) : wayF gs M D 10 n = wayF gs M D 10 (nxtW gs M D n) ++ [(n : Int)] := by
  obtain ⟨hl, hst⟩ := H n hn
  obtain ⟨h1, h2, _, _⟩ := hst hk
  rw [wayF_more gs M D H n hn 10 11 (by omega) (by omega)]
  simp only [wayF, hk, Bool.false_eq_true, if_false]

theorem way_len (gs : List Nd) (M D : List Int) : ∀ (f n : Nat), (wayF gs M D f n).length ≤ f + 1 := by
  intro f
  induction f with
  | zero => intro n; simp [wayF]
  | succ f ih =>
    intro n
    simp only [wayF]
    split
    · simp
    · have := ih (nxtW gs M D n)
      simp; omega

theorem whyF_len (gs : List Nd) (xs ys : List Int) (n : Int) : (whyF gs xs ys n).length ≤ 11 := by
  unfold whyF
  split
  · exact way_len _ _ _ _ _
  · simp
end Go.Proofs.Ytehlamofancdjaa
