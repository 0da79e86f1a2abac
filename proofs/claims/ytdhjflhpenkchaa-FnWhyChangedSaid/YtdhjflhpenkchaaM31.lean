/- Plain facts for the walks of the laws on meanings, what they read, and what changes. -/
import Derived.Test.YtdhjflhpenkchaaM28
import Derived.Test.YtdhjflhpenkchaaH13

namespace Go.Proofs.Ytdhjflhpenkchaa
set_option linter.unusedSimpArgs false
set_option linter.unusedVariables false
open Go.RowKit

/-- What a node reads is among what it may read. -/
theorem rds_in (gs : List Nd) (xs : List Int) (h : okC gs xs = true) (i : Nat) (hi : i < gs.length) (hk : ((gs.getD i default).k == 0) = false) :
    readF (gs.getD i default).ps (mean gs xs) = firsts ((whole (gs.getD i default).ps).rds (mean gs xs)) ∧ ∀ x ∈ (whole (gs.getD i default).ps).rds (mean gs xs), x ∈ mayR (gs.getD i default).ps := by
  obtain ⟨hce, _⟩ := mean_node gs xs h i hi hk
  have e : readF (gs.getD i default).ps (mean gs xs) = firsts ((whole (gs.getD i default).ps).rds (mean gs xs)) := by unfold readF; rw [hce]; rfl
  refine ⟨e, fun x hx => ?_⟩
  have := (readF_may (gs.getD i default).ps (mean gs xs)).2 x (by rw [e]; exact (firsts_mem _ _).2 hx)
  rwa [mayF_valid gs i (okC_parts gs xs h).1 hi] at this
theorem dep_facts (gs : List Nd) (xs : List Int) (h : okC gs xs = true) (i : Nat) (hi : i < gs.length) :
    (∀ k, k < ((depsF gs xs).getD i []).length → ∃ u : Nat, ((depsF gs xs).getD i []).getD k 0 = (u : Int) ∧ u < i ∧ decide ((i : Int) ∈ usersF gs u) = true) ∧
    (((gs.getD i default).k == 0) = true → (depsF gs xs).getD i [] = []) ∧
    (((gs.getD i default).k == 0) = false → readF (gs.getD i default).ps (meanF gs xs) = (depsF gs xs).getD i []) := by
  have hv := (okC_parts gs xs h).1
  have e : (depsF gs xs).getD i [] = depF gs (mean gs xs) i := by unfold depsF; rw [h, if_pos rfl]; exact depTo_get _ _ _ _ hi
  have em : meanF gs xs = mean gs xs := by unfold meanF; rw [h]; rfl
  rw [e, em]
  unfold depF
  refine ⟨?_, fun hk => by rw [hk]; rfl, fun hk => by rw [hk]; exact (rds_in gs xs h i hi hk).1⟩
  intro k hlt
  cases hk : (gs.getD i default).k == 0
  · rw [hk] at hlt
    simp only [Bool.false_eq_true, if_false] at hlt ⊢
    have hm : (firsts ((whole (gs.getD i default).ps).rds (mean gs xs))).getD k 0 ∈ firsts ((whole (gs.getD i default).ps).rds (mean gs xs)) := by
      generalize firsts ((whole (gs.getD i default).ps).rds (mean gs xs)) = L at hlt ⊢
      simp [List.getD, hlt]
    have hr := (rds_in gs xs h i hi hk).2 _ ((firsts_mem _ _).1 hm)
    have hb := mayR_ahead gs i hv hi _ hr
    generalize (firsts ((whole (gs.getD i default).ps).rds (mean gs xs))).getD k 0 = x at *
    obtain ⟨u, rfl⟩ : ∃ u : Nat, x = (u : Int) := ⟨x.toNat, by omega⟩
    refine ⟨u, rfl, by omega, ?_⟩
    rw [usersF_mem gs u i (hasB_nat gs hv u (by omega)) hi]
    exact decide_eq_true hr
  · rw [hk] at hlt
    simp at hlt
theorem depsF_len2 (gs : List Nd) (xs : List Int) (h : okC gs xs = true) : (depsF gs xs).length = gs.length := by
  unfold depsF depTo; rw [h]; simp

/-- Meanings agree where all that may be read agrees. -/
theorem mean_agree (gs : List Nd) (xs ys : List Int) (hx : okC gs xs = true) (hy : okC gs ys = true) (S : Nat → Bool) (hS : ClS (rdsN gs) S)
    (hc : ∀ i, i < gs.length → S i = true → ((gs.getD i default).k == 0) = true → xs.getD i 0 = ys.getD i 0) :
    ∀ i, i < gs.length → S i = true → (mean gs xs).getD i 0 = (mean gs ys).getD i 0 := by
  have hv := (okC_parts gs xs hx).1
  intro i
  induction i using Nat.strongRecOn with
  | ind i ih =>
    intro hi hs
    cases hk : (gs.getD i default).k == 0
    · obtain ⟨hce, hva⟩ := mean_node gs xs hx i hi hk
      obtain ⟨hce', hva'⟩ := mean_node gs ys hy i hi hk
      unfold valF at hva hva'
      rw [hce, if_pos rfl] at hva
      rw [hce', if_pos rfl] at hva'
      rw [← hva, ← hva']
      have hvf := (nodeOK_formula gs i ((validG_parts gs hv).2 i hi) hk).1
      have hok : (whole (gs.getD i default).ps).ok i := whole_ok _ i hvf (each_ahead gs i i hv hi hk (Nat.le_refl _))
      refine ((ev_agree _ (mean gs xs) (mean gs ys) i hok fun x hm => ?_).1).symm
      have hr := (rds_in gs xs hx i hi hk).2 x hm
      have hb := mayR_ahead gs i hv hi _ hr
      obtain ⟨u, rfl⟩ : ∃ u : Nat, x = (u : Int) := ⟨x.toNat, by omega⟩
      have hu : u ∈ rdsN gs i := (mem_rdsN gs hv i u hi).2 hr
      exact (ih u (by omega) (by omega) (hS i hs u hu)).symm
    · rw [mean_cell gs xs i hi hk, mean_cell gs ys i hi hk]
      exact hc i hi hs hk

/-- Other cells: those of the first k nodes that are not among N. -/
def farTo (gs : List Nd) (N xs : List Int) (k : Nat) : List Int := (List.range xs.length).map fun i => if i < k ∧ ((gs.getD i default).k == 0) = true ∧ ¬ ((i : Int) ∈ N) then (xs.getD i 0 + 31) % 1000 else xs.getD i 0
theorem farTo_len (gs : List Nd) (N xs : List Int) (k : Nat) : (farTo gs N xs k).length = xs.length := by unfold farTo; simp
theorem farTo_get (gs : List Nd) (N xs : List Int) (k i : Nat) (hi : i < xs.length) : (farTo gs N xs k).getD i 0 = if i < k ∧ ((gs.getD i default).k == 0) = true ∧ ¬ ((i : Int) ∈ N) then (xs.getD i 0 + 31) % 1000 else xs.getD i 0 := by
  unfold farTo; simp [List.getD, hi]
theorem farTo_zero (gs : List Nd) (N xs : List Int) : farTo gs N xs 0 = xs :=
  ext_getD0 _ _ (farTo_len _ _ _ _) fun i hi => by rw [farTo_len] at hi; rw [farTo_get _ _ _ _ _ hi]; simp
theorem farTo_step (gs : List Nd) (N xs : List Int) (k : Nat) (hk : k < xs.length) :
    farTo gs N xs (k + 1) = if ((gs.getD k default).k == 0) = true ∧ ¬ ((k : Int) ∈ N) then (farTo gs N xs k).set k ((xs.getD k 0 + 31) % 1000) else farTo gs N xs k := by
  have hs : ∀ i, i < xs.length → i ≠ k → (farTo gs N xs (k + 1)).getD i 0 = (farTo gs N xs k).getD i 0 := fun i hi hn => by
    rw [farTo_get _ _ _ _ _ hi, farTo_get _ _ _ _ _ hi]
    have : (i < k + 1) = (i < k) := by apply propext; omega
    simp only [this]
  split
  · rename_i hc
    refine ext_getD0 _ _ (by simp [farTo_len]) fun i hi => ?_
    rw [farTo_len] at hi
    by_cases e : i = k
    · subst e
      rw [farTo_get _ _ _ _ _ hi, if_pos ⟨by omega, hc⟩]
      simp [List.getD, farTo_len, hi]
    · rw [hs i hi e]
      simp [List.getD, List.getElem?_set, Ne.symm e]
  · rename_i hc
    refine ext_getD0 _ _ (by simp [farTo_len]) fun i hi => ?_
    rw [farTo_len] at hi
    by_cases e : i = k
    · subst e
      rw [farTo_get _ _ _ _ _ hi, farTo_get _ _ _ _ _ hi, if_neg (fun h => hc h.2), if_neg (fun h => hc h.2)]
    · exact hs i hi e
theorem far_ok (gs : List Nd) (N xs : List Int) (h : okC gs xs = true) (k : Nat) : okC gs (farTo gs N xs k) = true := by
  obtain ⟨hv, hc⟩ := okC_parts gs xs h
  obtain ⟨hl, hok⟩ := validC_parts gs xs hc
  unfold okC validC
  rw [hv, farTo_len, decide_eq_true hl, decide_eq_true (fun i hi => ?_)]; rfl
  have h0 := hok i hi
  unfold cellOK at h0 ⊢
  rw [farTo_get _ _ _ _ _ (by omega)]
  split
  · rename_i hc
    rw [hc.2.1]
    unfold rng
    simp
    omega
  · exact h0
/-- The meaning of a node does not depend on cells that it does not need. -/
theorem far_mean (gs : List Nd) (xs : List Int) (h : okC gs xs = true) (n : Nat) (hn : n < gs.length) (k : Nat) :
    (meanF gs (farTo gs (needF gs n) xs k)).getD n 0 = (meanF gs xs).getD n 0 := by
  have hv := (okC_parts gs xs h).1
  have hl := (validC_parts gs xs (okC_parts gs xs h).2).1
  have h' := far_ok gs (needF gs n) xs h k
  unfold meanF
  rw [h, h']
  simp only [if_true]
  refine (mean_agree gs xs _ h h' (ndd gs n) (ndd_cl gs hv n) (fun i hi hs hk => ?_) n hn (ndd_self gs hv n hn)).symm
  rw [farTo_get _ _ _ _ _ (by omega), if_neg]
  rintro ⟨_, _, hni⟩
  apply hni
  have := needF_mem gs n i (hasB_nat gs hv n hn) hi
  rw [hs] at this
  exact of_decide_eq_true this

/-- Whether one of the first k nodes is a cell that differs and reaches u. -/
def metC (gs : List Nd) (xs ys : List Int) (u : Int) (k : Nat) : Bool := (List.range k).any fun i => ((gs.getD i default).k == 0) && (!(xs.getD i 0 == ys.getD i 0) && decide (u ∈ reachF gs (i : Int)))
theorem metC_zero (gs : List Nd) (xs ys : List Int) (u : Int) : metC gs xs ys u 0 = false := rfl
theorem metC_step (gs : List Nd) (xs ys : List Int) (u : Int) (k : Nat) : metC gs xs ys u (k + 1) = (metC gs xs ys u k || (((gs.getD k default).k == 0) && (!(xs.getD k 0 == ys.getD k 0) && decide (u ∈ reachF gs (k : Int))))) := by
  unfold metC; rw [List.range_succ, List.any_append]; simp
theorem chg_met (gs : List Nd) (xs ys : List Int) (u : Int) (hu : u ∈ chgF gs xs ys) : metC gs xs ys u gs.length = true := by
  unfold chgF at hu
  split at hu
  · rename_i hb
    unfold chgB at hb
    simp only [Bool.and_eq_true] at hb
    obtain ⟨⟨hv, hx⟩, hy⟩ := hb
    have hx' : okC gs xs = true := by unfold okC; rw [hv, hx]; rfl
    have hy' : okC gs ys = true := by unfold okC; rw [hv, hy]; rfl
    obtain ⟨q, hq, hqe⟩ := List.mem_map.1 hu
    rw [List.mem_filter, List.mem_range] at hq
    subst hqe
    obtain ⟨hq, hne⟩ := hq
    apply Classical.byContradiction
    intro hn
    have := mean_agree gs xs ys hx' hy' (ndd gs q) (ndd_cl gs hv q) (fun i hi hs hk => ?_) q hq (ndd_self gs hv q hq)
    · rw [this] at hne; simp at hne
    · apply Classical.byContradiction
      intro hd
      apply hn
      unfold metC
      rw [List.any_eq_true]
      refine ⟨i, List.mem_range.2 hi, ?_⟩
      rw [hk, reachF_mem gs i q (hasB_nat gs hv i hi) hq, dual gs hv i q hi hq, hs]
      simpa using hd
  · simp at hu
theorem chgF_asc (gs : List Nd) (xs ys : List Int) (j : Nat) (h : j + 1 < (chgF gs xs ys).length) : (chgF gs xs ys).getD j 0 < (chgF gs xs ys).getD (j + 1) 0 := by
  unfold chgF at h ⊢
  split
  · rename_i hb
    rw [hb] at h
    exact nwTo_asc (fun i => !((mean gs xs).getD i 0 == (mean gs ys).getD i 0)) gs.length j h
  · rename_i hb
    rw [if_neg hb] at h
    simp at h
theorem chgF_self (gs : List Nd) (xs : List Int) : chgF gs xs xs = [] := by unfold chgF; rw [diffTo_self]; split <;> rfl

/-- What a way to n is. -/
structure WayP (gs : List Nd) (xs ys : List Int) (W : List Int) (n : Nat) : Prop where
  pos : 0 < W.length
  last : W.getD (W.length - 1) 0 = (n : Int)
  mem : ∀ k, k < W.length → ∃ u : Nat, W.getD k 0 = (u : Int) ∧ u < gs.length ∧ (u : Int) ∈ chgF gs xs ys
  asc : ∀ k, k + 1 < W.length → W.getD k 0 < W.getD (k + 1) 0 ∧ W.getD k 0 ∈ (depsF gs xs).getD (W.getD (k + 1) 0).toNat []
  cell : ∃ u : Nat, W.getD 0 0 = (u : Int) ∧ u < gs.length ∧ ((gs.getD u default).k == 0) = true ∧ (xs.getD u 0 == ys.getD u 0) = false
theorem getD_snoc_lt (W : List Int) (x : Int) (k : Nat) (h : k < W.length) : (W ++ [x]).getD k 0 = W.getD k 0 := by simp [List.getD, List.getElem?_append, h]
theorem getD_snoc_at (W : List Int) (x : Int) (k : Nat) (h : k = W.length) : (W ++ [x]).getD k 0 = x := by subst h; simp [List.getD]
theorem why_way (gs : List Nd) (xs ys : List Int) (hb : chgB gs xs ys = true) : ∀ n : Nat, (n : Int) ∈ chgF gs xs ys → WayP gs xs ys (wayF gs (mean gs xs) (chgF gs xs ys) 10 n) n := by
  obtain ⟨hx, hy⟩ := chgB_parts gs xs ys hb
  have h10 := (validG_parts gs (okC_parts gs xs hx).1).1
  intro n
  induction n using Nat.strongRecOn with
  | ind n ih =>
    intro hn
    have H := step_why gs xs ys
    obtain ⟨hl, hst⟩ := H n hn
    cases hk : (gs.getD n default).k == 0
    · obtain ⟨h1, h2, h3, h4⟩ := hst hk
      rw [way_step gs _ _ H h10 n hn hk]
      have I := ih _ h1 h2
      have hd : ((nxtW gs (mean gs xs) (chgF gs xs ys) n : Nat) : Int) ∈ (depsF gs xs).getD n [] := by
        have e : (depsF gs xs).getD n [] = depF gs (mean gs xs) n := by unfold depsF; rw [hx, if_pos rfl]; exact depTo_get _ _ _ _ hl
        rw [e, ← h4]
        have hm : (inK (chgF gs xs ys) (depF gs (mean gs xs) n)).getD 0 0 ∈ inK (chgF gs xs ys) (depF gs (mean gs xs) n) := by
          generalize inK (chgF gs xs ys) (depF gs (mean gs xs) n) = L at h3 ⊢
          simp [List.getD, h3]
        have := (List.mem_filter.1 hm).2
        exact of_decide_eq_true this
      generalize nxtW gs (mean gs xs) (chgF gs xs ys) n = q at *
      generalize wayF gs (mean gs xs) (chgF gs xs ys) 10 q = W at *
      have hp := I.pos
      refine ⟨by simp, ?_, fun k hk => ?_, fun k hk => ?_, ?_⟩
      · rw [getD_snoc_at _ _ _ (by simp)]
      · by_cases hlt : k < W.length
        · rw [getD_snoc_lt _ _ _ hlt]; exact I.mem k hlt
        · rw [getD_snoc_at _ _ _ (by simp at hk; omega)]; exact ⟨n, rfl, hl, hn⟩
      · by_cases hlt : k + 1 < W.length
        · rw [getD_snoc_lt _ _ _ hlt, getD_snoc_lt _ _ _ (by omega)]; exact I.asc k hlt
        · simp at hk
          have hkl : k = W.length - 1 := by omega
          rw [getD_snoc_at _ _ (k + 1) (by omega), getD_snoc_lt _ _ _ (by omega), hkl, I.last]
          exact ⟨by omega, by rw [Int.toNat_natCast]; exact hd⟩
      · rw [getD_snoc_lt _ _ _ hp]; exact I.cell
    · rw [way_cell gs _ _ n 10 hk]
      refine ⟨by simp, by simp, fun k hk2 => ?_, fun k hk2 => by simp at hk2, ⟨n, by simp, hl, hk, ?_⟩⟩
      · have : k = 0 := by simp at hk2; omega
        subst this
        exact ⟨n, by simp, hl, hn⟩
      · have hD : chgF gs xs ys = diffTo (mean gs xs) (mean gs ys) gs.length := by unfold chgF; rw [hb]; rfl
        rw [hD] at hn
        have := diffTo_iff _ _ _ _ hn
        rw [mean_cell gs xs n hl hk, mean_cell gs ys n hl hk] at this
        simpa using this
theorem why_sub {gs : List Nd} {xs ys W : List Int} {n : Nat} (h : WayP gs xs ys W n) : ∀ x ∈ W, x ∈ chgF gs xs ys := by
  intro x hx
  obtain ⟨k, hk, rfl⟩ := List.getElem_of_mem hx
  obtain ⟨u, hu, _, hm⟩ := h.mem k hk
  have e : W.getD k 0 = W[k] := by simp [List.getD, hk]
  rw [← e, hu]; exact hm
theorem why_facts (gs : List Nd) (xs ys : List Int) (hb : chgB gs xs ys = true) (x : Int) (h : decide (x ∈ chgF gs xs ys) = true) : ∃ n : Nat, x = (n : Int) ∧ WayP gs xs ys (whyF gs xs ys x) n := by
  have h := of_decide_eq_true h
  obtain ⟨_, q, hq, rfl⟩ := chgF_bd gs xs ys x h
  refine ⟨q, rfl, ?_⟩
  unfold whyF
  rw [if_pos h]
  exact why_way gs xs ys hb q h
theorem why_none (gs : List Nd) (xs ys : List Int) (x : Int) (h : decide (x ∈ chgF gs xs ys) = false) : whyF gs xs ys x = [] := by
  unfold whyF; rw [if_neg (of_decide_eq_false h)]
end Go.Proofs.Ytdhjflhpenkchaa
