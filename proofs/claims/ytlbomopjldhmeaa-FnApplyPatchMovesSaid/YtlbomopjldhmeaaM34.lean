/- Plain facts on changes of keys: the last one comes after all others; moves keep all keys, and the order of those that do not move. -/
import Derived.Test.YtlbomopjldhmeaaB10a
import Derived.Test.YtlbomopjldhmeaaM33

namespace Go.Proofs.Ytlbomopjldhmeaa
set_option linter.unusedSimpArgs false
set_option linter.unusedVariables false

theorem patched_append (c : List Ac) : ∀ (b : List Ac) (xs : List Int), patched xs (b ++ c) = (patched xs b).bind fun l => patched l c := by
  intro b
  induction b with
  | nil => intro xs; rfl
  | cons d b ih =>
    intro xs
    show (if oneB xs d then patched (oneL xs d) (b ++ c) else none) = (if oneB xs d then patched (oneL xs d) b else none).bind _
    by_cases h : oneB xs d = true
    · rw [if_pos h, if_pos h]; exact ih _
    · rw [if_neg h, if_neg h]; rfl
/-- What one change does. -/
theorem one_cases {xs : List Int} {c : Ac} (h : oneB xs c = true) :
    (c.k = 0 ∧ c.a ∈ xs ∧ oneL xs c = remF xs c.a) ∨ (c.k = 1 ∧ c.a ∉ xs ∧ oneL xs c = putF xs c.b c.a) ∨ (c.k = 2 ∧ c.a ∈ xs ∧ oneL xs c = putF (remF xs c.a) c.b c.a) := by
  unfold oneB at h
  unfold oneL
  by_cases h0 : c.k = 0
  · rw [if_pos h0] at h ⊢
    simp only [Bool.and_eq_true, decide_eq_true_eq] at h
    exact .inl ⟨h0, h.1, rfl⟩
  · rw [if_neg h0] at h ⊢
    by_cases h1 : c.k = 1
    · rw [if_pos h1] at h ⊢
      simp only [Bool.and_eq_true, Bool.not_eq_true', decide_eq_false_iff_not] at h
      exact .inr (.inl ⟨h1, h.1, rfl⟩)
    · rw [if_neg h1] at h ⊢
      by_cases h2 : c.k = 2
      · rw [if_pos h2] at h
        simp only [Bool.and_eq_true, decide_eq_true_eq] at h
        exact .inr (.inr ⟨h2, h.1, rfl⟩)
      · rw [if_neg h2] at h; cases h
theorem remF_no (xs : List Int) (x : Int) (hx : xs.Nodup) (h : x ∈ xs) : x ∉ remF xs x := by rw [remF_filter xs x hx h]; simp
theorem one_nodup {xs : List Int} {c : Ac} (h : oneB xs c = true) (hx : xs.Nodup) : (oneL xs c).Nodup := by
  rcases one_cases h with ⟨_, h1, e⟩ | ⟨_, h1, e⟩ | ⟨_, h1, e⟩ <;> rw [e]
  · exact hx.sublist (remF_sub _ _)
  · exact putF_nodup _ _ _ hx h1
  · exact putF_nodup _ _ _ (hx.sublist (remF_sub _ _)) (remF_no _ _ hx h1)
theorem patched_inv : ∀ (b : List Ac) (xs ys : List Int), patched xs b = some ys → In30 xs → xs.Nodup → In30 ys ∧ ys.Nodup := by
  intro b
  induction b with
  | nil => intro xs ys h h1 h2; cases h; exact ⟨h1, h2⟩
  | cons d b ih =>
    intro xs ys h h1 h2
    have h' : (if oneB xs d then patched (oneL xs d) b else none) = some ys := h
    by_cases ho : oneB xs d = true
    · rw [if_pos ho] at h'
      exact ih _ _ h' (h1.chg ho) (one_nodup ho h2)
    · rw [if_neg ho] at h'; cases h'
theorem validK_iff {xs : List Int} (h1 : In30 xs) (h2 : xs.Nodup) : validK xs = decide (xs.length ≤ 10) := by
  unfold validK difB
  rw [decide_eq_true h2]
  have : allR xs 0 30 = true := by
    unfold allR
    rw [List.all_eq_true]
    intro x hx
    have := h1 x hx
    unfold rng
    exact decide_eq_true this
  rw [this]; simp
theorem apply_some {xs : List Int} {ac : List Ac} (h : applyB xs ac = true) : validK xs = true ∧ ac.length ≤ 40 ∧ patched xs ac = some (applyF xs ac) ∧ validK (applyF xs ac) = true := by
  have h' := h
  unfold applyB at h'
  simp only [Bool.and_eq_true, decide_eq_true_eq] at h'
  obtain ⟨⟨h1, h2⟩, h3⟩ := h'
  cases hp : patched xs ac with
  | none => rw [hp] at h3; cases h3
  | some ys =>
    have hf : applyF xs ac = ys := by unfold applyF; rw [h, hp]; rfl
    rw [hp] at h3
    rw [hf]
    exact ⟨h1, h2, rfl, h3⟩
theorem apply_of {xs ys : List Int} {ac : List Ac} (h1 : validK xs = true) (h2 : ac.length ≤ 40) (hp : patched xs ac = some ys) : applyB xs ac = validK ys ∧ applyF xs ac = if validK ys then ys else [] := by
  have hB : applyB xs ac = validK ys := by unfold applyB; rw [h1, hp, decide_eq_true h2]; rfl
  refine ⟨hB, ?_⟩
  unfold applyF
  rw [hB, hp]; rfl
theorem apply_last {xs : List Int} {ac : List Ac} (h : applyB xs ac = true) (j : Nat) (hj : ac.length = j + 1) :
    applyB (applyF xs (ac.take j)) (ac.drop j) = applyB xs (ac.take j) ∧ (applyB xs (ac.take j) = true → applyF (applyF xs (ac.take j)) (ac.drop j) = applyF xs ac) := by
  obtain ⟨h1, h2, h3, h4⟩ := apply_some h
  have hsp : ac = ac.take j ++ ac.drop j := (List.take_append_drop j ac).symm
  have hd : ∃ c, ac.drop j = [c] := by
    match hq : ac.drop j with
    | [] => have := congrArg List.length hq; simp at this; omega
    | [c] => exact ⟨c, rfl⟩
    | c :: d :: r => have := congrArg List.length hq; simp at this; omega
  obtain ⟨c, hc⟩ := hd
  rw [hsp, patched_append, hc] at h3
  cases hp : patched xs (ac.take j) with
  | none => rw [hp] at h3; cases h3
  | some l =>
    rw [hp] at h3
    have h3' : patched l [c] = some (applyF xs (ac.take j ++ [c])) := h3
    rw [← hc, ← hsp] at h3'
    rw [hc] at h3'
    obtain ⟨i1, i2⟩ := patched_inv _ _ _ hp (validK_in30 xs h1) (validK_parts h1).2.2
    obtain ⟨e1, e2⟩ := apply_of h1 (show (ac.take j).length ≤ 40 by rw [List.length_take]; omega) hp
    rw [hc]
    cases hv : validK l
    · rw [hv] at e1 e2
      rw [e1, e2]
      refine ⟨?_, fun h => by cases h⟩
      show applyB [] [c] = false
      have hl : ¬ l.length ≤ 10 := by rw [validK_iff i1 i2] at hv; simpa using hv
      have hyl := validK_len _ h4
      have ho : oneB l c = true := by
        have hx : (if oneB l c then patched (oneL l c) [] else none) = some (applyF xs ac) := h3'
        by_cases ho : oneB l c = true
        · exact ho
        · rw [if_neg ho] at hx; cases hx
      have hyo : applyF xs ac = oneL l c := by
        have hx : (if oneB l c then patched (oneL l c) [] else none) = some (applyF xs ac) := h3'
        rw [if_pos ho] at hx
        have hx2 : some (oneL l c) = some (applyF xs ac) := hx
        exact (Option.some.inj hx2).symm
      rw [hyo] at hyl
      have hk : c.k = 0 := by
        rcases one_cases ho with ⟨h0, _, _⟩ | ⟨_, _, e⟩ | ⟨_, hm, e⟩
        · exact h0
        · rw [e, putF_len] at hyl; omega
        · rw [e, putF_len] at hyl
          have := remF_len l c.a hm; omega
      have hb : oneB [] c = false := by unfold oneB; rw [if_pos hk]; simp
      unfold applyB
      have hx : patched [] [c] = none := by
        show (if oneB [] c then patched (oneL [] c) [] else none) = none
        rw [hb]; rfl
      rw [hx]
      show (validK [] && decide ([c].length ≤ 40) && false) = false
      simp
    · rw [hv] at e1 e2
      rw [e1]
      have e3 : applyF xs (ac.take j) = l := e2
      rw [e3]
      obtain ⟨f1, f2⟩ := apply_of hv (show [c].length ≤ 40 by simp) h3'
      rw [h4] at f1 f2
      exact ⟨f1, fun _ => f2⟩
theorem apply_nil {xs : List Int} {ac : List Ac} (h : applyB xs ac = true) (hn : ac.length = 0) : applyF xs ac = xs := by
  obtain ⟨_, _, h3, _⟩ := apply_some h
  have : ac = [] := List.eq_nil_of_length_eq_zero hn
  subst this
  have h4 : some xs = some (applyF xs []) := h3
  exact (Option.some.inj h4).symm

theorem patched_cnt : ∀ (b : List Ac) (xs ys : List Int), patched xs b = some ys → ys.length + cntA b 0 = xs.length + cntA b 1 ∧ b.length = cntA b 0 + cntA b 1 + cntA b 2 := by
  intro b
  induction b with
  | nil => intro xs ys h; cases h; exact ⟨rfl, rfl⟩
  | cons d b ih =>
    intro xs ys h
    have h' : (if oneB xs d then patched (oneL xs d) b else none) = some ys := h
    by_cases ho : oneB xs d = true
    · rw [if_pos ho] at h'
      obtain ⟨i1, i2⟩ := ih _ _ h'
      have hc : ∀ q : Int, cntA (d :: b) q = cntA [d] q + cntA b q := fun q => cntA_append [d] b q
      have h1 : ∀ q : Int, cntA [d] q = if d.k = q then 1 else 0 := fun q => by
        have := cntA_snoc [] d q
        simpa [cntA] using this
      rw [hc 0, hc 1, hc 2, h1, h1, h1]
      rcases one_cases ho with ⟨hk, hm, e⟩ | ⟨hk, hm, e⟩ | ⟨hk, hm, e⟩ <;> rw [e] at i1 <;> rw [hk]
      · have := remF_len xs d.a hm
        simp at *; omega
      · have := putF_len xs d.b d.a
        simp at *; omega
      · have := remF_len xs d.a hm
        have := putF_len (remF xs d.a) d.b d.a
        simp at *; omega
    · rw [if_neg ho] at h'; cases h'
theorem apply_count {xs : List Int} {ac : List Ac} (h : applyB xs ac = true) : (applyF xs ac).length + cntA ac 0 = xs.length + cntA ac 1 := (patched_cnt _ _ _ (apply_some h).2.2.1).1
theorem putF_sub (l r : List Int) (u k : Int) (h : r.Sublist l) : r.Sublist (putF l u k) := by
  refine h.trans ?_
  unfold putF
  have h1 : (l.take (putP l u) ++ l.drop (putP l u)).Sublist (l.take (putP l u) ++ [k] ++ l.drop (putP l u)) :=
    List.Sublist.append (List.sublist_append_left _ _) (List.Sublist.refl _)
  rwa [List.take_append_drop] at h1
theorem patched_moves : ∀ (b : List Ac) (xs ys : List Int), patched xs b = some ys → (∀ c ∈ b, c.k = 2) → xs.Nodup → (∀ x ∈ ys, x ∈ xs) ∧ ∀ r : List Int, r.Sublist xs → (∀ c ∈ b, c.a ∉ r) → r.Sublist ys := by
  intro b
  induction b with
  | nil => intro xs ys h _ _; cases h; exact ⟨fun _ h => h, fun _ h _ => h⟩
  | cons d b ih =>
    intro xs ys h hk hx
    have h' : (if oneB xs d then patched (oneL xs d) b else none) = some ys := h
    by_cases ho : oneB xs d = true
    · rw [if_pos ho] at h'
      obtain ⟨i1, i2⟩ := ih _ _ h' (fun c hc => hk c (by simp [hc])) (one_nodup ho hx)
      have hd := hk d (by simp)
      rcases one_cases ho with ⟨h0, _, _⟩ | ⟨h0, _, _⟩ | ⟨_, hm, e⟩
      · omega
      · omega
      · rw [e] at i1 i2
        refine ⟨fun x hxy => ?_, fun r hr hno => i2 r ?_ (fun c hc => hno c (by simp [hc]))⟩
        · rcases (putF_mem _ _ _ _).1 (i1 x hxy) with rfl | h1
          · exact hm
          · exact remF_mem _ _ _ h1
        · refine putF_sub _ _ _ _ ?_
          rw [remF_filter xs d.a hx hm]
          have hf : r.filter (fun y => decide (y ≠ d.a)) = r := by
            rw [List.filter_eq_self]
            intro y hy
            simp only [decide_eq_true_eq]
            intro e
            exact hno d (by simp) (e ▸ hy)
          rw [← hf]
          exact hr.filter _
    · rw [if_neg ho] at h'; cases h'
theorem cntA_full (b : List Ac) (h : cntA b 2 = b.length) : ∀ c ∈ b, c.k = 2 := by
  unfold cntA at h
  intro c hc
  have h1 := List.length_filter_eq_length_iff.1 h c hc
  simpa using h1
theorem apply_moves {xs : List Int} {ac : List Ac} (h : applyB xs ac = true) (hm : ¬ cntA ac 2 < ac.length) :
    (applyF xs ac).length = xs.length ∧ (∀ x ∈ applyF xs ac, x ∈ xs) ∧ (∀ j, j < (notK xs (ac.map (·.a))).length → 0 ≤ plc (applyF xs ac) ((notK xs (ac.map (·.a))).getD j 0)) ∧
      ∀ j, j + 1 < (notK xs (ac.map (·.a))).length → plc (applyF xs ac) ((notK xs (ac.map (·.a))).getD j 0) < plc (applyF xs ac) ((notK xs (ac.map (·.a))).getD (j + 1) 0) := by
  obtain ⟨h1, _, h3, h4⟩ := apply_some h
  obtain ⟨c1, c2⟩ := patched_cnt _ _ _ h3
  have hx := (validK_parts h1).2.2
  have hy := (validK_parts h4).2.2
  obtain ⟨m1, m2⟩ := patched_moves _ _ _ h3 (cntA_full ac (by omega)) hx
  have hs := m2 (notK xs (ac.map (·.a))) List.filter_sublist (fun c hc hin => by
    unfold notK at hin
    have := (List.mem_filter.1 hin).2
    simp at this
    exact this c hc rfl)
  have hp := (plc_pw _ hy).sublist hs
  exact ⟨by omega, m1, fun j hj => plc_in _ _ (hs.subset (getD_memI _ j hj)), fun j hj => pw_getD hp j (j + 1) (by omega) hj⟩
end Go.Proofs.Ytlbomopjldhmeaa
