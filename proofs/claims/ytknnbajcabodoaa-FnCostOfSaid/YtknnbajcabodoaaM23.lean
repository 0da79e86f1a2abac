/- Plain facts on patches: how many changes of each kind, and costs the other way round. -/
import Derived.Test.YtknnbajcabodoaaM22
import Derived.Test.YtknnbajcabodoaaQ3

namespace Go.Proofs.Ytknnbajcabodoaa
set_option linter.unusedSimpArgs false
set_option linter.unusedVariables false

/-- How many changes of a kind. -/
def cntA (l : List Ac) (k : Int) : Nat := (l.filter fun c => c.k == k).length
theorem cntA_snoc (l : List Ac) (c : Ac) (k : Int) : cntA (l ++ [c]) k = cntA l k + if c.k = k then 1 else 0 := by
  unfold cntA
  rw [List.filter_append, List.length_append]
  by_cases h : c.k = k <;> simp [h]
theorem cntA_append (l m : List Ac) (k : Int) : cntA (l ++ m) k = cntA l k + cntA m k := by
  unfold cntA; rw [List.filter_append, List.length_append]

theorem pt1_cnt (G : List Int) (n : Nat) (k : Int) : cntA (pt1 G n) k = if k = 0 then n else 0 := by
  induction n with
  | zero => simp [pt1, cntA]
  | succ n ih =>
    rw [pt1_succ, cntA_snoc, ih]
    by_cases h : k = 0
    · subst h; simp
    · rw [if_neg h, if_neg h, if_neg (by simpa using fun e => h e.symm)]
theorem pt2_cnt0 (xs st ys : List Int) (k : Nat) : cntA (pt2 xs st ys k) 0 = 0 := by
  induction k with
  | zero => simp [pt2, cntA]
  | succ k ih =>
    by_cases h : ys.getD k 0 ∈ xs
    · by_cases h2 : ys.getD k 0 ∈ st
      · rw [pt2_stay _ _ _ _ h h2]; exact ih
      · rw [pt2_move _ _ _ _ h h2, cntA_snoc, ih]; simp
    · rw [pt2_new _ _ _ _ h, cntA_snoc, ih]; simp
theorem pt2_cnt1 (xs st ys : List Int) (k : Nat) (hk : k ≤ ys.length) : cntA (pt2 xs st ys k) 1 = (notK (ys.take k) xs).length := by
  induction k with
  | zero => simp [pt2, cntA, notK]
  | succ k ih =>
    rw [notK_step ys xs k (by omega)]
    by_cases h : ys.getD k 0 ∈ xs
    · rw [if_neg (by simpa using h)]
      by_cases h2 : ys.getD k 0 ∈ st
      · rw [pt2_stay _ _ _ _ h h2]; exact ih (by omega)
      · rw [pt2_move _ _ _ _ h h2, cntA_snoc, ih (by omega)]; simp
    · rw [pt2_new _ _ _ _ h, cntA_snoc, ih (by omega), if_pos h]; simp
theorem pt2_cnt2 (xs st ys : List Int) (hs : ∀ x ∈ st, x ∈ xs) (k : Nat) (hk : k ≤ ys.length) : cntA (pt2 xs st ys k) 2 + (inK (ys.take k) st).length = (inK (ys.take k) xs).length := by
  induction k with
  | zero => simp [pt2, cntA, inK]
  | succ k ih =>
    have h0 := ih (by omega)
    rw [inK_step ys xs k (by omega), inK_step ys st k (by omega)]
    by_cases h : ys.getD k 0 ∈ xs
    · rw [if_pos h]
      by_cases h2 : ys.getD k 0 ∈ st
      · rw [pt2_stay _ _ _ _ h h2, if_pos h2]; simp; omega
      · rw [pt2_move _ _ _ _ h h2, cntA_snoc, if_neg h2]; simp; omega
    · rw [pt2_new _ _ _ _ h, cntA_snoc, if_neg h, if_neg (fun h3 => h (hs _ h3))]; simp; omega
theorem pt2_cntL (xs st ys : List Int) (k : Nat) : (pt2 xs st ys k).length = cntA (pt2 xs st ys k) 1 + cntA (pt2 xs st ys k) 2 := by
  induction k with
  | zero => simp [pt2, cntA]
  | succ k ih =>
    by_cases h : ys.getD k 0 ∈ xs
    · by_cases h2 : ys.getD k 0 ∈ st
      · rw [pt2_stay _ _ _ _ h h2]; exact ih
      · rw [pt2_move _ _ _ _ h h2, cntA_snoc, cntA_snoc, List.length_append, ih]; simp; omega
    · rw [pt2_new _ _ _ _ h, cntA_snoc, cntA_snoc, List.length_append, ih]; simp; omega

/-- As many keys are in both, the other way round. -/
theorem inK_symm_len (xs ys : List Int) (hx : xs.Nodup) (hy : ys.Nodup) : (inK ys xs).length = (inK xs ys).length := by
  have h1 : (inK ys xs).Nodup := hy.sublist (inK_sub xs ys)
  have h2 : (inK xs ys).Nodup := hx.sublist (inK_sub ys xs)
  refine Nat.le_antisymm (h1.length_le_of_subset fun x h => ?_) (h2.length_le_of_subset fun x h => ?_)
  · rw [mem_inK] at h ⊢; exact ⟨h.2, h.1⟩
  · rw [mem_inK] at h ⊢; exact ⟨h.2, h.1⟩
theorem Ris.nodup {a b S : List Int} (h : Ris a b S) : S.Nodup := by
  rw [List.nodup_iff_pairwise_ne] at *
  exact h.1.imp fun h e => by subst e; exact Int.lt_irrefl _ h.1
theorem inK_st (xs ys : List Int) (hy : ys.Nodup) : (inK ys (stK xs ys)).length = (stK xs ys).length := by
  have hr := stK_Ris xs ys hy
  refine Nat.le_antisymm ((hy.sublist (inK_sub (stK xs ys) ys)).length_le_of_subset fun x h => ?_) (hr.nodup.length_le_of_subset fun x h => ?_)
  · rw [mem_inK] at h; exact h.2
  · rw [mem_inK]; exact ⟨(hr.2 x h).2, h⟩

theorem patchK_cnt0 (xs ys : List Int) : cntA (patchK xs ys) 0 = (notK xs ys).length := by
  unfold patchK; rw [cntA_append, pt1_cnt, pt2_cnt0]; simp
theorem patchK_cnt1 (xs ys : List Int) : cntA (patchK xs ys) 1 = (notK ys xs).length := by
  unfold patchK; rw [cntA_append, pt1_cnt, pt2_cnt1 _ _ _ _ (Nat.le_refl _), List.take_length]; simp
theorem patchK_cnt2 (xs ys : List Int) (hy : ys.Nodup) : cntA (patchK xs ys) 2 + (stK xs ys).length = (inK ys xs).length := by
  unfold patchK
  rw [cntA_append, pt1_cnt]
  have := pt2_cnt2 xs (stK xs ys) ys (fun x hx => ((stK_Ris xs ys hy).2 x hx).1) ys.length (Nat.le_refl _)
  rw [List.take_length, inK_st xs ys hy] at this
  simp
  exact this
theorem patchK_length (xs ys : List Int) (hy : ys.Nodup) : (patchK xs ys).length + (stK xs ys).length = (notK xs ys).length + (notK ys xs).length + (inK ys xs).length := by
  have h1 := patchK_cnt1 xs ys
  have h2 := patchK_cnt2 xs ys hy
  have h3 : (patchK xs ys).length = (notK xs ys).length + (pt2 xs (stK xs ys) ys ys.length).length := by unfold patchK; rw [List.length_append, pt1_len]
  have h4 := pt2_cntL xs (stK xs ys) ys ys.length
  have h5 : cntA (patchK xs ys) 1 = cntA (pt2 xs (stK xs ys) ys ys.length) 1 := by unfold patchK; rw [cntA_append, pt1_cnt]; simp
  have h6 : cntA (patchK xs ys) 2 = cntA (pt2 xs (stK xs ys) ys ys.length) 2 := by unfold patchK; rw [cntA_append, pt1_cnt]; simp
  omega
theorem patchK_symm (xs ys : List Int) (hx : xs.Nodup) (hy : ys.Nodup) : (patchK ys xs).length = (patchK xs ys).length := by
  have h1 := patchK_length xs ys hy
  have h2 := patchK_length ys xs hx
  have h3 := stK_symm xs ys hx hy
  have h4 := inK_symm_len xs ys hx hy
  omega

/-- Keys in the order of a list, and all of them, are the list. -/
theorem eq_of_plc {l s : List Int} (hl : l.Nodup) (hp : s.Pairwise fun x y => plc l x < plc l y) (hm : ∀ x ∈ s, x ∈ l) (hn : l.length ≤ s.length) : s = l := by
  have hs : s.Nodup := by
    rw [List.nodup_iff_pairwise_ne]
    exact hp.imp fun h e => by subst e; exact Int.lt_irrefl _ h
  have hperm : s.Perm l := by
    rw [List.perm_iff_count]
    intro x
    by_cases h : x ∈ s
    · rw [hs.count, hl.count, if_pos h, if_pos (hm x h)]
    · have h2 : x ∉ l := fun hx => by
        have : (x :: s).Nodup := List.nodup_cons.2 ⟨h, hs⟩
        have := this.length_le_of_subset (l₂ := l) fun z hz => by
          rcases List.mem_cons.1 hz with rfl | hz
          · exact hx
          · exact hm z hz
        simp at this; omega
      rw [hs.count, hl.count, if_neg h, if_neg h2]
  exact List.Perm.eq_of_pairwise (fun a b _ _ h1 h2 => by have := Int.lt_trans h1 h2; omega) hp (plc_pw l hl) hperm
theorem cost_zero (xs ys : List Int) (hx : xs.Nodup) (hy : ys.Nodup) : ((patchK xs ys).length = 0) ↔ xs = ys := by
  have h1 := patchK_length xs ys hy
  have hr := stK_Ris xs ys hy
  have hle := stK_max xs ys hy
  constructor
  · intro h0
    have hst : (stK xs ys).length ≤ (inK ys xs).length := hr.nodup.length_le_of_subset fun x hx => (mem_inK _ _ _).2 ⟨(hr.2 x hx).2, (hr.2 x hx).1⟩
    have hn1 : notK xs ys = [] := List.eq_nil_of_length_eq_zero (by omega)
    have hn2 : notK ys xs = [] := List.eq_nil_of_length_eq_zero (by omega)
    have hxs : ∀ x ∈ xs, x ∈ ys := fun x hx => by
      have : x ∉ notK xs ys := by rw [hn1]; simp
      unfold notK at this
      simp [List.mem_filter, hx] at this
      exact this
    have hys : ∀ x ∈ ys, x ∈ xs := fun x hx => by
      have : x ∉ notK ys xs := by rw [hn2]; simp
      unfold notK at this
      simp [List.mem_filter, hx] at this
      exact this
    have hik : inK ys xs = ys := by unfold inK; rw [List.filter_eq_self]; intro x hx; simpa using hys x hx
    have hlen : ys.length = (stK xs ys).length := by have := congrArg List.length hik; omega
    have hll : xs.length ≤ ys.length := hx.length_le_of_subset fun x h => hxs x h
    have e1 : stK xs ys = ys := eq_of_plc hy (hr.1.imp fun h => h.2) (fun x h => (hr.2 x h).2) (by omega)
    have e2 : stK xs ys = xs := eq_of_plc hx (hr.1.imp fun h => h.1) (fun x h => (hr.2 x h).1) (by omega)
    exact e2.symm.trans e1
  · rintro rfl
    have h2 := stK_self xs hx
    have h3 : inK xs xs = xs := by unfold inK; rw [List.filter_eq_self]; intro x hx; simpa using hx
    have h4 : notK xs xs = [] := by unfold notK; rw [List.filter_eq_nil_iff]; intro x hx; simp [hx]
    rw [h2, h3, h4] at h1
    simp only [List.length_nil] at h1
    omega
end Go.Proofs.Ytknnbajcabodoaa
