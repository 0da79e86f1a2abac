/- Plain facts: the changes of a patch make one list of keys of the other one. -/
import Derived.Test.YtlbomopjldhmeaaK18
import Derived.Test.YtlbomopjldhmeaaB5a

namespace Go.Proofs.Ytlbomopjldhmeaa
set_option linter.unusedSimpArgs false
set_option linter.unusedVariables false

theorem take_index (l : List Int) (u x : Int) (hl : l.Nodup) (hx : x ∈ l.take (plc l u + 1).toNat) (hu : u ∈ l) : x = u ∨ plc l x < plc l u := by
  obtain ⟨p, hp, hpl, hpu⟩ := plc_index l u hu
  rw [hp] at hx ⊢
  have e1 : ((p : Int) + 1).toNat = p + 1 := by omega
  rw [e1] at hx
  obtain ⟨i, hi, hix⟩ := List.getElem_of_mem hx
  rw [List.length_take] at hi
  rw [List.getElem_take] at hix
  have hxd : l.getD i 0 = x := by rw [← hix]; simp [List.getD, show i < l.length by omega]
  have hpi := plc_nd l hl i (by omega)
  rw [hxd] at hpi
  by_cases h : i = p
  · left; rw [← hxd, h, hpu]
  · right; rw [hpi]; omega
theorem drop_index (l : List Int) (u x : Int) (hl : l.Nodup) (hx : x ∈ l.drop (plc l u + 1).toNat) (hu : u ∈ l) : plc l u < plc l x := by
  obtain ⟨p, hp, hpl, hpu⟩ := plc_index l u hu
  rw [hp] at hx ⊢
  have e1 : ((p : Int) + 1).toNat = p + 1 := by omega
  rw [e1] at hx
  obtain ⟨i, hi, hix⟩ := List.getElem_of_mem hx
  rw [List.length_drop] at hi
  rw [List.getElem_drop] at hix
  have hxd : l.getD (p + 1 + i) 0 = x := by rw [← hix]; simp [List.getD, show p + 1 + i < l.length by omega]
  have hpi := plc_nd l hl (p + 1 + i) (by omega)
  rw [hxd] at hpi
  omega
theorem remF_filter (l : List Int) (x : Int) (hl : l.Nodup) (hx : x ∈ l) : remF l x = l.filter fun y => decide (y ≠ x) := by
  obtain ⟨p, hp, hpl, hpx⟩ := plc_index l x hx
  unfold remF
  rw [hp]
  have e0 : ((p : Int)).toNat = p := by omega
  rw [e0]
  have e : l = l.take p ++ x :: l.drop (p + 1) := by
    have h1 : l.drop p = x :: l.drop (p + 1) := by
      rw [List.drop_eq_getElem_cons hpl]
      have : l[p] = x := by rw [← hpx]; simp [List.getD, hpl]
      rw [this]
    rw [← h1, List.take_append_drop]
  have hnd : (l.take p ++ x :: l.drop (p + 1)).Nodup := by rw [← e]; exact hl
  rw [List.nodup_append] at hnd
  obtain ⟨-, h2, h3⟩ := hnd
  have f1 : (l.take p).filter (fun y => decide (y ≠ x)) = l.take p := by
    rw [List.filter_eq_self]
    intro a ha
    simp only [decide_eq_true_eq]
    exact h3 a ha x (by simp)
  have f2 : (l.drop (p + 1)).filter (fun y => decide (y ≠ x)) = l.drop (p + 1) := by
    rw [List.filter_eq_self]
    intro a ha
    simp only [decide_eq_true_eq]
    intro hax
    subst hax
    exact (List.nodup_cons.1 h2).1 ha
  have e2 : l.filter (fun y => decide (y ≠ x)) = (l.take p ++ x :: l.drop (p + 1)).filter (fun y => decide (y ≠ x)) := by rw [← e]
  rw [e2, List.filter_append, List.filter_cons, f1, f2]
  simp
theorem remF_sub (l : List Int) (x : Int) : (remF l x).Sublist l := by
  unfold remF
  have h1 : (l.take (plc l x).toNat ++ l.drop ((plc l x).toNat + 1)).Sublist (l.take (plc l x).toNat ++ l.drop (plc l x).toNat) :=
    List.Sublist.append (List.Sublist.refl _) (List.drop_sublist_drop_left l (Nat.le_succ _))
  rwa [List.take_append_drop] at h1
theorem putF_nodup (l : List Int) (u k : Int) (hl : l.Nodup) (hk : k ∉ l) : (putF l u k).Nodup := by
  unfold putF
  have hp : (l.take (putP l u) ++ [k] ++ l.drop (putP l u)).Perm (k :: l) := by
    have h1 : (l.take (putP l u) ++ [k] ++ l.drop (putP l u)).Perm (k :: (l.take (putP l u) ++ l.drop (putP l u))) := by
      rw [List.append_assoc]
      exact List.perm_middle
    rwa [List.take_append_drop] at h1
  exact hp.nodup_iff.2 (List.nodup_cons.2 ⟨hk, hl⟩)
theorem pt1_rev (G : List Int) : pt1 G G.length = G.reverse.map fun x => ⟨0, x, -1⟩ := by
  unfold pt1
  apply List.ext_getElem?
  intro i
  rw [List.getElem?_map, List.getElem?_map]
  by_cases h : i < G.length
  · rw [List.getElem?_range h, List.getElem?_reverse h]
    have h2 : G.length - 1 - i < G.length := by omega
    rw [List.getElem?_eq_getElem h2]
    simp [List.getD, h2]
  · rw [List.getElem?_eq_none (by simp; omega), List.getElem?_eq_none (by simp; omega)]; rfl
theorem patched_rem (rest : List Ac) : ∀ (D l : List Int), l.Nodup → D.Nodup → (∀ x ∈ D, x ∈ l) → patched l ((D.map fun x => (⟨0, x, -1⟩ : Ac)) ++ rest) = patched (l.filter fun y => !decide (y ∈ D)) rest := by
  intro D
  induction D with
  | nil =>
    intro l _ _ _
    have : l.filter (fun y => !decide (y ∈ ([] : List Int))) = l := by rw [List.filter_eq_self]; intro a _; simp
    rw [this]; rfl
  | cons d D ih =>
    intro l hl hd hs
    have hdl : d ∈ l := hs d (by simp)
    have hone : oneB l ⟨0, d, -1⟩ = true := by simp [oneB, hdl]
    have hL : oneL l ⟨0, d, -1⟩ = l.filter fun y => decide (y ≠ d) := by
      rw [← remF_filter l d hl hdl]; rfl
    rw [List.nodup_cons] at hd
    show (if oneB l ⟨0, d, -1⟩ then patched (oneL l ⟨0, d, -1⟩) ((D.map fun x => (⟨0, x, -1⟩ : Ac)) ++ rest) else none) = _
    rw [hone, if_pos rfl, hL, ih _ (hl.sublist List.filter_sublist) hd.2 (fun x hx => List.mem_filter.2 ⟨hs x (by simp [hx]), by
      simp only [decide_eq_true_eq]; intro e; subst e; exact hd.1 hx⟩)]
    rw [List.filter_filter]
    congr 1
    apply List.filter_congr
    intro a ha
    by_cases h1 : a = d <;> by_cases h2 : a ∈ D <;> simp [h1, h2]

/-- What the keys are while the changes of a patch are made. -/
structure PtI (xs ys S : List Int) (k : Nat) (l : List Int) : Prop where
  nd : l.Nodup
  sub : ∀ x ∈ l, x ∈ ys
  has : ∀ x, x ∈ ys → (x ∈ xs ∨ x ∈ ys.take k) → x ∈ l
  no : ∀ x ∈ l, x ∈ xs ∨ x ∈ ys.take k
  ord : l.Pairwise fun a b => (a ∈ ys.take k ∨ a ∈ S) → (b ∈ ys.take k ∨ b ∈ S) → plc ys a < plc ys b

theorem mem_take_plc (ys : List Int) (hy : ys.Nodup) (k : Nat) (x : Int) (hx : x ∈ ys) : x ∈ ys.take k ↔ plc ys x < k := by
  obtain ⟨p, hp, hpl, hpx⟩ := plc_index ys x hx
  rw [hp]
  constructor
  · intro h
    obtain ⟨i, hi, hix⟩ := List.getElem_of_mem h
    rw [List.length_take] at hi
    rw [List.getElem_take] at hix
    have hxd : ys.getD i 0 = x := by rw [← hix]; simp [List.getD, show i < ys.length by omega]
    have := plc_nd ys hy i (by omega)
    rw [hxd, hp] at this
    omega
  · intro h
    have hpk : p < k := by omega
    rw [List.mem_iff_getElem?]
    refine ⟨p, ?_⟩
    rw [List.getElem?_take, if_pos hpk, List.getElem?_eq_getElem hpl]
    rw [← hpx]; simp [List.getD, hpl]
theorem take_succ_mem (ys : List Int) (k : Nat) (h : k < ys.length) (x : Int) : x ∈ ys.take (k + 1) ↔ x ∈ ys.take k ∨ x = ys.getD k 0 := by
  have hg : ys[k] = ys.getD k 0 := by simp [List.getD, h]
  rw [List.take_succ_eq_append_getElem h, hg]; simp

/-- A key is put right behind the one ahead of it. -/
theorem PtI.put {xs ys S l l0 : List Int} {k : Nat} (hy : ys.Nodup) (hys : In30 ys) (h : PtI xs ys S k l) (hk : k < ys.length) (hl0 : l0.Sublist l) (hm : ∀ x ∈ l, x ≠ ys.getD k 0 → x ∈ l0) (hno : ys.getD k 0 ∉ l0) :
    putB l0 (prevK ys k) (ys.getD k 0) = true ∧ PtI xs ys S (k + 1) (putF l0 (prevK ys k) (ys.getD k 0)) := by
  have hyk : ys.getD k 0 ∈ ys := getD_memI ys k hk
  have hnd := h.nd.sublist hl0
  have hpk := plc_nd ys hy k hk
  have hmem : ∀ x, x ∈ putF l0 (prevK ys k) (ys.getD k 0) ↔ x = ys.getD k 0 ∨ x ∈ l0 := putF_mem _ _ _
  -- the key ahead
  have hprev : (k = 0 ∧ prevK ys k = -1) ∨ (0 < k ∧ prevK ys k ∈ l0 ∧ prevK ys k ∈ ys ∧ plc ys (prevK ys k) = (k : Int) - 1 ∧ 0 ≤ prevK ys k) := by
    rcases Nat.eq_zero_or_pos k with rfl | h0
    · exact .inl ⟨rfl, rfl⟩
    · obtain ⟨j, rfl⟩ : ∃ j, k = j + 1 := ⟨k - 1, by omega⟩
      have hj : ys.getD j 0 ∈ ys := getD_memI ys j (by omega)
      have hpj := plc_nd ys hy j (by omega)
      have hjt : ys.getD j 0 ∈ ys.take (j + 1) := (mem_take_plc ys hy _ _ hj).2 (by omega)
      refine .inr ⟨by omega, hm _ (h.has _ hj (.inr hjt)) ?_, hj, by show plc ys (ys.getD j 0) = _; omega, (hys _ hj).1⟩
      intro e
      have : plc ys (ys.getD j 0) = plc ys (ys.getD (j + 1) 0) := by rw [show prevK ys (j + 1) = ys.getD j 0 from rfl] at e; rw [e]
      omega
  have hB : putB l0 (prevK ys k) (ys.getD k 0) = true := by
    have hr := hys _ hyk
    unfold putB rng
    rw [decide_eq_true hr]
    rcases hprev with ⟨_, e⟩ | ⟨_, hm1, _, _, h0⟩
    · rw [e]; rfl
    · rw [decide_eq_true (show -1 ≤ prevK ys k by omega), putP_zero l0 _ h0, decide_eq_false (show ¬ plc l0 (prevK ys k) < 0 by have := plc_in l0 _ hm1; omega)]; simp
  refine ⟨hB, putF_nodup _ _ _ hnd hno, ?_, ?_, ?_, ?_⟩
  · intro x hx
    rcases (hmem x).1 hx with rfl | hx
    · exact hyk
    · exact h.sub x (hl0.subset hx)
  · intro x hx hx2
    rw [hmem]
    by_cases e : x = ys.getD k 0
    · exact .inl e
    · right
      refine hm x (h.has x hx ?_) e
      rcases hx2 with h1 | h1
      · exact .inl h1
      · rcases (take_succ_mem ys k hk x).1 h1 with h2 | h2
        · exact .inr h2
        · exact absurd h2 e
  · intro x hx
    rw [take_succ_mem ys k hk]
    rcases (hmem x).1 hx with rfl | hx
    · exact .inr (.inr rfl)
    · rcases h.no x (hl0.subset hx) with h1 | h1
      · exact .inl h1
      · exact .inr (.inl h1)
  · have hord := h.ord.sublist hl0
    have hT : ∀ x ∈ l0, (x ∈ ys.take (k + 1) ∨ x ∈ S) → (x ∈ ys.take k ∨ x ∈ S) := by
      intro x hx hx2
      rcases hx2 with h1 | h1
      · rcases (take_succ_mem ys k hk x).1 h1 with h2 | h2
        · exact .inl h2
        · exact absurd (h2 ▸ hx) hno
      · exact .inr h1
    have hne : ∀ x ∈ l0, plc ys x ≠ k := by
      intro x hx e
      have hxy := h.sub x (hl0.subset hx)
      obtain ⟨p, hp, hpl, hpx⟩ := plc_index ys x hxy
      have : p = k := by omega
      subst this
      exact hno (hpx ▸ hx)
    -- what is ahead of the place, and what is behind it
    have hA : ∀ a ∈ l0.take (putP l0 (prevK ys k)), (a ∈ ys.take k ∨ a ∈ S) → plc ys a < k := by
      intro a ha ht
      rcases hprev with ⟨rfl, e⟩ | ⟨h0, hm1, hm2, hm3, hm4⟩
      · rw [e] at ha
        unfold putP at ha
        simp at ha
      · unfold putP at ha
        rw [if_pos hm4] at ha
        have hal := List.mem_of_mem_take ha
        rcases take_index l0 _ a hnd ha hm1 with e | hlt
        · rw [e]; omega
        · -- a lies ahead of the one before
          obtain ⟨i, hi1, hi2, hi3⟩ := plc_index l0 a hal
          obtain ⟨j, hj1, hj2, hj3⟩ := plc_index l0 _ hm1
          have hij : i < j := by omega
          have := pw_getD hord i j hij hj2
          rw [hi3, hj3] at this
          have h9 := this ht (.inl ((mem_take_plc ys hy k _ hm2).2 (by omega)))
          omega
    have hD : ∀ b ∈ l0.drop (putP l0 (prevK ys k)), (b ∈ ys.take k ∨ b ∈ S) → (k : Int) < plc ys b := by
      intro b hb ht
      have hbl := List.mem_of_mem_drop hb
      have hby := h.sub b (hl0.subset hbl)
      have hn := hne b hbl
      have hpos := plc_in ys b hby
      rcases hprev with ⟨rfl, e⟩ | ⟨h0, hm1, hm2, hm3, hm4⟩
      · simp at hn ⊢; omega
      · unfold putP at hb
        rw [if_pos hm4] at hb
        have hlt := drop_index l0 _ b hnd hb hm1
        obtain ⟨i, hi1, hi2, hi3⟩ := plc_index l0 b hbl
        obtain ⟨j, hj1, hj2, hj3⟩ := plc_index l0 _ hm1
        have hij : j < i := by omega
        have := pw_getD hord j i hij hi2
        rw [hi3, hj3] at this
        have h9 := this (.inl ((mem_take_plc ys hy k _ hm2).2 (by omega))) ht
        omega
    have hsplit : (l0.take (putP l0 (prevK ys k)) ++ l0.drop (putP l0 (prevK ys k))).Pairwise fun a b => (a ∈ ys.take k ∨ a ∈ S) → (b ∈ ys.take k ∨ b ∈ S) → plc ys a < plc ys b := by
      rw [List.take_append_drop]; exact hord
    rw [List.pairwise_append] at hsplit
    obtain ⟨s1, s2, s3⟩ := hsplit
    unfold putF
    rw [List.append_assoc, List.pairwise_append]
    have up : ∀ (L : List Int), (∀ x ∈ L, x ∈ l0) → L.Pairwise (fun a b => (a ∈ ys.take k ∨ a ∈ S) → (b ∈ ys.take k ∨ b ∈ S) → plc ys a < plc ys b) → L.Pairwise (fun a b => (a ∈ ys.take (k + 1) ∨ a ∈ S) → (b ∈ ys.take (k + 1) ∨ b ∈ S) → plc ys a < plc ys b) := by
      intro L hL hp
      exact hp.imp_of_mem fun ha hb hr h1 h2 => hr (hT _ (hL _ ha) h1) (hT _ (hL _ hb) h2)
    refine ⟨up _ (fun x hx => List.mem_of_mem_take hx) s1, ?_, ?_⟩
    · rw [List.singleton_append, List.pairwise_cons]
      refine ⟨fun b hb _ h2 => ?_, up _ (fun x hx => List.mem_of_mem_drop hx) s2⟩
      rw [hpk]
      exact hD b hb (hT b (List.mem_of_mem_drop hb) h2)
    · intro a ha b hb h1 h2
      have ha' := hA a ha (hT a (List.mem_of_mem_take ha) h1)
      rw [List.singleton_append, List.mem_cons] at hb
      rcases hb with rfl | hb
      · rw [hpk]; exact ha'
      · have := hD b hb (hT b (List.mem_of_mem_drop hb) h2); omega

theorem pt2_ind (xs ys S : List Int) (hy : ys.Nodup) (hys : In30 ys) (hS : ∀ x ∈ S, x ∈ xs ∧ x ∈ ys) (l0 : List Int) (h0 : PtI xs ys S 0 l0) : ∀ k, k ≤ ys.length → ∃ l, PtI xs ys S k l ∧ ∀ rest, patched l0 (pt2 xs S ys k ++ rest) = patched l rest := by
  intro k
  induction k with
  | zero => intro _; exact ⟨l0, h0, fun _ => rfl⟩
  | succ k ih =>
    intro hk
    obtain ⟨l, h, hr⟩ := ih (by omega)
    have hkl : k < ys.length := by omega
    have hyk : ys.getD k 0 ∈ ys := getD_memI ys k hkl
    have hpk := plc_nd ys hy k hkl
    have hnt : ys.getD k 0 ∉ ys.take k := by rw [mem_take_plc ys hy k _ hyk, hpk]; omega
    by_cases hx : ys.getD k 0 ∈ xs
    · have hl : ys.getD k 0 ∈ l := h.has _ hyk (.inl hx)
      by_cases hs : ys.getD k 0 ∈ S
      · refine ⟨l, ⟨h.nd, h.sub, fun x h1 h2 => h.has x h1 ?_, fun x h1 => ?_, h.ord.imp_of_mem fun ha hb hr h1 h2 => hr ?_ ?_⟩, fun rest => by rw [pt2_stay _ _ _ _ hx hs]; exact hr rest⟩
        · rcases h2 with h2 | h2
          · exact .inl h2
          · rcases (take_succ_mem ys k hkl x).1 h2 with h3 | h3
            · exact .inr h3
            · exact .inl (h3 ▸ hx)
        · rcases h.no x h1 with h2 | h2
          · exact .inl h2
          · exact .inr ((take_succ_mem ys k hkl x).2 (.inl h2))
        · rcases h1 with h1 | h1
          · rcases (take_succ_mem ys k hkl _).1 h1 with h3 | h3
            · exact .inl h3
            · exact .inr (h3 ▸ hs)
          · exact .inr h1
        · rcases h2 with h2 | h2
          · rcases (take_succ_mem ys k hkl _).1 h2 with h3 | h3
            · exact .inl h3
            · exact .inr (h3 ▸ hs)
          · exact .inr h2
      · have hno : ys.getD k 0 ∉ remF l (ys.getD k 0) := by rw [remF_filter l _ h.nd hl]; simp
        have hm : ∀ x ∈ l, x ≠ ys.getD k 0 → x ∈ remF l (ys.getD k 0) := fun x h1 h2 => by rw [remF_filter l _ h.nd hl]; simp [h1]; simpa using h2
        obtain ⟨hB, hI⟩ := h.put hy hys hkl (remF_sub l _) hm hno
        refine ⟨_, hI, fun rest => ?_⟩
        rw [pt2_move _ _ _ _ hx hs, List.append_assoc, hr, List.singleton_append]
        have e1 : oneB l ⟨2, ys.getD k 0, prevK ys k⟩ = true := by
          show (if (2 : Int) = 0 then _ else if (2 : Int) = 1 then _ else if (2 : Int) = 2 then decide (ys.getD k 0 ∈ l) && putB (remF l (ys.getD k 0)) (prevK ys k) (ys.getD k 0) else false) = true
          rw [if_neg (by decide), if_neg (by decide), if_pos rfl, hB, decide_eq_true hl]; rfl
        show (if oneB l ⟨2, ys.getD k 0, prevK ys k⟩ then patched (oneL l ⟨2, ys.getD k 0, prevK ys k⟩) rest else none) = _
        rw [e1, if_pos rfl]; rfl
    · have hno : ys.getD k 0 ∉ l := fun hl => by
        rcases h.no _ hl with h1 | h1
        · exact hx h1
        · exact hnt h1
      obtain ⟨hB, hI⟩ := h.put hy hys hkl (List.Sublist.refl l) (fun x h1 _ => h1) hno
      refine ⟨_, hI, fun rest => ?_⟩
      rw [pt2_new _ _ _ _ hx, List.append_assoc, hr, List.singleton_append]
      have e1 : oneB l ⟨1, ys.getD k 0, prevK ys k⟩ = true := by
        show (if (1 : Int) = 0 then _ else if (1 : Int) = 1 then !decide (ys.getD k 0 ∈ l) && putB l (prevK ys k) (ys.getD k 0) else _) = true
        rw [if_neg (by decide), if_pos rfl, hB, decide_eq_false hno]; rfl
      show (if oneB l ⟨1, ys.getD k 0, prevK ys k⟩ then patched (oneL l ⟨1, ys.getD k 0, prevK ys k⟩) rest else none) = _
      rw [e1, if_pos rfl]; rfl

theorem patched_patch (xs ys : List Int) (hx : xs.Nodup) (hy : ys.Nodup) (hys : In30 ys) : patched xs (patchK xs ys) = some ys := by
  have hr := stK_Ris xs ys hy
  have hG : (notK xs ys).Nodup := hx.sublist List.filter_sublist
  unfold patchK
  rw [pt1_rev, patched_rem _ _ xs hx ((List.reverse_perm _).nodup_iff.2 hG) (fun x h => by rw [List.mem_reverse] at h; exact (List.mem_filter.1 h).1)]
  have e0 : xs.filter (fun y => !decide (y ∈ (notK xs ys).reverse)) = inK xs ys := by
    unfold inK
    apply List.filter_congr
    intro a ha
    unfold notK
    by_cases h : a ∈ ys <;> simp [h, ha]
  rw [e0]
  have hmi : ∀ x, x ∈ inK xs ys ↔ x ∈ xs ∧ x ∈ ys := fun x => mem_inK ys xs x
  have h0 : PtI xs ys (stK xs ys) 0 (inK xs ys) := by
    refine ⟨hx.sublist List.filter_sublist, fun x h => ((hmi x).1 h).2, fun x h1 h2 => (hmi x).2 ⟨?_, h1⟩, fun x h => .inl ((hmi x).1 h).1, ?_⟩
    · rcases h2 with h2 | h2
      · exact h2
      · simp at h2
    · have hpw := (plc_pw xs hx).sublist (inK_sub ys xs)
      refine hpw.imp_of_mem fun {a b} ha hb hab h1 h2 => ?_
      rcases h1 with h1 | h1
      · simp at h1
      rcases h2 with h2 | h2
      · simp at h2
      obtain ⟨i, hi, hia⟩ := List.getElem_of_mem h1
      obtain ⟨j, hj, hjb⟩ := List.getElem_of_mem h2
      have hia' : (stK xs ys).getD i 0 = a := by rw [← hia]; simp [List.getD, hi]
      have hjb' : (stK xs ys).getD j 0 = b := by rw [← hjb]; simp [List.getD, hj]
      rcases Nat.lt_trichotomy i j with h | h | h
      · have := pw_getD hr.1 i j h hj
        rw [hia', hjb'] at this
        exact this.2
      · subst h
        rw [hia'] at hjb'
        subst hjb'
        omega
      · have := pw_getD hr.1 j i h hi
        rw [hia', hjb'] at this
        have := this.1
        omega
  obtain ⟨l, hl, hp⟩ := pt2_ind xs ys (stK xs ys) hy hys hr.2 _ h0 ys.length (Nat.le_refl _)
  have hp0 := hp []
  rw [List.append_nil] at hp0
  rw [hp0]
  show some l = some ys
  congr 1
  have htk : ∀ x ∈ l, x ∈ ys.take ys.length := fun x hx => by rw [List.take_of_length_le (Nat.le_refl _)]; exact hl.sub x hx
  refine eq_of_plc hy (hl.ord.imp_of_mem fun ha hb h => h (.inl (htk _ ha)) (.inl (htk _ hb))) hl.sub ?_
  refine hy.length_le_of_subset fun x hx => hl.has x hx (.inr (by rw [List.take_of_length_le (Nat.le_refl _)]; exact hx))

theorem patch_makes {xs ys : List Int} (h : bothK xs ys = true) : applyB xs (patchF xs ys) = true ∧ applyF xs (patchF xs ys) = ys := by
  obtain ⟨h1, h2⟩ := bothK_parts xs ys h
  have hp : patched xs (patchF xs ys) = some ys := by
    unfold patchF
    rw [if_pos h]
    exact patched_patch xs ys (validK_parts h1).2.2 (validK_parts h2).2.2 (validK_in30 ys h2)
  have hB : applyB xs (patchF xs ys) = true := by
    unfold applyB
    have := patchF_len xs ys
    rw [hp, h1, decide_eq_true (by omega)]
    exact h2
  exact ⟨hB, by unfold applyF; rw [hB, hp]; rfl⟩
end Go.Proofs.Ytlbomopjldhmeaa
