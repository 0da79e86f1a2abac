/- Plain facts on keys that stay: they rise in both lists, and no more keys can stay. -/
import Derived.Test.YtknnbajcabodoaaQ3

namespace Go.Proofs.Ytknnbajcabodoaa
set_option linter.unusedSimpArgs false
set_option linter.unusedVariables false

/-- What is kept: some of the places, rising; and no less than there may be. -/
structure KpI (X P : Nat → Int) (n : Nat) (m : Int) (k : Nat) (J : List Nat) : Prop where
  eq : (keep X (lrA P n) m k).1 = J.map X
  rise : J.Pairwise fun i j => i < j ∧ P i < P j
  lt : ∀ j ∈ J, j < k
  last : AtOK P (lrA P n) k ((J.map P).getLastD (-1)) (keep X (lrA P n) m k).2
  none : J = [] → ∀ j, j < k → lrA P n j ≠ m
  some : J ≠ [] → ∃ p, (J.map P).getLastD (-1) = P p ∧ p ∈ J ∧ lrA P n p = (keep X (lrA P n) m k).2 + 1 ∧ ∀ j, p < j → j < k → lrA P n j ≠ (keep X (lrA P n) m k).2
  up : ∀ j ∈ J, P j ≤ (J.map P).getLastD (-1)

theorem keep_idx (X P : Nat → Int) (n : Nat) (m : Int) (hP : ∀ j, j < n → 0 ≤ P j) (k : Nat) (hk : k ≤ n) : ∃ J, KpI X P n m k J := by
  induction k with
  | zero => exact ⟨[], rfl, List.Pairwise.nil, by simp, .inl rfl, by simp, by simp, by simp⟩
  | succ k ih =>
    obtain ⟨J, h⟩ := ih (by omega)
    by_cases hl : lrA P n k = (keep X (lrA P n) m k).2
    · have hlt := h.last.lt (by omega) (hP k (by omega)) hl
      have hle : ((J ++ [k]).map P).getLastD (-1) = P k := by simp
      refine ⟨J ++ [k], ?_, ?_, ?_, ?_, by simp, fun _ => ⟨k, hle, by simp, ?_, fun j h1 h2 => by omega⟩, ?_⟩
      · rw [keep_yes _ _ _ _ hl, h.eq]; simp
      · rw [List.pairwise_append]
        refine ⟨h.rise, by simp, fun i hi j hj => ?_⟩
        simp at hj
        subst hj
        exact ⟨h.lt i hi, Int.lt_of_le_of_lt (h.up i hi) hlt⟩
      · intro j hj
        rw [List.mem_append] at hj
        rcases hj with hj | hj
        · have := h.lt j hj; omega
        · simp at hj; omega
      · rw [hle, keep_yes _ _ _ _ hl]
        exact AtOK.yes (at_ := 0) hl
      · rw [keep_yes _ _ _ _ hl]; dsimp only; omega
      · intro j hj
        rw [hle]
        rw [List.mem_append] at hj
        rcases hj with hj | hj
        · have := h.up j hj; omega
        · simp at hj; subst hj; exact Int.le_refl _
    · refine ⟨J, by rw [keep_no _ _ _ _ hl]; exact h.eq, h.rise, fun j hj => by have := h.lt j hj; omega, by rw [keep_no _ _ _ _ hl]; exact h.last.no hl, ?_, ?_, h.up⟩
      · intro hJ j hj
        rcases Nat.lt_or_ge j k with h1 | h1
        · exact h.none hJ j h1
        · obtain rfl : j = k := by omega
          have h2 := (keep_bd X (lrA P n) m j).2
          rw [h.eq, hJ] at h2
          simp at h2
          rw [← h2]; exact hl
      · intro hJ
        obtain ⟨p, e1, e2, e3, e4⟩ := h.some hJ
        rw [keep_no _ _ _ _ hl]
        refine ⟨p, e1, e2, e3, fun j h1 h2 => ?_⟩
        rcases Nat.lt_or_ge j k with h3 | h3
        · exact e4 j h1 h3
        · obtain rfl : j = k := by omega
          exact hl

theorem mst_has (L : Nat → Int) (k : Nat) (h : 0 < mst L k) : ∃ j, j < k ∧ L j = mst L k := by
  induction k with
  | zero => simp [mst] at h
  | succ k ih =>
    unfold mst at h ⊢
    rcases Int.lt_or_le (mst L k) (L k) with h1 | h1
    · exact ⟨k, by omega, by omega⟩
    · obtain ⟨j, h2, h3⟩ := ih (by omega)
      exact ⟨j, by omega, by omega⟩
theorem mst_ge (L : Nat → Int) (k j : Nat) (h : j < k) : L j ≤ mst L k := by
  induction k with
  | zero => omega
  | succ k ih =>
    unfold mst
    rcases Nat.lt_or_ge j k with h1 | h1
    · have := ih h1; omega
    · obtain rfl : j = k := by omega
      omega

/-- All that can be kept is kept. -/
theorem keep_all (X P : Nat → Int) (n : Nat) (hP : ∀ j, j < n → 0 ≤ P j) : ((keep X (lrA P n) (mst (lrA P n) n) n).1.length : Int) = mst (lrA P n) n := by
  obtain ⟨J, h⟩ := keep_idx X P n (mst (lrA P n) n) hP n (Nat.le_refl _)
  have hb := (keep_bd X (lrA P n) (mst (lrA P n) n) n).2
  have h0 := mst_nonneg (lrA P n) n
  by_cases hJ : J = []
  · have hn := h.none hJ
    have he : (keep X (lrA P n) (mst (lrA P n) n) n).1.length = 0 := by rw [h.eq, hJ]; rfl
    rcases Int.lt_or_le 0 (mst (lrA P n) n) with h1 | h1
    · obtain ⟨j, h2, h3⟩ := mst_has _ _ h1
      exact absurd h3 (hn j h2)
    · rw [he]; omega
  · obtain ⟨p, e1, e2, e3, e4⟩ := h.some hJ
    have hpn := h.lt p e2
    have hpos := lrA_pos P n p hpn
    rcases Int.lt_or_le 0 (keep X (lrA P n) (mst (lrA P n) n) n).2 with h1 | h1
    · obtain ⟨j, a, b, c, d⟩ := lrA_next P n p _ hpn (by omega) e3
      exact absurd d (e4 j a b)
    · omega

/-- Rising lists of places are no longer than the first of them tells. -/
theorem rise_len (P : Nat → Int) (n : Nat) (T : List Nat) (i : Nat) (hp : (i :: T).Pairwise fun i j => i < j ∧ P i < P j) (hn : ∀ j ∈ i :: T, j < n) : ((i :: T).length : Int) ≤ lrA P n i := by
  induction T generalizing i with
  | nil => have := lrA_pos P n i (hn i (by simp)); simp; omega
  | cons j T ih =>
    have h1 := List.pairwise_cons.1 hp
    have h2 := ih j h1.2 fun x hx => hn x (List.mem_cons_of_mem _ hx)
    have h3 := h1.1 j (by simp)
    have h4 := lrA_more P n i j (hn j (by simp)) h3.1 h3.2
    simp at h2 ⊢
    omega
theorem rise_le (P : Nat → Int) (n : Nat) (T : List Nat) (hp : T.Pairwise fun i j => i < j ∧ P i < P j) (hn : ∀ j ∈ T, j < n) : (T.length : Int) ≤ mst (lrA P n) n := by
  cases T with
  | nil => simpa using mst_nonneg _ _
  | cons i T =>
    have h1 := rise_len P n T i hp hn
    have h2 := mst_ge (lrA P n) n i (hn i (by simp))
    omega

/-- Keys that are in both lists, in the order of both. -/
def Ris (a b S : List Int) : Prop := S.Pairwise (fun x y => plc a x < plc a y ∧ plc b x < plc b y) ∧ ∀ x ∈ S, x ∈ a ∧ x ∈ b
theorem Ris.symm {a b S : List Int} (h : Ris a b S) : Ris b a S := ⟨h.1.imp fun h => ⟨h.2, h.1⟩, fun x hx => ⟨(h.2 x hx).2, (h.2 x hx).1⟩⟩

theorem plc_nd (l : List Int) (h : l.Nodup) (k : Nat) (hk : k < l.length) : plc l (l.getD k 0) = k := by
  refine plc_at l _ k hk rfl fun j hj e => ?_
  have h1 : l[j] = l[k] := by simpa [List.getD, hk, show j < l.length by omega] using e
  have := (List.getElem_inj h).1 h1
  omega
theorem plc_pw (l : List Int) (h : l.Nodup) : l.Pairwise fun x y => plc l x < plc l y := by
  rw [List.pairwise_iff_getElem]
  intro i j hi hj hij
  have h1 := plc_nd l h i hi
  have h2 := plc_nd l h j hj
  simp only [List.getD, List.getElem?_eq_getElem hi, List.getElem?_eq_getElem hj, Option.getD_some] at h1 h2
  rw [h1, h2]
  omega
theorem inK_sub (xs ys : List Int) : (inK ys xs).Sublist ys := List.filter_sublist
theorem mem_inK (xs ys : List Int) (x : Int) : x ∈ inK ys xs ↔ x ∈ ys ∧ x ∈ xs := by unfold inK; simp [List.mem_filter]
theorem getD_memI (l : List Int) (i : Nat) (h : i < l.length) : l.getD i 0 ∈ l := by
  rw [List.getD_eq_getElem?_getD, List.getElem?_eq_getElem h]; exact List.getElem_mem _
theorem pw_getD {l : List Int} {R : Int → Int → Prop} (h : l.Pairwise R) (i j : Nat) (hij : i < j) (hj : j < l.length) : R (l.getD i 0) (l.getD j 0) := by
  have := List.pairwise_iff_getElem.1 h i j (by omega) hj hij
  simpa [List.getD, List.getElem?_eq_getElem hj, List.getElem?_eq_getElem (show i < l.length by omega)] using this

theorem stK_Ris (xs ys : List Int) (hy : ys.Nodup) : Ris xs ys (stK xs ys) := by
  have hKp := (plc_pw ys hy).sublist (inK_sub xs ys)
  unfold stK
  generalize hK : inK ys xs = K at *
  have hmem : ∀ j, j < K.length → K.getD j 0 ∈ xs ∧ K.getD j 0 ∈ ys := fun j hj => by
    have := getD_memI K j hj
    rw [← hK, mem_inK] at this
    rw [← hK]; exact ⟨this.2, this.1⟩
  have hP : ∀ j, j < K.length → 0 ≤ plF xs K j := fun j hj => plc_in _ _ (hmem j hj).1
  obtain ⟨J, h⟩ := keep_idx (fun j => K.getD j 0) (plF xs K) K.length (mst (lenF xs K) K.length) hP K.length (Nat.le_refl _)
  have he : (keep (fun j => K.getD j 0) (lenF xs K) (mst (lenF xs K) K.length) K.length).1 = J.map fun j => K.getD j 0 := h.eq
  rw [he]
  refine ⟨?_, fun x hx => ?_⟩
  · rw [List.pairwise_map]
    refine h.rise.imp_of_mem fun {i j} hi hj hij => ⟨hij.2, pw_getD hKp i j hij.1 (h.lt j hj)⟩
  · obtain ⟨j, hj, rfl⟩ := List.mem_map.1 hx
    exact hmem j (h.lt j hj)

theorem stK_max (xs ys : List Int) (hy : ys.Nodup) (T : List Int) (hT : Ris xs ys T) : T.length ≤ (stK xs ys).length := by
  have hKp := (plc_pw ys hy).sublist (inK_sub xs ys)
  have hKn : (inK ys xs).Nodup := hy.sublist (inK_sub xs ys)
  unfold stK
  have hTK : ∀ x ∈ T, x ∈ inK ys xs := fun x hx => (mem_inK _ _ _).2 ⟨(hT.2 x hx).2, (hT.2 x hx).1⟩
  have hm : ∀ j, j < (inK ys xs).length → (inK ys xs).getD j 0 ∈ xs := fun j hj => ((mem_inK _ _ _).1 (getD_memI _ j hj)).2
  generalize inK ys xs = K at *
  have hP : ∀ j, j < K.length → 0 ≤ plF xs K j := fun j hj => plc_in _ _ (hm j hj)
  have hall := keep_all (fun j => K.getD j 0) (plF xs K) K.length hP
  have hle := rise_le (plF xs K) K.length (T.map fun x => (plc K x).toNat) (by
    rw [List.pairwise_map]
    refine hT.1.imp_of_mem fun {x y} hx hy' hxy => ?_
    obtain ⟨p, hp, hpl, hpx⟩ := plc_index K x (hTK x hx)
    obtain ⟨q, hq, hql, hqy⟩ := plc_index K y (hTK y hy')
    rw [hp, hq]
    refine ⟨?_, ?_⟩
    · simp only [Int.toNat_natCast]
      rcases Nat.lt_or_ge p q with h1 | h1
      · exact h1
      · rcases Nat.eq_or_lt_of_le h1 with h2 | h2
        · subst h2
          rw [hpx] at hqy
          rw [hqy] at hxy
          exact absurd hxy.2 (Int.lt_irrefl _)
        · have := pw_getD hKp q p h2 hpl
          rw [hqy, hpx] at this
          have := hxy.2
          omega
    · show plF xs K _ < plF xs K _
      unfold plF
      simp only [Int.toNat_natCast, hpx, hqy]
      exact hxy.1) (by
    intro j hj
    obtain ⟨x, hx, rfl⟩ := List.mem_map.1 hj
    obtain ⟨p, hp, hpl, _⟩ := plc_index K x (hTK x hx)
    rw [hp]; simpa using hpl)
  rw [List.length_map] at hle
  have he : ((keep (fun j => K.getD j 0) (lenF xs K) (mst (lenF xs K) K.length) K.length).1.length : Int) = mst (lrA (plF xs K) K.length) K.length := hall
  omega

/-- As many keys stay the other way round. -/
theorem stK_symm (xs ys : List Int) (hx : xs.Nodup) (hy : ys.Nodup) : (stK ys xs).length = (stK xs ys).length :=
  Nat.le_antisymm (stK_max xs ys hy _ (stK_Ris ys xs hx).symm) (stK_max ys xs hx _ (stK_Ris xs ys hy).symm)

theorem stK_self (xs : List Int) (hx : xs.Nodup) : stK xs xs = xs := by
  have h1 : xs.length ≤ (stK xs xs).length := stK_max xs xs hx xs ⟨(plc_pw xs hx).imp fun h => ⟨h, h⟩, fun x h => ⟨h, h⟩⟩
  have h2 := stK_Ris xs xs hx
  have hK : inK xs xs = xs := by unfold inK; rw [List.filter_eq_self]; intro x hx; simpa using hx
  have h3 : (stK xs xs).Sublist xs := by
    unfold stK
    rw [hK]
    generalize hF : (fun j : Nat => xs.getD j 0) = X
    have : ∀ k, k ≤ xs.length → (keep X (lenF xs xs) (mst (lenF xs xs) xs.length) k).1.Sublist (xs.take k) := by
      intro k
      induction k with
      | zero => intro _; simp [keep]
      | succ k ih =>
        intro hk
        have h4 := ih (by omega)
        have h5 : xs.take (k + 1) = xs.take k ++ [X k] := by rw [List.take_succ_eq_append_getElem (by omega), ← hF]; simp [List.getD, show k < xs.length by omega]
        by_cases hl : lenF xs xs k = (keep X (lenF xs xs) (mst (lenF xs xs) xs.length) k).2
        · rw [keep_yes _ _ _ _ hl, h5]
          exact List.Sublist.append h4 (List.Sublist.refl _)
        · rw [keep_no _ _ _ _ hl, h5]
          exact h4.trans (List.sublist_append_left _ _)
    have h6 := this xs.length (Nat.le_refl _)
    rwa [List.take_length] at h6
  exact h3.eq_of_length_le h1

/-- A key that fits into the order of both could stay, too. -/
theorem Ris.more {a b S : List Int} {y : Int} (h : Ris a b S) (hy : y ∈ a ∧ y ∈ b) (hne : ∀ x ∈ S, (plc a x < plc a y ∧ plc b x < plc b y) ∨ (plc a y < plc a x ∧ plc b y < plc b x)) : ∃ T, Ris a b T ∧ T.length = S.length + 1 ∧ ∀ z ∈ T, z = y ∨ z ∈ S := by
  induction S with
  | nil => exact ⟨[y], ⟨by simp, by simpa using hy⟩, rfl, by simp⟩
  | cons x S ih =>
    have hp := List.pairwise_cons.1 h.1
    rcases hne x (by simp) with h1 | h1
    · obtain ⟨T, hT, hl, hm⟩ := ih ⟨hp.2, fun z hz => h.2 z (by simp [hz])⟩ fun z hz => hne z (by simp [hz])
      refine ⟨x :: T, ⟨?_, ?_⟩, by simp [hl], ?_⟩
      · rw [List.pairwise_cons]
        refine ⟨fun z hz => ?_, hT.1⟩
        rcases hm z hz with rfl | hz
        · exact h1
        · exact hp.1 z hz
      · intro z hz
        rcases List.mem_cons.1 hz with rfl | hz
        · exact h.2 z (by simp)
        · exact hT.2 z hz
      · intro z hz
        rcases List.mem_cons.1 hz with rfl | hz
        · simp
        · rcases hm z hz with rfl | hz
          · simp
          · simp [hz]
    · refine ⟨y :: x :: S, ⟨?_, ?_⟩, by simp, by simp⟩
      · rw [List.pairwise_cons]
        refine ⟨fun z hz => ?_, h.1⟩
        rcases List.mem_cons.1 hz with rfl | hz
        · exact h1
        · have := hp.1 z hz; omega
      · intro z hz
        rcases List.mem_cons.1 hz with rfl | hz
        · exact hy
        · exact h.2 z hz
end Go.Proofs.Ytknnbajcabodoaa
