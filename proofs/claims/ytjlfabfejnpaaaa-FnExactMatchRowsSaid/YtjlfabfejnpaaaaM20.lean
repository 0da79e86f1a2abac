/- The longest rising lists: how long they are from each place on, and the one that is met first. -/
import Derived.Test.YtjlfabfejnpaaaaS4

namespace Go.Proofs.Ytjlfabfejnpaaaa
set_option linter.unusedSimpArgs false
set_option linter.unusedVariables false
open Go.RowKit

/-- The greatest of the d numbers behind i whose places are greater. -/
def bst (P L : Nat → Int) (i : Nat) : Nat → Int
  | 0 => 0
  | d + 1 => if P i < P (i + 1 + d) then max (bst P L i d) (L (i + 1 + d)) else bst P L i d

def upd (f : Nat → Int) (i : Nat) (x : Int) : Nat → Int := fun j => if j = i then x else f j

/-- The lengths when the last r places have theirs. -/
def lrT (P : Nat → Int) (n : Nat) : Nat → Nat → Int
  | 0 => fun _ => 0
  | r + 1 => upd (lrT P n r) (n - 1 - r) (bst P (lrT P n r) (n - 1 - r) r + 1)

theorem bst_nonneg (P L : Nat → Int) (i d : Nat) : 0 ≤ bst P L i d := by
  induction d with
  | zero => exact Int.le_refl _
  | succ d ih => unfold bst; split <;> omega

theorem bst_ge (P L : Nat → Int) (i d e : Nat) (he : e < d) (hp : P i < P (i + 1 + e)) : L (i + 1 + e) ≤ bst P L i d := by
  induction d with
  | zero => omega
  | succ d ih =>
    unfold bst
    rcases Nat.lt_or_ge e d with h | h
    · have := ih h
      split <;> omega
    · obtain rfl : e = d := by omega
      rw [if_pos hp]; omega

theorem bst_has (P L : Nat → Int) (i d : Nat) (h : 0 < bst P L i d) : ∃ e, e < d ∧ P i < P (i + 1 + e) ∧ L (i + 1 + e) = bst P L i d := by
  induction d with
  | zero => simp [bst] at h
  | succ d ih =>
    unfold bst at h ⊢
    by_cases hp : P i < P (i + 1 + d)
    · rw [if_pos hp] at h ⊢
      by_cases hm : bst P L i d < L (i + 1 + d)
      · exact ⟨d, by omega, hp, by omega⟩
      · obtain ⟨e, h1, h2, h3⟩ := ih (by omega)
        exact ⟨e, by omega, h2, by omega⟩
    · rw [if_neg hp] at h ⊢
      obtain ⟨e, h1, h2, h3⟩ := ih h
      exact ⟨e, by omega, h2, h3⟩

theorem bst_congr (P L L' : Nat → Int) (i d : Nat) (h : ∀ e, e < d → L (i + 1 + e) = L' (i + 1 + e)) : bst P L i d = bst P L' i d := by
  induction d with
  | zero => rfl
  | succ d ih =>
    unfold bst
    rw [ih fun e he => h e (by omega), h d (by omega)]

theorem bst_le (P L : Nat → Int) (i d : Nat) (b : Int) (hb : 0 ≤ b) (h : ∀ j, L j ≤ b) : bst P L i d ≤ b := by
  induction d with
  | zero => exact hb
  | succ d ih => unfold bst; have := h (i + 1 + d); split <;> omega

theorem lrT_bd (P : Nat → Int) (n r j : Nat) : 0 ≤ lrT P n r j ∧ lrT P n r j ≤ r := by
  induction r generalizing j with
  | zero => exact ⟨Int.le_refl _, Int.le_refl _⟩
  | succ r ih =>
    unfold lrT upd
    have h1 := bst_nonneg P (lrT P n r) (n - 1 - r) r
    have h2 := bst_le P (lrT P n r) (n - 1 - r) r r (by omega) fun j => (ih j).2
    have h3 := ih j
    split <;> omega

theorem lrT_stay (P : Nat → Int) (n r s j : Nat) (h : n ≤ j + r) (hj : j < n) (hs : r + s ≤ n) : lrT P n (r + s) j = lrT P n r j := by
  induction s with
  | zero => rfl
  | succ s ih =>
    rw [show r + (s + 1) = (r + s) + 1 by omega]
    show upd (lrT P n (r + s)) (n - 1 - (r + s)) (bst P (lrT P n (r + s)) (n - 1 - (r + s)) (r + s) + 1) j = _
    unfold upd
    rw [if_neg (by omega)]
    exact ih (by omega)

/-- The lengths of all places. -/
def lrA (P : Nat → Int) (n : Nat) : Nat → Int := lrT P n n

theorem lrA_eq (P : Nat → Int) (n i : Nat) (hi : i < n) : lrA P n i = bst P (lrA P n) i (n - 1 - i) + 1 := by
  have h1 := lrT_stay P n (n - i) i i (by omega) hi (by omega)
  rw [show n - i + i = n by omega] at h1
  unfold lrA
  rw [h1]
  obtain ⟨r, hr⟩ : ∃ r, n - i = r + 1 := ⟨n - i - 1, by omega⟩
  rw [hr]
  have hir : n - 1 - r = i := by omega
  show upd (lrT P n r) (n - 1 - r) (bst P (lrT P n r) (n - 1 - r) r + 1) i = _
  unfold upd
  rw [if_pos hir.symm, hir, show n - 1 - i = r by omega]
  congr 1
  refine bst_congr P _ _ i r fun e he => ?_
  have h2 := lrT_stay P n r (n - r) (i + 1 + e) (by omega) (by omega) (by omega)
  rw [show r + (n - r) = n by omega] at h2
  exact h2.symm

theorem lrA_pos (P : Nat → Int) (n i : Nat) (hi : i < n) : 1 ≤ lrA P n i := by
  rw [lrA_eq P n i hi]; have := bst_nonneg P (lrA P n) i (n - 1 - i); omega
theorem lrA_le (P : Nat → Int) (n i : Nat) : lrA P n i ≤ n := (lrT_bd P n n i).2
theorem lrA_more (P : Nat → Int) (n i j : Nat) (hj : j < n) (hij : i < j) (hp : P i < P j) : lrA P n j + 1 ≤ lrA P n i := by
  rw [lrA_eq P n i (by omega)]
  have := bst_ge P (lrA P n) i (n - 1 - i) (j - i - 1) (by omega) (by rw [show i + 1 + (j - i - 1) = j by omega]; exact hp)
  rw [show i + 1 + (j - i - 1) = j by omega] at this
  omega
theorem lrA_next (P : Nat → Int) (n i : Nat) (m : Int) (hi : i < n) (hm : 1 ≤ m) (h : lrA P n i = m + 1) : ∃ j, i < j ∧ j < n ∧ P i < P j ∧ lrA P n j = m := by
  rw [lrA_eq P n i hi] at h
  obtain ⟨e, h1, h2, h3⟩ := bst_has P (lrA P n) i (n - 1 - i) (by omega)
  exact ⟨i + 1 + e, by omega, by omega, h2, by omega⟩

/-- The greatest of the first k numbers, at least 0. -/
def mst (L : Nat → Int) : Nat → Int
  | 0 => 0
  | k + 1 => max (mst L k) (L k)
theorem mst_nonneg (L : Nat → Int) (k : Nat) : 0 ≤ mst L k := by
  induction k with
  | zero => exact Int.le_refl _
  | succ k ih => unfold mst; omega
theorem mst_le (L : Nat → Int) (k : Nat) (b : Int) (hb : 0 ≤ b) (h : ∀ j, j < k → L j ≤ b) : mst L k ≤ b := by
  induction k with
  | zero => exact hb
  | succ k ih => unfold mst; have := h k (by omega); have := ih fun j hj => h j (by omega); omega

/-- What is kept of the first k, and what is missing then. -/
def keep (X L : Nat → Int) (m : Int) : Nat → List Int × Int
  | 0 => ([], m)
  | k + 1 => if L k = (keep X L m k).2 then ((keep X L m k).1 ++ [X k], (keep X L m k).2 - 1) else keep X L m k
theorem keep_yes (X L : Nat → Int) (m : Int) (k : Nat) (h : L k = (keep X L m k).2) : keep X L m (k + 1) = ((keep X L m k).1 ++ [X k], (keep X L m k).2 - 1) := by
  show (if _ then _ else _) = _
  rw [if_pos h]
theorem keep_no (X L : Nat → Int) (m : Int) (k : Nat) (h : ¬ L k = (keep X L m k).2) : keep X L m (k + 1) = keep X L m k := by
  show (if _ then _ else _) = _
  rw [if_neg h]
theorem keep_bd (X L : Nat → Int) (m : Int) (k : Nat) : (keep X L m k).1.length ≤ k ∧ (keep X L m k).2 = m - (keep X L m k).1.length := by
  induction k with
  | zero => exact ⟨Nat.le_refl _, by simp [keep]⟩
  | succ k ih =>
    by_cases h : L k = (keep X L m k).2
    · rw [keep_yes X L m k h]; simp; omega
    · rw [keep_no X L m k h]; omega

/-- Where the last one that was kept lies. -/
def AtOK (P L : Nat → Int) (i : Nat) (at_ mis : Int) : Prop := at_ = -1 ∨ ∃ p, p < i ∧ at_ = P p ∧ L p = mis + 1 ∧ ∀ j, p < j → j < i → L j ≠ mis
theorem AtOK.yes {P L : Nat → Int} {i : Nat} {at_ mis : Int} (h : L i = mis) : AtOK P L (i + 1) (P i) (mis - 1) :=
  .inr ⟨i, by omega, rfl, by omega, fun j h1 h2 => by omega⟩
theorem AtOK.no {P L : Nat → Int} {i : Nat} {at_ mis : Int} (h : AtOK P L i at_ mis) (hn : ¬ L i = mis) : AtOK P L (i + 1) at_ mis := by
  rcases h with h | ⟨p, h1, h2, h3, h4⟩
  · exact .inl h
  · refine .inr ⟨p, by omega, h2, h3, fun j a b => ?_⟩
    rcases Nat.lt_or_ge j i with c | c
    · exact h4 j a c
    · obtain rfl : j = i := by omega
      exact hn
theorem AtOK.lt {P : Nat → Int} {n i : Nat} {at_ mis : Int} (h : AtOK P (lrA P n) i at_ mis) (hi : i < n) (hp : 0 ≤ P i) (he : lrA P n i = mis) : at_ < P i := by
  rcases h with h | ⟨p, h1, h2, h3, h4⟩
  · omega
  · have hm : 1 ≤ mis := by rw [← he]; exact lrA_pos P n i hi
    obtain ⟨j, a, b, c, d⟩ := lrA_next P n p mis (by omega) hm h3
    have hij : i ≤ j := by
      rcases Nat.lt_or_ge j i with e | e
      · exact absurd d (h4 j a e)
      · exact e
    rcases Nat.eq_or_lt_of_le hij with rfl | hlt
    · omega
    · rcases Int.lt_or_le (P p) (P i) with e | e
      · omega
      · have := lrA_more P n i j b hlt (by omega)
        omega

/-- A row of numbers told by a function. -/
def vl (n : Nat) (f : Nat → Int) : List Value := (List.range n).map fun j => Value.int .i64 (f j)
def il (n : Nat) (f : Nat → Int) : List Int := (List.range n).map f
theorem il_vl (n : Nat) (f : Nat → Int) : (il n f).map (Value.int .i64) = vl n f := by simp [il, vl]
theorem il_len (n : Nat) (f : Nat → Int) : (il n f).length = n := by simp [il]
theorem il_get (n : Nat) (f : Nat → Int) (j : Nat) (h : j < n) : (il n f).getD j 0 = f j := by simp [il, List.getD, h]
theorem vl_len (n : Nat) (f : Nat → Int) : (vl n f).length = n := by simp [vl]
theorem vl_get (n : Nat) (f : Nat → Int) (j : Nat) (h : j < n) : (vl n f)[j]? = some (.int .i64 (f j)) := by simp [vl, h]
theorem vl_set (n : Nat) (f : Nat → Int) (i : Nat) (x : Int) (h : i < n) : (vl n f).set i (.int .i64 x) = vl n (upd f i x) := by
  apply List.ext_getElem?
  intro j
  rcases Nat.lt_or_ge j n with hj | hj
  · rw [List.getElem?_set, vl_get _ _ _ hj, vl_len]
    by_cases e : i = j
    · subst e; rw [vl_get _ _ _ hj]; simp [upd, h]
    · rw [if_neg e, vl_get _ _ _ hj]
      simp [upd, Ne.symm e, show ¬ j = i from fun h => e h.symm]
  · rw [List.getElem?_eq_none (by simp [vl]; omega), List.getElem?_eq_none (by simp [vl]; omega)]
theorem vl_congr (n : Nat) (f g : Nat → Int) (h : ∀ j, j < n → f j = g j) : vl n f = vl n g := by
  unfold vl
  apply List.map_congr_left
  intro j hj
  rw [h j (by simpa using hj)]
theorem upd_upd (f : Nat → Int) (i : Nat) (x y : Int) : upd (upd f i x) i y = upd f i y := by
  funext j; unfold upd; split <;> rfl
theorem upd_at (f : Nat → Int) (i : Nat) (x : Int) : upd f i x i = x := by unfold upd; simp
theorem upd_ne (f : Nat → Int) (i j : Nat) (x : Int) (h : j ≠ i) : upd f i x j = f j := by unfold upd; simp [h]
end Go.Proofs.Ytjlfabfejnpaaaa
