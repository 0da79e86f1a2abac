/- The lengths of rising lists as a loop over any places makes them. -/
import Derived.Test.YtjlfabfejnpaaaaS7
import Derived.Test.YtjlfabfejnpaaaaM20

namespace Go.Proofs.Ytjlfabfejnpaaaa
set_option linter.unusedSimpArgs false
set_option linter.unusedVariables false

/-- As bst, from what is there on. -/
def bsg (P L : Nat → Int) (i : Nat) : Nat → Int
  | 0 => L i
  | d + 1 => if P i < P (i + 1 + d) then max (bsg P L i d) (L (i + 1 + d)) else bsg P L i d
def gst (P : Nat → Int) (n : Nat) (f : Nat → Int) (k : Nat) : Nat → Int := upd f (n - 1 - k) (bsg P f (n - 1 - k) k + 1)
def gal (P : Nat → Int) (n : Nat) (pre : List Nat) : Nat → Int := pre.foldl (gst P n) (fun _ => 0)

theorem gal_snoc (P : Nat → Int) (n : Nat) (pre : List Nat) (k : Nat) : gal P n (pre ++ [k]) = gst P n (gal P n pre) k := by simp [gal]
theorem bsg_bst (P L : Nat → Int) (i : Nat) (h : L i = 0) (d : Nat) : bsg P L i d = bst P L i d := by
  induction d with
  | zero => exact h
  | succ d ih => unfold bsg bst; rw [ih]
theorem bsg_bd (P L : Nat → Int) (i d : Nat) (b : Int) (h : ∀ j, 0 ≤ L j ∧ L j ≤ b) : 0 ≤ bsg P L i d ∧ bsg P L i d ≤ b := by
  induction d with
  | zero => exact h i
  | succ d ih => unfold bsg; have := h (i + 1 + d); split <;> omega
theorem gal_bd (P : Nat → Int) (n : Nat) (pre : List Nat) : ∀ j, 0 ≤ gal P n pre j ∧ gal P n pre j ≤ pre.length := by
  have key : ∀ (l : List Nat) (f : Nat → Int) (b : Nat), (∀ j, 0 ≤ f j ∧ f j ≤ b) → ∀ j, 0 ≤ l.foldl (gst P n) f j ∧ l.foldl (gst P n) f j ≤ ((b + l.length : Nat) : Int) := by
    intro l
    induction l with
    | nil => intro f b h j; simpa using h j
    | cons k l ih =>
      intro f b h j
      have hb := bsg_bd P f (n - 1 - k) k b h
      have := ih (gst P n f k) (b + 1) (fun j => by unfold gst upd; have := h j; split <;> omega) j
      rw [show b + (k :: l).length = b + 1 + l.length by simp; omega]
      exact this
  intro j
  have := key pre (fun _ => 0) 0 (fun j => ⟨Int.le_refl _, Int.le_refl _⟩) j
  simpa [gal] using this

theorem lrT_zero (P : Nat → Int) (n r j : Nat) (h : j + r < n) : lrT P n r j = 0 := by
  induction r with
  | zero => rfl
  | succ r ih =>
    show upd (lrT P n r) (n - 1 - r) (bst P (lrT P n r) (n - 1 - r) r + 1) j = 0
    unfold upd
    rw [if_neg (by omega)]
    exact ih (by omega)
theorem gal_range (P : Nat → Int) (n r : Nat) (h : r ≤ n) : gal P n (List.range r) = lrT P n r := by
  induction r with
  | zero => rfl
  | succ r ih =>
    rw [List.range_succ, gal_snoc, ih (by omega)]
    show upd (lrT P n r) (n - 1 - r) (bsg P (lrT P n r) (n - 1 - r) r + 1) = upd (lrT P n r) (n - 1 - r) (bst P (lrT P n r) (n - 1 - r) r + 1)
    rw [bsg_bst _ _ _ (lrT_zero P n r (n - 1 - r) (by omega))]
end Go.Proofs.Ytjlfabfejnpaaaa
