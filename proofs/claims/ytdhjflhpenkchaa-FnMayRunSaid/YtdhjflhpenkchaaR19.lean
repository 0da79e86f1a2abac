/- Helpers of the laws on ways in graphs: calls that tell what they answer and keep the memory. -/
import Derived.Test.YtdhjflhpenkchaaH2

namespace Go.Proofs.Ytdhjflhpenkchaa
set_option linter.unusedSimpArgs false
set_option linter.unusedVariables false
open Go.RowKit

/-- A cell that lies in memory. -/
def C1 (b o : Nat) (v : Value) (w : World) : Prop := b < w.heap.size ∧ w.cell? ⟨b, o, none⟩ = some v
theorem C1.step {b o : Nat} {v : Value} {w w' : World} (h : C1 b o v w) (hb : Below w.heap.size w w') : C1 b o v w' := ⟨Nat.lt_of_lt_of_le h.1 hb.size, (hb.cell (p := ⟨b, o, none⟩) h.1).trans h.2⟩
theorem C1.is {w : World} {b off : Nat} {xs : List Int} (h : IS w w.heap.size (some ⟨b, off, none⟩) xs) (k : Nat) (hk : k < xs.length) : C1 b (off + k) (.int .i64 (xs.getD k 0)) w := by
  obtain ⟨b', off', e, hb, hc⟩ := h (by omega)
  cases e
  exact ⟨hb, hc k hk⟩
theorem mayF_le (ps : List Pt) : (mayF ps).length ≤ 10 := by
  unfold mayF
  split
  · have := mayR_len ps 10
    rw [mayR_below] at this
    exact this
  · simp
theorem isIn_g (A : Option Addr) (n c : Nat) (xs : List Int) (x : Int) (w : World) (hn : n = xs.length) (h : IS w w.heap.size A xs) (hs : n ≤ 2000000) :
    Calls Try.prog 18 #[.slice A n c, .int .i64 x] w fun e w' => e = .returned (.bool (decide (x ∈ xs))) ∧ Below w.heap.size w w' := by
  refine (laws_isIn A n c xs x w w.heap.size (Nat.le_refl _) hn h hs).mono ?_
  rintro e w' ⟨rfl, rfl⟩
  exact ⟨rfl, Below.refl _ _⟩
theorem within_g (A A' : Option Addr) (n c m c' : Nat) (xs ys : List Int) (w : World) (hn : n = xs.length) (h : IS w w.heap.size A xs) (hs : n ≤ 2000000) (hm : m = ys.length) (h' : IS w w.heap.size A' ys) (hs' : m ≤ 2000000) (hd : ∀ x ∈ xs, x ∈ ys) :
    Calls Try.prog 24 #[.slice A n c, .slice A' m c'] w fun e w' => e = .returned (.bool true) ∧ Below w.heap.size w w' := by
  refine (laws_within A A' n c m c' xs ys w w.heap.size (Nat.le_refl _) hn h hs hm h' hs' hd).mono ?_
  rintro e w' ⟨rfl, rfl⟩
  exact ⟨rfl, Below.refl _ _⟩
end Go.Proofs.Ytdhjflhpenkchaa
