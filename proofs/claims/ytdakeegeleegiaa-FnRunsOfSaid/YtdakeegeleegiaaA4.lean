/- Contracts of the laws' own helpers: copies, comparisons and sizes of formulas and lists of numbers. -/
import Derived.Test.YtdakeegeleegiaaA1
import Derived.StillTailTactics
import Derived.Deep.LoopGhost
namespace Go.Proofs.Ytdakeegeleegiaa
set_option linter.unusedSimpArgs false
set_option linter.unusedVariables false
open Go.RowKit

theorem bcell {W w1 : World} (hb : Below W.heap.size W w1) : (∀ b o, b < W.heap.size → w1.cell? ⟨b, o, none⟩ = W.cell? ⟨b, o, none⟩) ∧ (∀ b o, b < W.heap.size → w1.frozen? ⟨b, o, none⟩ = W.frozen? ⟨b, o, none⟩) :=
  ⟨fun b o h => hb.cell (p := ⟨b, o, none⟩) h, fun b o h => hb.frozen (p := ⟨b, o, none⟩) h⟩

def eqPt (p q : Pt) : Bool := p.k == q.k && p.a == q.a && p.b == q.b && p.c == q.c && p.n == q.n

theorem eqPt_iff (p q : Pt) : eqPt p q = true ↔ p = q := by
  obtain ⟨a, b, c, d, e⟩ := p
  obtain ⟨a', b', c', d', e'⟩ := q
  simp [eqPt, and_assoc]

theorem take_succ_getD {α : Type} [Inhabited α] (l : List α) (k : Nat) (h : k < l.length) : l.take (k + 1) = l.take k ++ [l.getD k default] := by
  rw [List.take_succ_eq_append_getElem h]; simp [List.getD, h]

theorem take_step {α : Type} [Inhabited α] (l m : List α) (k : Nat) (h : k < l.length) (h' : k < m.length) (ht : l.take k = m.take k) (he : l.getD k default = m.getD k default) : l.take (k + 1) = m.take (k + 1) := by
  rw [take_succ_getD l k h, take_succ_getD m k h', ht, he]

theorem take_all_eq {α : Type} (l m : List α) (n : Nat) (h : n = l.length) (h' : n = m.length) (ht : l.take n = m.take n) : l = m := by
  rw [List.take_of_length_le (by omega), List.take_of_length_le (by omega)] at ht
  exact ht

theorem getD_ne {α : Type} [Inhabited α] [DecidableEq α] (l m : List α) (k : Nat) (h : l.getD k default ≠ m.getD k default) : decide (l = m) = false := by
  rw [decide_eq_false_iff_not]; rintro rfl; exact h rfl

end Go.Proofs.Ytdakeegeleegiaa
