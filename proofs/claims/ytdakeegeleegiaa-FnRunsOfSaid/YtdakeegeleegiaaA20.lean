/- Marks: laws.markIntS, markPartS, markFormula write a row of numbers, heldIntS, heldPartS, heldFormula read it; what lies in other blocks stays. -/
import Derived.Test.YtdakeegeleegiaaLW
import Derived.Test.YtdakeegeleegiaaA5
namespace Go.Proofs.Ytdakeegeleegiaa
set_option linter.unusedSimpArgs false
set_option linter.unusedVariables false
open Go.RowKit

/-- A row of numbers from k on. -/
def mks (k : Int) (m : Nat) : List Value := (List.range m).map fun j : Nat => Value.int .i64 (k + j)

theorem mks_len (k : Int) (m : Nat) : (mks k m).length = m := by simp [mks]
theorem mks_get (k : Int) (m j : Nat) (h : j < m) : (mks k m)[j]? = some (.int .i64 (k + j)) := by simp [mks, h]
theorem mks_succ (k : Int) (m : Nat) : mks k (m + 1) = mks k m ++ [.int .i64 (k + m)] := by simp [mks, List.range_succ]

theorem mks_five (k : Int) (m : Nat) : mks k (m + 5) = mks k m ++ (⟨k + m, k + m + 1, k + m + 2, k + m + 3, k + m + 4⟩ : Pt).cells := by
  rw [mks_succ k (m + 4), mks_succ k (m + 3), mks_succ k (m + 2), mks_succ k (m + 1), mks_succ k m]
  simp [Pt.cells]
  omega

theorem mks_five' (k k5 : Int) (m : Nat) (h : k5 = k + m) : mks k (m + 5) = mks k m ++ (⟨k5, k5 + 1, k5 + 1 + 1, k5 + 1 + 1 + 1, k5 + 1 + 1 + 1 + 1⟩ : Pt).cells := by
  have e : (⟨k5, k5 + 1, k5 + 1 + 1, k5 + 1 + 1 + 1, k5 + 1 + 1 + 1 + 1⟩ : Pt) = ⟨k + m, k + m + 1, k + m + 2, k + m + 3, k + m + 4⟩ := by subst h; congr 1; omega; omega; omega
  rw [mks_five, e]

theorem grown_tr {a b c : World} {row : Option Nat} (h : a.grownBy b row) (k : b.grownBy c row) : a.grownBy c row :=
  ⟨k.os.trans h.os, k.tape.trans h.tape, k.output.trans h.output, Nat.le_trans h.size k.size, fun i hi hr => (k.block i (Nat.lt_of_lt_of_le hi h.size) hr).trans (h.block i hi hr)⟩
theorem grown_refl (a : World) (row : Option Nat) : a.grownBy a row := ⟨rfl, rfl, rfl, Nat.le_refl _, fun _ _ _ => rfl⟩
theorem grown_below {w w' : World} (h : Below w.heap.size w w') (row : Option Nat) : w.grownBy w' row :=
  ⟨h.os, h.tape, h.output, h.size, fun k hk _ => h.block k hk⟩

/-- What a mark leaves. -/
def Marked (w : World) (base : Nat) (e : TypeId) (size : Nat) (v : Value) (n : Nat) (k : Int) (r : Ending) (w' : World) : Prop :=
  r = .returned (.int .i64 (k + ((n * size : Nat) : Int))) ∧ w'.ownsRow base e size v n (mks k (n * size)) ∧ w.grownBy w' v.ownBlock

theorem ownBlock_lt {w : World} {base n size : Nat} {e : TypeId} {v : Value} {xs : List Value} (h : w.ownsRow base e size v n xs) (o : Obj) : v.ownBlock ≠ some w.heap.size := by
  intro hk
  have := (h.lt _ hk).2
  omega

end Go.Proofs.Ytdakeegeleegiaa
