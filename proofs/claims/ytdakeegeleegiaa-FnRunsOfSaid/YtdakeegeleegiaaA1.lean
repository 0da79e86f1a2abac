/- Contracts of the small functions of chapter 1: ranges, parts, kinds. -/
import Derived.Test.YtdakeegeleegiaaProg
import Derived.Test.YtdakeegeleegiaaB0
import Derived.WalkKit
import Derived.WalkSpells
import Derived.WalkLawsBesides
import Derived.Outline
import Derived.Lib.Hide
import Derived.BigQuiet
import Derived.Deep.QuietTactic
namespace Go.Proofs.Ytdakeegeleegiaa
set_option linter.unusedSimpArgs false
set_option linter.unusedVariables false
open Go.RowKit

/-- Whether a number is in a range. -/
def rng (n lo hi : Int) : Bool := decide (lo ≤ n ∧ n ≤ hi)

/-- How many parts a kind has below. -/
def ar (k : Int) : Int := if k = 0 ∨ k = 1 then 0 else if 2 ≤ k ∧ k ≤ 7 then 2 else if k = 8 then 3 else -1

/-- No part below. -/
def noneB (a b c : Int) : Bool := a == -1 && b == -1 && c == -1

theorem ret_b {a b : Bool} (h : a = b) : Ending.returned (.bool a) = .returned (.bool b) := by rw [h]
theorem ret_i {a b : Int} (h : a = b) : Ending.returned (.int .i64 a) = .returned (.int .i64 b) := by rw [h]

end Go.Proofs.Ytdakeegeleegiaa
