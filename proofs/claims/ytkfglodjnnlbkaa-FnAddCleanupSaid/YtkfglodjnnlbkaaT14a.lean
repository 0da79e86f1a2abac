/- Words and contracts for memory that the texts behind use. -/
import Derived.Test.YtkfglodjnnlbkaaT0a
import Derived.Test.YtkfglodjnnlbkaaT1a
import Derived.Test.YtkfglodjnnlbkaaT2b
import Derived.Test.YtkfglodjnnlbkaaT3a
import Derived.Test.YtkfglodjnnlbkaaT4a
import Derived.Test.YtkfglodjnnlbkaaT5a
import Derived.Test.YtkfglodjnnlbkaaT6a
import Derived.Test.YtkfglodjnnlbkaaT7a
import Derived.Test.YtkfglodjnnlbkaaT8a
import Derived.Test.YtkfglodjnnlbkaaT9a
import Derived.Test.YtkfglodjnnlbkaaT10a
import Derived.Test.YtkfglodjnnlbkaaT11a
import Derived.Test.YtkfglodjnnlbkaaT13a
import Derived.WalkKit
import Derived.Laws.OwnMore
import Derived.Deep.Draws
import Derived.Sort.QuietIn
import Derived.Sort.QuietTacIn

namespace Go.Proofs.Ytkfglodjnnlbkaa
set_option linter.unusedSimpArgs false
set_option linter.unusedVariables false
/-- No operation is a defer statement. -/
def noDef (ops : Array Oper) : Bool := ops.all fun o => match o.op with | .defer _ => false | _ => true
theorem noDef_at {ops : Array Oper} (h : noDef ops = true) {i : Nat} {o : Oper} (hi : ops[i]? = some o) (c) : o.op ≠ .defer c := by
  unfold noDef at h
  rw [Array.all_eq_true] at h
  obtain ⟨hlt, rfl⟩ := Array.getElem?_eq_some_iff.1 hi
  intro e
  have := h i hlt
  rw [e] at this
  simp at this
end Go.Proofs.Ytkfglodjnnlbkaa
