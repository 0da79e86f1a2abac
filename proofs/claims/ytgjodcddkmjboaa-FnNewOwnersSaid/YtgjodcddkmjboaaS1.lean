/- Words and contracts for memory that the texts behind use. -/
import Derived.Test.YtgjodcddkmjboaaS0
import Derived.WalkKit
import Derived.Laws.OwnMore
import Derived.Deep.Draws
import Derived.Test.YtgjodcddkmjboaaProg
import Derived.WalkSpells
import Derived.WalkLawsBesides
import Derived.Outline
import Derived.Lib.Hide
import Derived.BigQuiet
import Derived.Deep.QuietTactic
import Derived.StillTailTactics
import Derived.Deep.LoopGhost
import Derived.Laws.MakeOwn
import Derived.WalkSmall
import Derived.RegionTactic
import Derived.BigRegion
import Derived.Deep.RegionWith
import Derived.Deep.RegionHeld3
import Derived.Maps.AppendAt
import Derived.Laws.CopyOwn

namespace Go.Proofs.Ytgjodcddkmjboaa
set_option linter.unusedSimpArgs false
set_option linter.unusedVariables false
open Go.RowKit
end Go.Proofs.Ytgjodcddkmjboaa

namespace Go.Proofs.Ytgjodcddkmjboaa
set_option linter.unusedSimpArgs false
set_option linter.unusedVariables false
open Go.RowKit
end Go.Proofs.Ytgjodcddkmjboaa

namespace Go.Proofs.Ytgjodcddkmjboaa
set_option linter.unusedSimpArgs false
set_option linter.unusedVariables false
open Go.RowKit
end Go.Proofs.Ytgjodcddkmjboaa

namespace Go.Proofs.Ytgjodcddkmjboaa
set_option linter.unusedSimpArgs false
set_option linter.unusedVariables false
open Go.RowKit
end Go.Proofs.Ytgjodcddkmjboaa

namespace Go.Proofs.Ytgjodcddkmjboaa
set_option linter.unusedSimpArgs false
set_option linter.unusedVariables false
open Go.RowKit
end Go.Proofs.Ytgjodcddkmjboaa

namespace Go.Proofs.Ytgjodcddkmjboaa
set_option linter.unusedSimpArgs false
set_option linter.unusedVariables false
open Go.RowKit
end Go.Proofs.Ytgjodcddkmjboaa

namespace Go.Proofs.Ytgjodcddkmjboaa
set_option linter.unusedSimpArgs false
set_option linter.unusedVariables false
open Go.RowKit
end Go.Proofs.Ytgjodcddkmjboaa

namespace Go.Proofs.Ytgjodcddkmjboaa
set_option linter.unusedSimpArgs false
set_option linter.unusedVariables false
open Go.RowKit
end Go.Proofs.Ytgjodcddkmjboaa

namespace Go.Proofs.Ytgjodcddkmjboaa
set_option linter.unusedSimpArgs false
set_option linter.unusedVariables false
open Go.RowKit
end Go.Proofs.Ytgjodcddkmjboaa

namespace Go.Proofs.Ytgjodcddkmjboaa
set_option linter.unusedSimpArgs false
set_option linter.unusedVariables false
open Go.RowKit
end Go.Proofs.Ytgjodcddkmjboaa

namespace Go.Proofs.Ytgjodcddkmjboaa
set_option linter.unusedSimpArgs false
set_option linter.unusedVariables false
open Go.RowKit
end Go.Proofs.Ytgjodcddkmjboaa

namespace Go.Proofs.Ytgjodcddkmjboaa
set_option linter.unusedSimpArgs false
set_option linter.unusedVariables false
open Go.RowKit
end Go.Proofs.Ytgjodcddkmjboaa

namespace Go.Proofs.Ytgjodcddkmjboaa
set_option linter.unusedSimpArgs false
set_option linter.unusedVariables false
open Go.RowKit
end Go.Proofs.Ytgjodcddkmjboaa

namespace Go.Proofs.Ytgjodcddkmjboaa
set_option linter.unusedSimpArgs false
set_option linter.unusedVariables false
open Go.RowKit
end Go.Proofs.Ytgjodcddkmjboaa

namespace Go.Proofs.Ytgjodcddkmjboaa
set_option linter.unusedSimpArgs false
set_option linter.unusedVariables false
open Go.RowKit
end Go.Proofs.Ytgjodcddkmjboaa

namespace Go.Proofs.Ytgjodcddkmjboaa
set_option linter.unusedSimpArgs false
set_option linter.unusedVariables false
open Go.RowKit
end Go.Proofs.Ytgjodcddkmjboaa

namespace Go.Proofs.Ytgjodcddkmjboaa
set_option linter.unusedSimpArgs false
set_option linter.unusedVariables false
open Go.RowKit
end Go.Proofs.Ytgjodcddkmjboaa

namespace Go.Proofs.Ytgjodcddkmjboaa
set_option linter.unusedSimpArgs false
set_option linter.unusedVariables false
open Go.RowKit
end Go.Proofs.Ytgjodcddkmjboaa

namespace Go.Proofs.Ytgjodcddkmjboaa
set_option linter.unusedSimpArgs false
set_option linter.unusedVariables false
open Go.RowKit
end Go.Proofs.Ytgjodcddkmjboaa

namespace Go.Proofs.Ytgjodcddkmjboaa
set_option linter.unusedSimpArgs false
set_option linter.unusedVariables false
open Go.RowKit
end Go.Proofs.Ytgjodcddkmjboaa

namespace Go.Proofs.Ytgjodcddkmjboaa
set_option linter.unusedSimpArgs false
set_option linter.unusedVariables false
open Go.RowKit
end Go.Proofs.Ytgjodcddkmjboaa

namespace Go.Proofs.Ytgjodcddkmjboaa
set_option linter.unusedSimpArgs false
set_option linter.unusedVariables false
open Go.RowKit
end Go.Proofs.Ytgjodcddkmjboaa

namespace Go.Proofs.Ytgjodcddkmjboaa
set_option linter.unusedSimpArgs false
set_option linter.unusedVariables false
open Go.RowKit
end Go.Proofs.Ytgjodcddkmjboaa

namespace Go.Proofs.Ytgjodcddkmjboaa
set_option linter.unusedSimpArgs false
set_option linter.unusedVariables false
open Go.RowKit
end Go.Proofs.Ytgjodcddkmjboaa

namespace Go.Proofs.Ytgjodcddkmjboaa
set_option linter.unusedSimpArgs false
set_option linter.unusedVariables false
open Go.RowKit
end Go.Proofs.Ytgjodcddkmjboaa

namespace Go.Proofs.Ytgjodcddkmjboaa
set_option linter.unusedSimpArgs false
set_option linter.unusedVariables false
open Go.RowKit
end Go.Proofs.Ytgjodcddkmjboaa

namespace Go.Proofs.Ytgjodcddkmjboaa
set_option linter.unusedSimpArgs false
set_option linter.unusedVariables false
open Go.RowKit
end Go.Proofs.Ytgjodcddkmjboaa

namespace Go.Proofs.Ytgjodcddkmjboaa
set_option linter.unusedSimpArgs false
set_option linter.unusedVariables false
open Go.RowKit
end Go.Proofs.Ytgjodcddkmjboaa

namespace Go.Proofs.Ytgjodcddkmjboaa
set_option linter.unusedSimpArgs false
set_option linter.unusedVariables false
open Go.RowKit
end Go.Proofs.Ytgjodcddkmjboaa

namespace Go.Proofs.Ytgjodcddkmjboaa
set_option linter.unusedSimpArgs false
set_option linter.unusedVariables false
open Go.RowKit
end Go.Proofs.Ytgjodcddkmjboaa

namespace Go.Proofs.Ytgjodcddkmjboaa
set_option linter.unusedSimpArgs false
set_option linter.unusedVariables false
open Go.RowKit
end Go.Proofs.Ytgjodcddkmjboaa

namespace Go.Proofs.Ytgjodcddkmjboaa
set_option linter.unusedSimpArgs false
set_option linter.unusedVariables false
open Go.RowKit
end Go.Proofs.Ytgjodcddkmjboaa

namespace Go.Proofs.Ytgjodcddkmjboaa
set_option linter.unusedSimpArgs false
set_option linter.unusedVariables false
open Go.RowKit
end Go.Proofs.Ytgjodcddkmjboaa

namespace Go.Proofs.Ytgjodcddkmjboaa
set_option linter.unusedSimpArgs false
set_option linter.unusedVariables false
open Go.RowKit
end Go.Proofs.Ytgjodcddkmjboaa

namespace Go.Proofs.Ytgjodcddkmjboaa
set_option linter.unusedSimpArgs false
set_option linter.unusedVariables false
open Go.RowKit
end Go.Proofs.Ytgjodcddkmjboaa

namespace Go.Proofs.Ytgjodcddkmjboaa
set_option linter.unusedSimpArgs false
set_option linter.unusedVariables false
open Go.RowKit
end Go.Proofs.Ytgjodcddkmjboaa

namespace Go.Proofs.Ytgjodcddkmjboaa
set_option linter.unusedSimpArgs false
set_option linter.unusedVariables false
open Go.RowKit
end Go.Proofs.Ytgjodcddkmjboaa

namespace Go.Proofs.Ytgjodcddkmjboaa
set_option linter.unusedSimpArgs false
set_option linter.unusedVariables false
open Go.RowKit
end Go.Proofs.Ytgjodcddkmjboaa

namespace Go.Proofs.Ytgjodcddkmjboaa
set_option linter.unusedSimpArgs false
set_option linter.unusedVariables false
open Go.RowKit
end Go.Proofs.Ytgjodcddkmjboaa

namespace Go.Proofs.Ytgjodcddkmjboaa
set_option linter.unusedSimpArgs false
set_option linter.unusedVariables false
open Go.RowKit
end Go.Proofs.Ytgjodcddkmjboaa

namespace Go.Proofs.Ytgjodcddkmjboaa
set_option linter.unusedSimpArgs false
set_option linter.unusedVariables false
open Go.RowKit
end Go.Proofs.Ytgjodcddkmjboaa

namespace Go.Proofs.Ytgjodcddkmjboaa
set_option linter.unusedSimpArgs false
set_option linter.unusedVariables false
end Go.Proofs.Ytgjodcddkmjboaa

namespace Go.Proofs.Ytgjodcddkmjboaa
set_option linter.unusedSimpArgs false
set_option linter.unusedVariables false
open Go.RowKit
end Go.Proofs.Ytgjodcddkmjboaa

namespace Go.Proofs.Ytgjodcddkmjboaa
set_option linter.unusedSimpArgs false
set_option linter.unusedVariables false
end Go.Proofs.Ytgjodcddkmjboaa

namespace Go.Proofs.Ytgjodcddkmjboaa
set_option linter.unusedSimpArgs false
set_option linter.unusedVariables false
end Go.Proofs.Ytgjodcddkmjboaa

namespace Go.Proofs.Ytgjodcddkmjboaa
set_option linter.unusedSimpArgs false
set_option linter.unusedVariables false
open Go.RowKit
end Go.Proofs.Ytgjodcddkmjboaa

namespace Go.Proofs.Ytgjodcddkmjboaa
set_option linter.unusedSimpArgs false
set_option linter.unusedVariables false
open Go.RowKit
end Go.Proofs.Ytgjodcddkmjboaa

namespace Go.Proofs.Ytgjodcddkmjboaa
set_option linter.unusedSimpArgs false
set_option linter.unusedVariables false
open Go.RowKit
end Go.Proofs.Ytgjodcddkmjboaa

namespace Go.Proofs.Ytgjodcddkmjboaa
set_option linter.unusedSimpArgs false
set_option linter.unusedVariables false
open Go.RowKit
/-- The first numbers for which something holds. -/
def nwTo (P : Nat → Bool) (n : Nat) : List Int := ((List.range n).filter P).map fun i : Nat => (i : Int)
theorem nwTo_step (P : Nat → Bool) (k : Nat) : nwTo P (k + 1) = nwTo P k ++ (if P k then [(k : Int)] else []) := by
  unfold nwTo
  rw [List.range_succ, List.filter_append, List.map_append]
  congr 1
  cases h : P k <;> simp [h]
theorem nwTo_len (P : Nat → Bool) (k : Nat) : (nwTo P k).length ≤ k := by
  unfold nwTo
  rw [List.length_map]
  have := List.length_filter_le P (List.range k)
  simpa using this
end Go.Proofs.Ytgjodcddkmjboaa

namespace Go.Proofs.Ytgjodcddkmjboaa
set_option linter.unusedSimpArgs false
set_option linter.unusedVariables false
open Go.RowKit
end Go.Proofs.Ytgjodcddkmjboaa

namespace Go.Proofs.Ytgjodcddkmjboaa
set_option linter.unusedSimpArgs false
set_option linter.unusedVariables false
open Go.RowKit
end Go.Proofs.Ytgjodcddkmjboaa

namespace Go.Proofs.Ytgjodcddkmjboaa
set_option linter.unusedSimpArgs false
set_option linter.unusedVariables false
open Go.RowKit
end Go.Proofs.Ytgjodcddkmjboaa

namespace Go.Proofs.Ytgjodcddkmjboaa
set_option linter.unusedSimpArgs false
set_option linter.unusedVariables false
open Go.RowKit
end Go.Proofs.Ytgjodcddkmjboaa

namespace Go.Proofs.Ytgjodcddkmjboaa
set_option linter.unusedSimpArgs false
set_option linter.unusedVariables false
open Go.RowKit
end Go.Proofs.Ytgjodcddkmjboaa

namespace Go.Proofs.Ytgjodcddkmjboaa
set_option linter.unusedSimpArgs false
set_option linter.unusedVariables false
open Go.RowKit
end Go.Proofs.Ytgjodcddkmjboaa

namespace Go.Proofs.Ytgjodcddkmjboaa
set_option linter.unusedSimpArgs false
set_option linter.unusedVariables false
open Go.RowKit
end Go.Proofs.Ytgjodcddkmjboaa
