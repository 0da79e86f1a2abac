/- Words and contracts for memory that the texts behind use. -/
import Derived.Test.YtlbomopjldhmeaaB0a
import Derived.Test.YtlbomopjldhmeaaB1a
import Derived.Test.YtlbomopjldhmeaaB2a
import Derived.Test.YtlbomopjldhmeaaB3a
import Derived.Test.YtlbomopjldhmeaaB4a
import Derived.Test.YtlbomopjldhmeaaB5a
import Derived.Test.YtlbomopjldhmeaaB6a
import Derived.Test.YtlbomopjldhmeaaB7a
import Derived.Test.YtlbomopjldhmeaaB8a
import Derived.Test.YtlbomopjldhmeaaB9a
import Derived.WalkKit
import Derived.Laws.OwnMore
import Derived.Deep.Draws
import Derived.Test.YtlbomopjldhmeaaProg
import Derived.WalkSpells
import Derived.WalkLawsBesides
import Derived.Outline
import Derived.Lib.Hide
import Derived.BigQuiet
import Derived.Deep.QuietTactic
import Derived.StillTailTactics
import Derived.Deep.LoopGhost
import Derived.Laws.MakeOwn
import Derived.WalkSmall
import Derived.RegionTactic
import Derived.BigRegion
import Derived.Deep.RegionWith
import Derived.Deep.RegionHeld3
import Derived.Laws.Entries
import Derived.Laws.Bits64
import Derived.IntWalk
import Derived.Maps.AppendAt
import Derived.Deep.RegionLaw
import Derived.Deep.AppendLies
import Derived.Deep.Cut
import Derived.Deep.DeepCutAuto
import Derived.Laws.CopyOwn
import Derived.ArgAppend
import Derived.RangeFuncNested
import Derived.RangeFuncBound
import Derived.RangeFuncCalls
import Derived.RangeFuncLeaves
import Derived.RangeFuncBox
import Derived.Shelf.Abstract
import Derived.Shelf.RegionOpen
import Derived.OwnWalkIn
import Derived.TacticsInMore
import Derived.LoopNIn
import Derived.LoopIn
import Derived.Sort.QuietIn
import Derived.Sort.QuietTacIn
import Derived.RegionIn
import Derived.Sort.CutIn

namespace Go.Proofs.Ytlbomopjldhmeaa
set_option linter.unusedSimpArgs false
set_option linter.unusedVariables false
/-- How many changes of a kind. -/
def cntA (l : List Ac) (k : Int) : Nat := (l.filter fun c => c.k == k).length
theorem cntA_snoc (l : List Ac) (c : Ac) (k : Int) : cntA (l ++ [c]) k = cntA l k + if c.k = k then 1 else 0 := by
  unfold cntA
  rw [List.filter_append, List.length_append]
  by_cases h : c.k = k <;> simp [h]
theorem cntA_append (l m : List Ac) (k : Int) : cntA (l ++ m) k = cntA l k + cntA m k := by
  unfold cntA; rw [List.filter_append, List.length_append]
end Go.Proofs.Ytlbomopjldhmeaa
