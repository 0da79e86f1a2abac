/- Words and contracts for memory that the texts behind use. -/
import Derived.Test.YtkfglodjnnlbkaaT0a
import Derived.Test.YtkfglodjnnlbkaaT1a
import Derived.Test.YtkfglodjnnlbkaaT2b
import Derived.Test.YtkfglodjnnlbkaaT3a
import Derived.Test.YtkfglodjnnlbkaaT4a
import Derived.Test.YtkfglodjnnlbkaaT5a
import Derived.Test.YtkfglodjnnlbkaaT6a
import Derived.Test.YtkfglodjnnlbkaaT7a
import Derived.Test.YtkfglodjnnlbkaaT8a
import Derived.Test.YtkfglodjnnlbkaaT9a
import Derived.Test.YtkfglodjnnlbkaaT10a
import Derived.Test.YtkfglodjnnlbkaaT11a
import Derived.Test.YtkfglodjnnlbkaaT13a
import Derived.Test.YtkfglodjnnlbkaaT14a
import Derived.Test.YtkfglodjnnlbkaaT15a
import Derived.Test.YtkfglodjnnlbkaaT16a
import Derived.Test.YtkfglodjnnlbkaaT17a
import Derived.Test.YtkfglodjnnlbkaaT18a
import Derived.Test.YtkfglodjnnlbkaaT19a
import Derived.Test.YtkfglodjnnlbkaaT20a
import Derived.Test.YtkfglodjnnlbkaaT21a
import Derived.Test.YtkfglodjnnlbkaaT22a
import Derived.Test.YtkfglodjnnlbkaaT23a
import Derived.WalkKit
import Derived.Laws.OwnMore
import Derived.Deep.Draws
import Derived.Test.YtkfglodjnnlbkaaProg
import Derived.WalkSpells
import Derived.WalkLawsBesides
import Derived.Outline
import Derived.Lib.Hide
import Derived.BigQuiet
import Derived.Deep.QuietTactic
import Derived.StillTailTactics
import Derived.Deep.LoopGhost
import Derived.Laws.MakeOwn
import Derived.WalkSmall
import Derived.RegionTactic
import Derived.BigRegion
import Derived.Deep.RegionWith
import Derived.Deep.RegionHeld3
import Derived.Maps.AppendAt
import Derived.Laws.CopyOwn
import Derived.Deep.Cut
import Derived.Laws.Entries
import Derived.Laws.Bits64
import Derived.IntWalk
import Derived.Deep.RegionLaw
import Derived.Deep.AppendLies
import Derived.Deep.DeepCutAuto
import Derived.ArgAppend
import Derived.Maps.Own
import Derived.Maps.Views
import Derived.RangeFuncNested
import Derived.RangeFuncBound
import Derived.RangeFuncCalls
import Derived.RangeFuncLeaves
import Derived.RangeFuncBox
import Derived.Shelf.Abstract
import Derived.Shelf.RegionOpen
import Derived.OwnWalkIn
import Derived.TacticsInMore
import Derived.LoopNIn
import Derived.LoopIn
import Derived.Sort.QuietIn
import Derived.Sort.QuietTacIn
import Derived.RegionIn
import Derived.Sort.CutIn
import Derived.ChangeAlike

namespace Go.Proofs.Ytkfglodjnnlbkaa
set_option linter.unusedSimpArgs false
set_option linter.unusedVariables false
open Go.RowKit
theorem kidsF_len (ds : List On) (o : Int) : (kidsF ds o).length ≤ 12 := by
  unfold kidsF
  cases h : hasO ds o
  · simp
  · simp only [if_true]
    have := nwTo_len (kidB ds o) ds.length
    obtain ⟨_, _, _, hv⟩ := hasO_at h
    have := (validO_ok hv).2.1
    omega
end Go.Proofs.Ytkfglodjnnlbkaa
