/- Words and contracts for memory that the texts behind use. -/
import Derived.Test.YtkfglodjnnlbkaaT0a
import Derived.Test.YtkfglodjnnlbkaaT1a
import Derived.Test.YtkfglodjnnlbkaaT2b
import Derived.Test.YtkfglodjnnlbkaaT3a
import Derived.Test.YtkfglodjnnlbkaaT4a
import Derived.Test.YtkfglodjnnlbkaaT5a
import Derived.Test.YtkfglodjnnlbkaaT6a
import Derived.Test.YtkfglodjnnlbkaaT7a
import Derived.Test.YtkfglodjnnlbkaaT8a
import Derived.Test.YtkfglodjnnlbkaaT9a
import Derived.Test.YtkfglodjnnlbkaaT10a
import Derived.Test.YtkfglodjnnlbkaaT11a
import Derived.Test.YtkfglodjnnlbkaaT13a
import Derived.Test.YtkfglodjnnlbkaaT14a
import Derived.Test.YtkfglodjnnlbkaaT15a
import Derived.Test.YtkfglodjnnlbkaaT16a
import Derived.Test.YtkfglodjnnlbkaaT17a
import Derived.Test.YtkfglodjnnlbkaaT18a
import Derived.Test.YtkfglodjnnlbkaaT19a
import Derived.Test.YtkfglodjnnlbkaaT20a
import Derived.WalkKit
import Derived.Laws.OwnMore
import Derived.Deep.Draws
import Derived.Test.YtkfglodjnnlbkaaProg
import Derived.WalkSpells
import Derived.WalkLawsBesides
import Derived.Outline
import Derived.Lib.Hide
import Derived.BigQuiet
import Derived.Deep.QuietTactic
import Derived.StillTailTactics
import Derived.Deep.LoopGhost
import Derived.Laws.MakeOwn
import Derived.WalkSmall
import Derived.RegionTactic
import Derived.BigRegion
import Derived.Deep.RegionWith
import Derived.Deep.RegionHeld3
import Derived.Maps.AppendAt
import Derived.Laws.CopyOwn
import Derived.Deep.Cut
import Derived.Laws.Entries
import Derived.Laws.Bits64
import Derived.IntWalk
import Derived.Deep.RegionLaw
import Derived.Deep.AppendLies
import Derived.Deep.DeepCutAuto
import Derived.ArgAppend

namespace Go.Proofs.Ytkfglodjnnlbkaa
set_option linter.unusedSimpArgs false
set_option linter.unusedVariables false
open Go.RowKit
def aboveF (ds : List On) (o : Int) : List Int := if hasO ds o then upF ds ds.length o else []
end Go.Proofs.Ytkfglodjnnlbkaa

namespace Go.Proofs.Ytkfglodjnnlbkaa
set_option linter.unusedSimpArgs false
set_option linter.unusedVariables false
open Go.RowKit
theorem aboveF_nat {ds : List On} (hv : validO ds = true) (k : Nat) (hk : k < ds.length) : aboveF ds k = upF ds ds.length k := by
  unfold aboveF; rw [hasO_nat hv k hk]; rfl
end Go.Proofs.Ytkfglodjnnlbkaa
