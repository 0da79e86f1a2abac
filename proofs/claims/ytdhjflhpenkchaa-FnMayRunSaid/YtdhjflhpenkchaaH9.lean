/- Words and contracts for memory that the texts behind use. -/
import Derived.Test.YtdhjflhpenkchaaH0a
import Derived.Test.YtdhjflhpenkchaaH0b
import Derived.Test.YtdhjflhpenkchaaH0
import Derived.Test.YtdhjflhpenkchaaH1
import Derived.Test.YtdhjflhpenkchaaH2
import Derived.Test.YtdhjflhpenkchaaH3
import Derived.Test.YtdhjflhpenkchaaH4
import Derived.Test.YtdhjflhpenkchaaH6
import Derived.Test.YtdhjflhpenkchaaH5
import Derived.Test.YtdhjflhpenkchaaH7
import Derived.Test.YtdhjflhpenkchaaH8
import Derived.WalkKit
import Derived.Laws.OwnMore
import Derived.Deep.Draws
import Derived.Test.YtdhjflhpenkchaaProg
import Derived.WalkSpells
import Derived.WalkLawsBesides
import Derived.Outline
import Derived.Lib.Hide
import Derived.BigQuiet
import Derived.Deep.QuietTactic
import Derived.StillTailTactics
import Derived.Deep.LoopGhost
import Derived.Laws.MakeOwn
import Derived.WalkSmall
import Derived.RegionTactic
import Derived.BigRegion
import Derived.Deep.RegionWith
import Derived.Deep.RegionHeld3
import Derived.Maps.Own
import Derived.Maps.Views
import Derived.Maps.AppendAt
import Derived.Laws.CopyOwn
import Derived.ChangeAlike
import Derived.Deep.Cut
import Derived.Deep.AppendLies
import Derived.Laws.Entries
import Derived.Laws.Bits64
import Derived.IntWalk

namespace Go.Proofs.Ytdhjflhpenkchaa
set_option linter.unusedSimpArgs false
set_option linter.unusedVariables false
open Go.RowKit
def htF (gs : List Nd) : List Int := if validG gs then htTo gs gs.length else []
end Go.Proofs.Ytdhjflhpenkchaa
