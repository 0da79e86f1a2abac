/- Words and contracts for memory that the texts behind use. -/
import Derived.Test.YtdcfmoaomlfijaaS0
import Derived.Test.YtdcfmoaomlfijaaS1
import Derived.Test.YtdcfmoaomlfijaaS4
import Derived.Test.YtdcfmoaomlfijaaS5
import Derived.Test.YtdcfmoaomlfijaaS6
import Derived.WalkKit
import Derived.Laws.OwnMore
import Derived.Deep.Draws
import Derived.Test.YtdcfmoaomlfijaaProg
import Derived.WalkSpells
import Derived.WalkLawsBesides
import Derived.Outline
import Derived.Lib.Hide
import Derived.BigQuiet
import Derived.Deep.QuietTactic
import Derived.StillTailTactics
import Derived.Deep.LoopGhost
import Derived.Laws.MakeOwn
import Derived.WalkSmall
import Derived.RegionTactic
import Derived.BigRegion
import Derived.Deep.RegionWith
import Derived.Deep.RegionHeld3
import Derived.Maps.AppendAt
import Derived.Laws.CopyOwn

namespace Go.Proofs.Ytdcfmoaomlfijaa
set_option linter.unusedSimpArgs false
set_option linter.unusedVariables false
open Go.RowKit
end Go.Proofs.Ytdcfmoaomlfijaa

namespace Go.Proofs.Ytdcfmoaomlfijaa
set_option linter.unusedSimpArgs false
set_option linter.unusedVariables false
open Go.RowKit
end Go.Proofs.Ytdcfmoaomlfijaa

namespace Go.Proofs.Ytdcfmoaomlfijaa
set_option linter.unusedSimpArgs false
set_option linter.unusedVariables false
open Go.RowKit
end Go.Proofs.Ytdcfmoaomlfijaa

namespace Go.Proofs.Ytdcfmoaomlfijaa
set_option linter.unusedSimpArgs false
set_option linter.unusedVariables false
open Go.RowKit
end Go.Proofs.Ytdcfmoaomlfijaa

namespace Go.Proofs.Ytdcfmoaomlfijaa
set_option linter.unusedSimpArgs false
set_option linter.unusedVariables false
open Go.RowKit
end Go.Proofs.Ytdcfmoaomlfijaa

namespace Go.Proofs.Ytdcfmoaomlfijaa
set_option linter.unusedSimpArgs false
set_option linter.unusedVariables false
open Go.RowKit
end Go.Proofs.Ytdcfmoaomlfijaa

namespace Go.Proofs.Ytdcfmoaomlfijaa
set_option linter.unusedSimpArgs false
set_option linter.unusedVariables false
open Go.RowKit
end Go.Proofs.Ytdcfmoaomlfijaa

namespace Go.Proofs.Ytdcfmoaomlfijaa
set_option linter.unusedSimpArgs false
set_option linter.unusedVariables false
open Go.RowKit
end Go.Proofs.Ytdcfmoaomlfijaa

namespace Go.Proofs.Ytdcfmoaomlfijaa
set_option linter.unusedSimpArgs false
set_option linter.unusedVariables false
open Go.RowKit
end Go.Proofs.Ytdcfmoaomlfijaa

namespace Go.Proofs.Ytdcfmoaomlfijaa
set_option linter.unusedSimpArgs false
set_option linter.unusedVariables false
open Go.RowKit
end Go.Proofs.Ytdcfmoaomlfijaa

namespace Go.Proofs.Ytdcfmoaomlfijaa
set_option linter.unusedSimpArgs false
set_option linter.unusedVariables false
open Go.RowKit
end Go.Proofs.Ytdcfmoaomlfijaa

namespace Go.Proofs.Ytdcfmoaomlfijaa
set_option linter.unusedSimpArgs false
set_option linter.unusedVariables false
open Go.RowKit
end Go.Proofs.Ytdcfmoaomlfijaa

namespace Go.Proofs.Ytdcfmoaomlfijaa
set_option linter.unusedSimpArgs false
set_option linter.unusedVariables false
open Go.RowKit
end Go.Proofs.Ytdcfmoaomlfijaa

namespace Go.Proofs.Ytdcfmoaomlfijaa
set_option linter.unusedSimpArgs false
set_option linter.unusedVariables false
open Go.RowKit
end Go.Proofs.Ytdcfmoaomlfijaa

namespace Go.Proofs.Ytdcfmoaomlfijaa
set_option linter.unusedSimpArgs false
set_option linter.unusedVariables false
open Go.RowKit
end Go.Proofs.Ytdcfmoaomlfijaa

namespace Go.Proofs.Ytdcfmoaomlfijaa
set_option linter.unusedSimpArgs false
set_option linter.unusedVariables false
open Go.RowKit
end Go.Proofs.Ytdcfmoaomlfijaa

namespace Go.Proofs.Ytdcfmoaomlfijaa
set_option linter.unusedSimpArgs false
set_option linter.unusedVariables false
open Go.RowKit
end Go.Proofs.Ytdcfmoaomlfijaa

namespace Go.Proofs.Ytdcfmoaomlfijaa
set_option linter.unusedSimpArgs false
set_option linter.unusedVariables false
open Go.RowKit
end Go.Proofs.Ytdcfmoaomlfijaa

namespace Go.Proofs.Ytdcfmoaomlfijaa
set_option linter.unusedSimpArgs false
set_option linter.unusedVariables false
open Go.RowKit
end Go.Proofs.Ytdcfmoaomlfijaa

namespace Go.Proofs.Ytdcfmoaomlfijaa
set_option linter.unusedSimpArgs false
set_option linter.unusedVariables false
open Go.RowKit
end Go.Proofs.Ytdcfmoaomlfijaa

namespace Go.Proofs.Ytdcfmoaomlfijaa
set_option linter.unusedSimpArgs false
set_option linter.unusedVariables false
open Go.RowKit
end Go.Proofs.Ytdcfmoaomlfijaa

namespace Go.Proofs.Ytdcfmoaomlfijaa
set_option linter.unusedSimpArgs false
set_option linter.unusedVariables false
open Go.RowKit
end Go.Proofs.Ytdcfmoaomlfijaa

namespace Go.Proofs.Ytdcfmoaomlfijaa
set_option linter.unusedSimpArgs false
set_option linter.unusedVariables false
open Go.RowKit
end Go.Proofs.Ytdcfmoaomlfijaa

namespace Go.Proofs.Ytdcfmoaomlfijaa
set_option linter.unusedSimpArgs false
set_option linter.unusedVariables false
open Go.RowKit
end Go.Proofs.Ytdcfmoaomlfijaa

namespace Go.Proofs.Ytdcfmoaomlfijaa
set_option linter.unusedSimpArgs false
set_option linter.unusedVariables false
open Go.RowKit
end Go.Proofs.Ytdcfmoaomlfijaa

namespace Go.Proofs.Ytdcfmoaomlfijaa
set_option linter.unusedSimpArgs false
set_option linter.unusedVariables false
open Go.RowKit
end Go.Proofs.Ytdcfmoaomlfijaa

namespace Go.Proofs.Ytdcfmoaomlfijaa
set_option linter.unusedSimpArgs false
set_option linter.unusedVariables false
open Go.RowKit
end Go.Proofs.Ytdcfmoaomlfijaa

namespace Go.Proofs.Ytdcfmoaomlfijaa
set_option linter.unusedSimpArgs false
set_option linter.unusedVariables false
open Go.RowKit
end Go.Proofs.Ytdcfmoaomlfijaa

namespace Go.Proofs.Ytdcfmoaomlfijaa
set_option linter.unusedSimpArgs false
set_option linter.unusedVariables false
open Go.RowKit
end Go.Proofs.Ytdcfmoaomlfijaa

namespace Go.Proofs.Ytdcfmoaomlfijaa
set_option linter.unusedSimpArgs false
set_option linter.unusedVariables false
open Go.RowKit
end Go.Proofs.Ytdcfmoaomlfijaa

namespace Go.Proofs.Ytdcfmoaomlfijaa
set_option linter.unusedSimpArgs false
set_option linter.unusedVariables false
open Go.RowKit
end Go.Proofs.Ytdcfmoaomlfijaa

namespace Go.Proofs.Ytdcfmoaomlfijaa
set_option linter.unusedSimpArgs false
set_option linter.unusedVariables false
open Go.RowKit
end Go.Proofs.Ytdcfmoaomlfijaa

namespace Go.Proofs.Ytdcfmoaomlfijaa
set_option linter.unusedSimpArgs false
set_option linter.unusedVariables false
open Go.RowKit
end Go.Proofs.Ytdcfmoaomlfijaa

namespace Go.Proofs.Ytdcfmoaomlfijaa
set_option linter.unusedSimpArgs false
set_option linter.unusedVariables false
open Go.RowKit
end Go.Proofs.Ytdcfmoaomlfijaa

namespace Go.Proofs.Ytdcfmoaomlfijaa
set_option linter.unusedSimpArgs false
set_option linter.unusedVariables false
open Go.RowKit
end Go.Proofs.Ytdcfmoaomlfijaa

namespace Go.Proofs.Ytdcfmoaomlfijaa
set_option linter.unusedSimpArgs false
set_option linter.unusedVariables false
open Go.RowKit
end Go.Proofs.Ytdcfmoaomlfijaa

namespace Go.Proofs.Ytdcfmoaomlfijaa
set_option linter.unusedSimpArgs false
set_option linter.unusedVariables false
open Go.RowKit
end Go.Proofs.Ytdcfmoaomlfijaa

namespace Go.Proofs.Ytdcfmoaomlfijaa
set_option linter.unusedSimpArgs false
set_option linter.unusedVariables false
open Go.RowKit
end Go.Proofs.Ytdcfmoaomlfijaa

namespace Go.Proofs.Ytdcfmoaomlfijaa
set_option linter.unusedSimpArgs false
set_option linter.unusedVariables false
open Go.RowKit
end Go.Proofs.Ytdcfmoaomlfijaa

namespace Go.Proofs.Ytdcfmoaomlfijaa
set_option linter.unusedSimpArgs false
set_option linter.unusedVariables false
open Go.RowKit
end Go.Proofs.Ytdcfmoaomlfijaa

namespace Go.Proofs.Ytdcfmoaomlfijaa
set_option linter.unusedSimpArgs false
set_option linter.unusedVariables false
open Go.RowKit
end Go.Proofs.Ytdcfmoaomlfijaa

namespace Go.Proofs.Ytdcfmoaomlfijaa
set_option linter.unusedSimpArgs false
set_option linter.unusedVariables false
end Go.Proofs.Ytdcfmoaomlfijaa

namespace Go.Proofs.Ytdcfmoaomlfijaa
set_option linter.unusedSimpArgs false
set_option linter.unusedVariables false
open Go.RowKit
end Go.Proofs.Ytdcfmoaomlfijaa

namespace Go.Proofs.Ytdcfmoaomlfijaa
set_option linter.unusedSimpArgs false
set_option linter.unusedVariables false
open Go.RowKit
end Go.Proofs.Ytdcfmoaomlfijaa

namespace Go.Proofs.Ytdcfmoaomlfijaa
set_option linter.unusedSimpArgs false
set_option linter.unusedVariables false
open Go.RowKit
end Go.Proofs.Ytdcfmoaomlfijaa

namespace Go.Proofs.Ytdcfmoaomlfijaa
set_option linter.unusedSimpArgs false
set_option linter.unusedVariables false
open Go.RowKit
end Go.Proofs.Ytdcfmoaomlfijaa

namespace Go.Proofs.Ytdcfmoaomlfijaa
set_option linter.unusedSimpArgs false
set_option linter.unusedVariables false
open Go.RowKit
end Go.Proofs.Ytdcfmoaomlfijaa

namespace Go.Proofs.Ytdcfmoaomlfijaa
set_option linter.unusedSimpArgs false
set_option linter.unusedVariables false
open Go.RowKit
end Go.Proofs.Ytdcfmoaomlfijaa

namespace Go.Proofs.Ytdcfmoaomlfijaa
set_option linter.unusedSimpArgs false
set_option linter.unusedVariables false
end Go.Proofs.Ytdcfmoaomlfijaa

namespace Go.Proofs.Ytdcfmoaomlfijaa
set_option linter.unusedSimpArgs false
set_option linter.unusedVariables false
open Go.RowKit
end Go.Proofs.Ytdcfmoaomlfijaa

namespace Go.Proofs.Ytdcfmoaomlfijaa
set_option linter.unusedSimpArgs false
set_option linter.unusedVariables false
open Go.RowKit
end Go.Proofs.Ytdcfmoaomlfijaa

namespace Go.Proofs.Ytdcfmoaomlfijaa
set_option linter.unusedSimpArgs false
set_option linter.unusedVariables false
end Go.Proofs.Ytdcfmoaomlfijaa

namespace Go.Proofs.Ytdcfmoaomlfijaa
set_option linter.unusedSimpArgs false
set_option linter.unusedVariables false
end Go.Proofs.Ytdcfmoaomlfijaa

namespace Go.Proofs.Ytdcfmoaomlfijaa
set_option linter.unusedSimpArgs false
set_option linter.unusedVariables false
open Go.RowKit
end Go.Proofs.Ytdcfmoaomlfijaa

namespace Go.Proofs.Ytdcfmoaomlfijaa
set_option linter.unusedSimpArgs false
set_option linter.unusedVariables false
open Go.RowKit
end Go.Proofs.Ytdcfmoaomlfijaa

namespace Go.Proofs.Ytdcfmoaomlfijaa
set_option linter.unusedSimpArgs false
set_option linter.unusedVariables false
open Go.RowKit
end Go.Proofs.Ytdcfmoaomlfijaa

namespace Go.Proofs.Ytdcfmoaomlfijaa
set_option linter.unusedSimpArgs false
set_option linter.unusedVariables false
open Go.RowKit
end Go.Proofs.Ytdcfmoaomlfijaa

namespace Go.Proofs.Ytdcfmoaomlfijaa
set_option linter.unusedSimpArgs false
set_option linter.unusedVariables false
open Go.RowKit
end Go.Proofs.Ytdcfmoaomlfijaa

namespace Go.Proofs.Ytdcfmoaomlfijaa
set_option linter.unusedSimpArgs false
set_option linter.unusedVariables false
open Go.RowKit
end Go.Proofs.Ytdcfmoaomlfijaa

namespace Go.Proofs.Ytdcfmoaomlfijaa
set_option linter.unusedSimpArgs false
set_option linter.unusedVariables false
open Go.RowKit
end Go.Proofs.Ytdcfmoaomlfijaa

namespace Go.Proofs.Ytdcfmoaomlfijaa
set_option linter.unusedSimpArgs false
set_option linter.unusedVariables false
open Go.RowKit
end Go.Proofs.Ytdcfmoaomlfijaa
