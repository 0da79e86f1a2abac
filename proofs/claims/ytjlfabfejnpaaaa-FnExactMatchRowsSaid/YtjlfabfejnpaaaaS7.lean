/- Words and contracts for memory that the texts behind use. -/
import Derived.Test.YtjlfabfejnpaaaaS0
import Derived.Test.YtjlfabfejnpaaaaS1
import Derived.Test.YtjlfabfejnpaaaaS2
import Derived.Test.YtjlfabfejnpaaaaS3
import Derived.Test.YtjlfabfejnpaaaaS4
import Derived.Test.YtjlfabfejnpaaaaS5
import Derived.Test.YtjlfabfejnpaaaaS6
import Derived.WalkKit
import Derived.Laws.OwnMore
import Derived.Deep.Draws
import Derived.Test.YtjlfabfejnpaaaaProg
import Derived.WalkSpells
import Derived.WalkLawsBesides
import Derived.Outline
import Derived.Lib.Hide
import Derived.BigQuiet
import Derived.Deep.QuietTactic
import Derived.StillTailTactics
import Derived.Deep.LoopGhost
import Derived.Laws.MakeOwn
import Derived.WalkSmall
import Derived.RegionTactic
import Derived.BigRegion
import Derived.Deep.RegionWith
import Derived.Deep.RegionHeld3
import Derived.Maps.AppendAt

