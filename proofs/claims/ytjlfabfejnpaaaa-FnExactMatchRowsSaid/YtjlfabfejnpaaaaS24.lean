/- Words and contracts for memory that the texts behind use. -/
import Derived.Test.YtjlfabfejnpaaaaS0
import Derived.Test.YtjlfabfejnpaaaaS1
import Derived.Test.YtjlfabfejnpaaaaS2
import Derived.Test.YtjlfabfejnpaaaaS3
import Derived.Test.YtjlfabfejnpaaaaS4
import Derived.Test.YtjlfabfejnpaaaaS5
import Derived.Test.YtjlfabfejnpaaaaS6
import Derived.Test.YtjlfabfejnpaaaaS7
import Derived.Test.YtjlfabfejnpaaaaS8
import Derived.Test.YtjlfabfejnpaaaaS9
import Derived.Test.YtjlfabfejnpaaaaS10
import Derived.Test.YtjlfabfejnpaaaaS11
import Derived.Test.YtjlfabfejnpaaaaS12
import Derived.Test.YtjlfabfejnpaaaaS13
import Derived.Test.YtjlfabfejnpaaaaS14
import Derived.Test.YtjlfabfejnpaaaaS15
import Derived.Test.YtjlfabfejnpaaaaS16
import Derived.Test.YtjlfabfejnpaaaaS17
import Derived.Test.YtjlfabfejnpaaaaS18
import Derived.Test.YtjlfabfejnpaaaaS19
import Derived.Test.YtjlfabfejnpaaaaS20
import Derived.Test.YtjlfabfejnpaaaaS21
import Derived.Test.YtjlfabfejnpaaaaS22
import Derived.Test.YtjlfabfejnpaaaaS23
import Derived.WalkKit
import Derived.Laws.OwnMore
import Derived.Deep.Draws
import Derived.Test.YtjlfabfejnpaaaaProg
import Derived.WalkSpells
import Derived.WalkLawsBesides
import Derived.Outline
import Derived.Lib.Hide
import Derived.BigQuiet
import Derived.Deep.QuietTactic
import Derived.StillTailTactics
import Derived.Deep.LoopGhost
import Derived.Laws.MakeOwn
import Derived.WalkSmall
import Derived.RegionTactic
import Derived.BigRegion
import Derived.Deep.RegionWith
import Derived.Deep.RegionHeld3
import Derived.Maps.AppendAt

namespace Go.Proofs.Ytjlfabfejnpaaaa
set_option linter.unusedSimpArgs false
set_option linter.unusedVariables false
open Go.RowKit
/-- Numbers without those that came before. -/
def firsts (l : List Int) : List Int := l.foldl (fun acc x => if x ∈ acc then acc else acc ++ [x]) []
end Go.Proofs.Ytjlfabfejnpaaaa
