/- Words and contracts for memory that the texts behind use. -/
import Derived.Test.YtjlfabfejnpaaaaS0
import Derived.Test.YtjlfabfejnpaaaaS1
import Derived.Test.YtjlfabfejnpaaaaS2
import Derived.Test.YtjlfabfejnpaaaaS3
import Derived.Test.YtjlfabfejnpaaaaS4
import Derived.Test.YtjlfabfejnpaaaaS5
import Derived.Test.YtjlfabfejnpaaaaS6
import Derived.Test.YtjlfabfejnpaaaaS7
import Derived.Test.YtjlfabfejnpaaaaS8
import Derived.Test.YtjlfabfejnpaaaaS9
import Derived.Test.YtjlfabfejnpaaaaS10
import Derived.Test.YtjlfabfejnpaaaaS11
import Derived.WalkKit
import Derived.Laws.OwnMore
import Derived.Deep.Draws
import Derived.Test.YtjlfabfejnpaaaaProg
import Derived.WalkSpells
import Derived.WalkLawsBesides
import Derived.Outline
import Derived.Lib.Hide
import Derived.BigQuiet
import Derived.Deep.QuietTactic
import Derived.StillTailTactics
import Derived.Deep.LoopGhost
import Derived.Laws.MakeOwn
import Derived.WalkSmall
import Derived.RegionTactic
import Derived.BigRegion
import Derived.Deep.RegionWith
import Derived.Deep.RegionHeld3
import Derived.Maps.AppendAt
import Derived.Laws.CopyOwn

namespace Go.Proofs.Ytjlfabfejnpaaaa
set_option linter.unusedSimpArgs false
set_option linter.unusedVariables false
open Go.RowKit
theorem own_heap {w : World} {base e n cap g : Nat} {xs : List Value} (h : w.ownsRow base e 1 (.slice (some ⟨g, 0, none⟩) n cap) n xs) : ∃ cur : List Value, w.heap[g]? = some (.cells cur.toArray e (0, 0)) ∧ cur.length = cap ∧ base ≤ g := by
  rcases h.2 with ⟨hv, _⟩ | ⟨g', cap', cur, hv, hb, hh, h1, h2, h3, h4⟩
  · simp at hv
  · simp only [Value.slice.injEq, Option.some.injEq, Addr.mk.injEq, and_true, true_and] at hv
    obtain ⟨rfl, rfl⟩ := hv
    exact ⟨cur.toList, by simpa using hh, by simpa using h3, hb⟩
end Go.Proofs.Ytjlfabfejnpaaaa
