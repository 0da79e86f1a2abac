/- Words and contracts for memory that the texts behind use. -/
import Derived.Test.YtlliomnfbgdpfaaS0
import Derived.Test.YtlliomnfbgdpfaaS1
import Derived.Test.YtlliomnfbgdpfaaS2
import Derived.Test.YtlliomnfbgdpfaaS3
import Derived.Test.YtlliomnfbgdpfaaS4
import Derived.Test.YtlliomnfbgdpfaaS5
import Derived.WalkKit
import Derived.Laws.OwnMore
import Derived.Deep.Draws
import Derived.Test.YtlliomnfbgdpfaaProg
import Derived.WalkSpells
import Derived.WalkLawsBesides
import Derived.Outline
import Derived.Lib.Hide
import Derived.BigQuiet
import Derived.Deep.QuietTactic
import Derived.StillTailTactics
import Derived.Deep.LoopGhost
import Derived.Laws.MakeOwn
import Derived.WalkSmall
import Derived.RegionTactic
import Derived.BigRegion
import Derived.Deep.RegionWith
import Derived.Deep.RegionHeld3

namespace Go.Proofs.Ytlliomnfbgdpfaa
set_option linter.unusedSimpArgs false
set_option linter.unusedVariables false
open Go.RowKit
theorem grown_setCell0 (w : World) (g j : Nat) (x : Value) : w.grownBy (w.setCell ⟨g, j, none⟩ x) (some g) :=
  ⟨rfl, rfl, rfl, by simp [World.setCell], fun k hk hr => Below.heap_setCell _ _ _ _ (by intro e; exact hr (by rw [e]))⟩
theorem box3_loc (g : Nat) (v u x : Value) : Loc g (g + 1) fun w => w.cell? ⟨g, 0, none⟩ = some v ∧ w.cell? ⟨g, 1, none⟩ = some u ∧ w.cell? ⟨g, 2, none⟩ = some x :=
  fun w w' h hk => ⟨(World.cell?_of_block (a := ⟨g, 0, none⟩) (hk g (Nat.le_refl _) (Nat.lt_succ_self _))).trans h.1, (World.cell?_of_block (a := ⟨g, 1, none⟩) (hk g (Nat.le_refl _) (Nat.lt_succ_self _))).trans h.2.1, (World.cell?_of_block (a := ⟨g, 2, none⟩) (hk g (Nat.le_refl _) (Nat.lt_succ_self _))).trans h.2.2⟩
end Go.Proofs.Ytlliomnfbgdpfaa
