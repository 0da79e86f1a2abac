/- Words and contracts for memory that the texts behind use. -/
import Derived.Test.YtgakgmkonmgblaaGreatA0
import Derived.Test.YtgakgmkonmgblaaGreatA1
import Derived.Test.YtgakgmkonmgblaaGreatA2
import Derived.Test.YtgakgmkonmgblaaGreatA3
import Derived.Test.YtgakgmkonmgblaaGreatA4
import Derived.Test.YtgakgmkonmgblaaGreatA5
import Derived.Test.YtgakgmkonmgblaaGreatA6
import Derived.Test.YtgakgmkonmgblaaGreatA7
import Derived.Test.YtgakgmkonmgblaaGreatA8
import Derived.Test.YtgakgmkonmgblaaGreatZ0
import Derived.Test.YtgakgmkonmgblaaGreatZ1
import Derived.Test.YtgakgmkonmgblaaGreatZ2
import Derived.Test.YtgakgmkonmgblaaGreatA9a
import Derived.Test.YtgakgmkonmgblaaGreatA9b
import Derived.Test.YtgakgmkonmgblaaGreatA9c
import Derived.Test.YtgakgmkonmgblaaGreatA9
import Derived.WalkKit
import Derived.Laws.OwnMore
import Derived.Deep.Draws
import Derived.Test.YtgakgmkonmgblaaGreatProg
import Derived.WalkSpells
import Derived.WalkLawsBesides
import Derived.Outline
import Derived.Lib.Hide
import Derived.BigQuiet
import Derived.Deep.QuietTactic
import Derived.StillTailTactics
import Derived.Deep.LoopGhost
import Derived.Laws.MakeOwn
import Derived.WalkSmall
import Derived.RegionTactic
import Derived.BigRegion
import Derived.Deep.RegionWith
import Derived.Deep.RegionHeld3
import Derived.Maps.AppendAt
import Derived.Laws.CopyOwn
import Derived.Laws.Entries
import Derived.Laws.Bits64
import Derived.IntWalk
import Derived.Deep.RegionLaw
import Derived.Deep.AppendLies
import Derived.Deep.Cut
import Derived.Deep.DeepCutAuto
import Derived.Maps.Own
import Derived.Maps.Views
import Derived.ChangeAlike

namespace Go.Proofs.YtgakgmkonmgblaaGreat
set_option linter.unusedSimpArgs false
set_option linter.unusedVariables false
open Go.RowKit
theorem PS.set0 {w : World} {B g : Nat} {A : Option Addr} {ps : List Pt} (h : PS w B A ps) (hne : ∀ b off, A = some ⟨b, off, none⟩ → b ≠ g) (j : Nat) (x : Value) : PS (w.setCell ⟨g, j, none⟩ x) B A ps := by
  intro hn
  obtain ⟨b, off, e, hb, hc⟩ := h hn
  have hbg := hne b off e
  have k : ∀ i : Nat, (w.setCell ⟨g, j, none⟩ x).cell? ⟨b, i, none⟩ = w.cell? ⟨b, i, none⟩ := fun i => World.cell?_setCell_other _ _ _ _ (by intro e; cases e; exact hbg rfl)
  refine ⟨b, off, e, hb, fun i hi => ?_⟩
  obtain ⟨a0, a1, a2, a3, a4⟩ := hc i hi
  exact ⟨(k _).trans a0, (k _).trans a1, (k _).trans a2, (k _).trans a3, (k _).trans a4⟩
theorem IS.set0 {w : World} {B g : Nat} {A : Option Addr} {xs : List Int} (h : IS w B A xs) (hne : ∀ b off, A = some ⟨b, off, none⟩ → b ≠ g) (j : Nat) (x : Value) : IS (w.setCell ⟨g, j, none⟩ x) B A xs := by
  intro hn
  obtain ⟨b, off, e, hb, hc⟩ := h hn
  have hbg := hne b off e
  exact ⟨b, off, e, hb, fun i hi => (World.cell?_setCell_other _ _ _ _ (by intro e; cases e; exact hbg rfl)).trans (hc i hi)⟩
end Go.Proofs.YtgakgmkonmgblaaGreat

namespace Go.Proofs.YtgakgmkonmgblaaGreat
set_option linter.unusedSimpArgs false
set_option linter.unusedVariables false
open Go.RowKit
theorem IS.tch {w w' : World} {B a b : Nat} {g : Nat} {xs : List Int} (h : IS w B (some ⟨g, 0, none⟩) xs) (ht : Tch a b w w') (hg : g < a ∨ b ≤ g) (hB : B ≤ w.heap.size) : IS w' B (some ⟨g, 0, none⟩) xs := by
  intro hn
  obtain ⟨b', off, e, hb, hc⟩ := h hn
  cases e
  exact ⟨g, 0, rfl, hb, fun j hj => (World.cell?_of_block (a := ⟨g, 0 + j, none⟩) (ht.block g (by omega) hg)).trans (hc j hj)⟩
end Go.Proofs.YtgakgmkonmgblaaGreat
