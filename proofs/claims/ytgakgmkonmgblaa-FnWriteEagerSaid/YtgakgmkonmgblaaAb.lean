/- Words and contracts for memory that the texts behind use. -/
import Derived.Test.YtgakgmkonmgblaaA0
import Derived.Test.YtgakgmkonmgblaaA1
import Derived.Test.YtgakgmkonmgblaaA2
import Derived.Test.YtgakgmkonmgblaaA3
import Derived.Test.YtgakgmkonmgblaaA4
import Derived.Test.YtgakgmkonmgblaaA5
import Derived.Test.YtgakgmkonmgblaaA6
import Derived.Test.YtgakgmkonmgblaaA7
import Derived.Test.YtgakgmkonmgblaaA8
import Derived.Test.YtgakgmkonmgblaaA9a
import Derived.Test.YtgakgmkonmgblaaA9b
import Derived.Test.YtgakgmkonmgblaaA9c
import Derived.Test.YtgakgmkonmgblaaA9
import Derived.Test.YtgakgmkonmgblaaAa
import Derived.WalkKit
import Derived.Laws.OwnMore
import Derived.Deep.Draws
import Derived.Test.YtgakgmkonmgblaaProg
import Derived.WalkSpells
import Derived.WalkLawsBesides
import Derived.Outline
import Derived.Lib.Hide
import Derived.BigQuiet
import Derived.Deep.QuietTactic
import Derived.StillTailTactics
import Derived.Deep.LoopGhost
import Derived.Laws.MakeOwn
import Derived.WalkSmall
import Derived.RegionTactic
import Derived.BigRegion
import Derived.Deep.RegionWith
import Derived.Deep.RegionHeld3
import Derived.Maps.AppendAt
import Derived.Laws.CopyOwn
import Derived.Laws.Entries
import Derived.Laws.Bits64
import Derived.IntWalk
import Derived.Deep.RegionLaw
import Derived.Deep.AppendLies
import Derived.Deep.Cut
import Derived.Deep.DeepCutAuto
import Derived.Maps.Own
import Derived.Maps.Views
import Derived.ChangeAlike

namespace Go.Proofs.Ytgakgmkonmgblaa
set_option linter.unusedSimpArgs false
set_option linter.unusedVariables false
open Go.RowKit
theorem meanTo_pre (gs : List Nd) (cs : List Int) (i n j : Nat) (h : i ≤ n) (hj : j < i) : (meanTo gs cs n).getD j 0 = (meanTo gs cs i).getD j 0 := by
  induction n with
  | zero => omega
  | succ n ih =>
    rcases Nat.lt_or_ge n i with h1 | h1
    · have : i = n + 1 := by omega
      subst this
      rfl
    · rw [← ih h1]
      have hl := meanTo_len gs cs n
      show (meanTo gs cs n ++ [_]).getD j 0 = _
      simp [List.getD, List.getElem?_append, hl, show j < n by omega]
theorem meanTo_last (gs : List Nd) (cs : List Int) (i : Nat) : (meanTo gs cs (i + 1)).getD i 0 = if (gs.getD i default).k == 0 then cs.getD i 0 else (whole (gs.getD i default).ps).ev (meanTo gs cs i) := by
  have hl := meanTo_len gs cs i
  show (meanTo gs cs i ++ [_]).getD i 0 = _
  simp [List.getD, List.getElem?_append, hl]
theorem mean_cell (gs : List Nd) (cs : List Int) (i : Nat) (hi : i < gs.length) (hk : ((gs.getD i default).k == 0) = true) : (mean gs cs).getD i 0 = cs.getD i 0 := by
  unfold mean
  rw [meanTo_pre gs cs (i + 1) gs.length i (by omega) (by omega), meanTo_last, hk]
  rfl
end Go.Proofs.Ytgakgmkonmgblaa
