/- Words and contracts for memory that the texts behind use. -/
import Derived.Test.YtlliomnfbgdpfaaS0
import Derived.Test.YtlliomnfbgdpfaaS1
import Derived.Test.YtlliomnfbgdpfaaS2
import Derived.Test.YtlliomnfbgdpfaaS3
import Derived.Test.YtlliomnfbgdpfaaS4
import Derived.Test.YtlliomnfbgdpfaaS5
import Derived.Test.YtlliomnfbgdpfaaS6
import Derived.Test.YtlliomnfbgdpfaaS7
import Derived.Test.YtlliomnfbgdpfaaS8
import Derived.WalkKit
import Derived.Laws.OwnMore
import Derived.Deep.Draws
import Derived.Test.YtlliomnfbgdpfaaRows
import Derived.ProofKit
import Derived.OpenShut
import Derived.ShutString
import Derived.ChangeOld
import Derived.Below
import Derived.Deep.Slices
import Derived.Deep.Fields
import Derived.Test.YtlliomnfbgdpfaaProg
import Derived.WalkSpells
import Derived.WalkLawsBesides
import Derived.Outline
import Derived.Lib.Hide
import Derived.BigQuiet
import Derived.Deep.QuietTactic
import Derived.StillTailTactics
import Derived.Deep.LoopGhost
import Derived.Laws.MakeOwn
import Derived.WalkSmall
import Derived.RegionTactic
import Derived.BigRegion
import Derived.Deep.RegionWith
import Derived.Deep.RegionHeld3
import Derived.Maps.AppendAt
import Derived.Laws.CopyOwn
import Derived.Laws.Entries
import Derived.Laws.Bits64
import Derived.IntWalk
import Derived.Deep.RegionLaw
import Derived.Deep.AppendLies
import Derived.Deep.Cut
import Derived.Deep.DeepCutAuto

namespace Go.Proofs.Ytlliomnfbgdpfaa
set_option linter.unusedSimpArgs false
set_option linter.unusedVariables false
/-- The parts of a term in order, from index k on. -/
def Tm.post : Tm → Nat → List Pt
  | .num v, _ => [⟨0, -1, -1, -1, v⟩]
  | .rd v, _ => [⟨1, -1, -1, -1, v⟩]
  | .pr K l r, k => l.post k ++ r.post (k + l.size) ++ [⟨K, ((k + l.size : Nat) : Int) - 1, ((k + l.size + r.size : Nat) : Int) - 1, -1, 0⟩]
  | .ch t a b, k => t.post k ++ a.post (k + t.size) ++ b.post (k + t.size + a.size) ++ [⟨8, ((k + t.size : Nat) : Int) - 1, ((k + t.size + a.size : Nat) : Int) - 1, ((k + t.size + a.size + b.size : Nat) : Int) - 1, 0⟩]
end Go.Proofs.Ytlliomnfbgdpfaa
