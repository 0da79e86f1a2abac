/- Words and contracts for memory that the texts behind use. -/
import Derived.Test.YtjhpknnhgbdkiaaP0a
import Derived.Test.YtjhpknnhgbdkiaaP1a
import Derived.Test.YtjhpknnhgbdkiaaP2a
import Derived.Test.YtjhpknnhgbdkiaaP3a
import Derived.WalkKit
import Derived.Laws.OwnMore
import Derived.Deep.Draws
import Derived.Test.YtjhpknnhgbdkiaaProg
import Derived.WalkSpells
import Derived.WalkLawsBesides
import Derived.Outline
import Derived.Lib.Hide
import Derived.BigQuiet
import Derived.Deep.QuietTactic
import Derived.StillTailTactics
import Derived.Deep.LoopGhost
import Derived.Laws.MakeOwn
import Derived.WalkSmall
import Derived.RegionTactic
import Derived.BigRegion
import Derived.Deep.RegionWith
import Derived.Deep.RegionHeld3
import Derived.Maps.AppendAt
import Derived.Laws.CopyOwn
import Derived.Deep.Cut
import Derived.Laws.Entries
import Derived.Laws.Bits64
import Derived.IntWalk
import Derived.Deep.RegionLaw
import Derived.Deep.AppendLies
import Derived.Deep.DeepCutAuto
import Derived.ArgAppend

namespace Go.Proofs.Ytjhpknnhgbdkiaa
set_option linter.unusedSimpArgs false
set_option linter.unusedVariables false
open Go.RowKit
def newF (xs : List Int) : List On := if ctxOK xs then [⟨-1, true, [], xs⟩] else []
end Go.Proofs.Ytjhpknnhgbdkiaa

namespace Go.Proofs.Ytjhpknnhgbdkiaa
set_option linter.unusedSimpArgs false
set_option linter.unusedVariables false
open Go.RowKit
def withCl (ds : List On) (k : Nat) (l : Int) : On := ⟨(ds.getD k default).p, (ds.getD k default).o, (ds.getD k default).cl ++ [l], (ds.getD k default).cx⟩
def withCx (ds : List On) (k j : Nat) (x : Int) : On := ⟨(ds.getD k default).p, (ds.getD k default).o, (ds.getD k default).cl, (ds.getD k default).cx.set j x⟩
def addB (ds : List On) (o l : Int) : Bool := hasOpO ds o && (rng l 0 50 && !(decide ((ds.getD o.toNat default).cl.length = 5)))
def addF (ds : List On) (o l : Int) : List On := if addB ds o l then ds.set o.toNat (withCl ds o.toNat l) else []
def ctxB (ds : List On) (o k x : Int) : Bool := hasOpO ds o && (rng k 0 2 && rng x 0 50)
def ctxF (ds : List On) (o k x : Int) : List On := if ctxB ds o k x then ds.set o.toNat (withCx ds o.toNat k.toNat x) else []
end Go.Proofs.Ytjhpknnhgbdkiaa

namespace Go.Proofs.Ytjhpknnhgbdkiaa
set_option linter.unusedSimpArgs false
set_option linter.unusedVariables false
open Go.RowKit
def noCtx : List Int := [-1, -1, -1]
end Go.Proofs.Ytjhpknnhgbdkiaa

namespace Go.Proofs.Ytjhpknnhgbdkiaa
set_option linter.unusedSimpArgs false
set_option linter.unusedVariables false
open Go.RowKit
def newD (o : Int) : On := ⟨o, true, [], noCtx⟩
def openB (ds : List On) (o : Int) : Bool := hasOpO ds o && !(decide (ds.length = 12))
def openF (ds : List On) (o : Int) : List On := if openB ds o then ds ++ [newD o] else []
end Go.Proofs.Ytjhpknnhgbdkiaa
