/- Words and contracts for memory that the texts behind use. -/
import Derived.Test.YtkfglodjnnlbkaaT0a
import Derived.Test.YtkfglodjnnlbkaaT1a
import Derived.Test.YtkfglodjnnlbkaaT2b
import Derived.Test.YtkfglodjnnlbkaaT3a
import Derived.Test.YtkfglodjnnlbkaaT4a
import Derived.Test.YtkfglodjnnlbkaaT5a
import Derived.Test.YtkfglodjnnlbkaaT6a
import Derived.Test.YtkfglodjnnlbkaaT7a
import Derived.Test.YtkfglodjnnlbkaaT8a
import Derived.WalkKit
import Derived.Laws.OwnMore
import Derived.Deep.Draws
import Derived.Test.YtkfglodjnnlbkaaProg
import Derived.WalkSpells
import Derived.WalkLawsBesides
import Derived.Outline
import Derived.Lib.Hide
import Derived.BigQuiet
import Derived.Deep.QuietTactic
import Derived.StillTailTactics
import Derived.Deep.LoopGhost
import Derived.Laws.MakeOwn
import Derived.WalkSmall
import Derived.RegionTactic
import Derived.BigRegion
import Derived.Deep.RegionWith
import Derived.Deep.RegionHeld3
import Derived.Maps.Own
import Derived.Maps.Views
import Derived.Maps.AppendAt
import Derived.Laws.CopyOwn
import Derived.Deep.Cut
import Derived.Laws.Entries
import Derived.Laws.Bits64
import Derived.IntWalk
import Derived.Deep.RegionLaw
import Derived.Deep.AppendLies
import Derived.Deep.DeepCutAuto
import Derived.ArgAppend

namespace Go.Proofs.Ytkfglodjnnlbkaa
set_option linter.unusedSimpArgs false
set_option linter.unusedVariables false
open Go.RowKit
/-- How many parts a kind has below. -/
def ar (k : Int) : Int := if k = 0 ∨ k = 1 then 0 else if 2 ≤ k ∧ k ≤ 7 then 2 else if k = 8 then 3 else -1
end Go.Proofs.Ytkfglodjnnlbkaa

namespace Go.Proofs.Ytkfglodjnnlbkaa
set_option linter.unusedSimpArgs false
set_option linter.unusedVariables false
open Go.RowKit
def bel (p : Pt) : List Int := if ar p.k = 2 then [p.a, p.b] else if ar p.k = 3 then [p.a, p.b, p.c] else []
def goodPt (p : Pt) (i : Int) : Bool :=
  if ar p.k == 0 then p.a == -1 && p.b == -1 && p.c == -1 && rng p.n 0 (if p.k == 1 then 9 else 99)
  else if ar p.k == 2 then rng p.a 0 (i - 1) && rng p.b 0 (i - 1) && p.c == -1 && p.n == 0
  else if ar p.k == 3 then rng p.a 0 (i - 1) && rng p.b 0 (i - 1) && rng p.c 0 (i - 1) && p.n == 0
  else false
end Go.Proofs.Ytkfglodjnnlbkaa

namespace Go.Proofs.Ytkfglodjnnlbkaa
set_option linter.unusedSimpArgs false
set_option linter.unusedVariables false
open Go.RowKit
/-- The formula is valid, as the model reckons it. -/
def validF (ps : List Pt) : Bool :=
  decide (∀ i, i < ps.length → goodPt (ps.getD i default) i = true) && decide (∀ i, i < ps.length - 1 → (ps.flatMap bel).count (i : Int) = 1) && rng ps.length 1 12
end Go.Proofs.Ytkfglodjnnlbkaa

namespace Go.Proofs.Ytkfglodjnnlbkaa
set_option linter.unusedSimpArgs false
set_option linter.unusedVariables false
open Go.RowKit
/-- A node of a graph: its kind, the parts of its formula. -/
structure Nd where
  k : Int
  ps : List Pt
deriving DecidableEq, Inhabited
end Go.Proofs.Ytkfglodjnnlbkaa

namespace Go.Proofs.Ytkfglodjnnlbkaa
set_option linter.unusedSimpArgs false
set_option linter.unusedVariables false
open Go.RowKit
theorem Bx.tch {b : Nat} (w : World) (j : Nat) (u : Value) : Tch b (b + 1) w (w.setCell ⟨b, j, none⟩ u) := Tch.of_grown (grown_setCell0 w b j u) fun k hk => by cases hk; omega
end Go.Proofs.Ytkfglodjnnlbkaa

namespace Go.Proofs.Ytkfglodjnnlbkaa
set_option linter.unusedSimpArgs false
set_option linter.unusedVariables false
open Go.RowKit
/-- The nodes that a formula has, ascending. -/
def hasNode (ps : List Pt) (m : Nat) : Bool := ps.any fun p => p.k == 1 && p.n == (m : Int)
def mayR (ps : List Pt) : List Int := ((List.range 10).filter (hasNode ps)).map fun m : Nat => (m : Int)
end Go.Proofs.Ytkfglodjnnlbkaa

namespace Go.Proofs.Ytkfglodjnnlbkaa
set_option linter.unusedSimpArgs false
set_option linter.unusedVariables false
open Go.RowKit
/-- A node ahead of the one at i that is no effect. -/
def rdOK (gs : List Nd) (i : Nat) (x : Int) : Bool := decide (x < (i : Int)) && !((gs.getD x.toNat default).k == 2)
def goodRd (gs : List Nd) (i : Nat) : Bool := (mayR (gs.getD i default).ps).all (rdOK gs i)
def nodeOK (gs : List Nd) (i : Nat) : Bool :=
  if (gs.getD i default).k == 0 then decide ((gs.getD i default).ps.length = 0)
  else if (gs.getD i default).k == 1 then validF (gs.getD i default).ps && goodRd gs i
  else if (gs.getD i default).k == 2 then validF (gs.getD i default).ps && goodRd gs i
  else false
def validG (gs : List Nd) : Bool := decide (∀ i, i < gs.length → nodeOK gs i = true) && decide (gs.length ≤ 10)
/-- A cell is a value, 0 if its node is no cell. -/
def cellOK (gs : List Nd) (cs : List Int) (i : Nat) : Bool := rng (cs.getD i 0) 0 999 && ((gs.getD i default).k == 0 || cs.getD i 0 == 0)
def validC (gs : List Nd) (cs : List Int) : Bool := decide (cs.length = gs.length) && decide (∀ i, i < gs.length → cellOK gs cs i = true)
def okC (gs : List Nd) (cs : List Int) : Bool := validG gs && validC gs cs
end Go.Proofs.Ytkfglodjnnlbkaa

namespace Go.Proofs.Ytkfglodjnnlbkaa
set_option linter.unusedSimpArgs false
set_option linter.unusedVariables false
open Go.RowKit
/-- Whether there is such a node. -/
def hasN (gs : List Nd) (x : Int) : Bool := rng x 0 ((gs.length : Int) - 1)
/-- Whether a node is a cell. -/
def isC (gs : List Nd) (x : Int) : Bool := hasN gs x && ((gs.getD x.toNat default).k == 0)
def setB (gs : List Nd) (xs : List Int) (x y : Int) : Bool := okC gs xs && isC gs x && rng y 0 999
end Go.Proofs.Ytkfglodjnnlbkaa
