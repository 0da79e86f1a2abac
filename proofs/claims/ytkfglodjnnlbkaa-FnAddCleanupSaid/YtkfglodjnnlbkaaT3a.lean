/- Words and contracts for memory that the texts behind use. -/
import Derived.Test.YtkfglodjnnlbkaaT0a
import Derived.Test.YtkfglodjnnlbkaaT1a
import Derived.Test.YtkfglodjnnlbkaaT2b
import Derived.WalkKit
import Derived.Laws.OwnMore
import Derived.Deep.Draws
import Derived.Test.YtkfglodjnnlbkaaProg
import Derived.WalkSpells
import Derived.WalkLawsBesides
import Derived.Outline
import Derived.Lib.Hide
import Derived.BigQuiet
import Derived.Deep.QuietTactic
import Derived.StillTailTactics
import Derived.Deep.LoopGhost
import Derived.Laws.MakeOwn
import Derived.WalkSmall
import Derived.RegionTactic
import Derived.BigRegion
import Derived.Deep.RegionWith
import Derived.Deep.RegionHeld3
import Derived.Maps.AppendAt
import Derived.RangeFuncNested
import Derived.RangeFuncBound
import Derived.RangeFuncCalls
import Derived.RangeFuncLeaves
import Derived.RangeFuncBox
import Derived.Shelf.Abstract
import Derived.Shelf.RegionOpen
import Derived.OwnWalkIn
import Derived.TacticsInMore
import Derived.LoopNIn
import Derived.LoopIn
import Derived.Maps.Own
import Derived.Maps.Views
import Derived.Laws.CopyOwn
import Derived.Deep.Cut
import Derived.Laws.Entries
import Derived.Laws.Bits64
import Derived.IntWalk
import Derived.Deep.RegionLaw
import Derived.Deep.AppendLies
import Derived.Deep.DeepCutAuto
import Derived.ArgAppend

namespace Go.Proofs.Ytkfglodjnnlbkaa
set_option linter.unusedSimpArgs false
set_option linter.unusedVariables false
open Go.RowKit
end Go.Proofs.Ytkfglodjnnlbkaa

namespace Go.Proofs.Ytkfglodjnnlbkaa
set_option linter.unusedSimpArgs false
set_option linter.unusedVariables false
open Go.RowKit Go.Shelf
attribute [local go_sem] Oper.semAt_some
/-- The rounds: numbers below n; the first k of them. -/
abbrev Below' (n : Nat) := { k : Nat // k < n }
def sub (n k : Nat) : List (Below' n) := (List.range k).filterMap fun j => if h : j < n then some ⟨j, h⟩ else none
theorem sub_succ (n k : Nat) (h : k < n) : sub n (k + 1) = sub n k ++ [⟨k, h⟩] := by simp [sub, List.range_succ, h]
theorem sub_val (n k : Nat) (h : k ≤ n) : (sub n k).map Subtype.val = List.range k := by
  induction k with
  | zero => rfl
  | succ k ih => rw [sub_succ n k (by omega), List.map_append, ih (by omega), List.range_succ]; rfl
theorem sub_length (n k : Nat) (h : k ≤ n) : (sub n k).length = k := by
  have := congrArg List.length (sub_val n k h); simpa using this
end Go.Proofs.Ytkfglodjnnlbkaa

namespace Go.Proofs.Ytkfglodjnnlbkaa
set_option linter.unusedSimpArgs false
set_option linter.unusedVariables false
/-- A part with the indices of the first parts below it. -/
def Pt.sub (p : Pt) (at_ : List Int) : Pt := ⟨p.k, at_.getD 0 p.a, at_.getD 1 p.b, at_.getD 2 p.c, p.n⟩
end Go.Proofs.Ytkfglodjnnlbkaa
