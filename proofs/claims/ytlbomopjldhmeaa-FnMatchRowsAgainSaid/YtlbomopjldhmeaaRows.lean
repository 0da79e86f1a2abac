/-
  No cell of these rows narrows 'for every input' (looked for: loops, veiled, ifaces, maps, wideKeys, modest, calm, conditions, laid).
  DERIVED. THE GIVEN ROWS OF THIS SEAT. 6 by the template 'for every input the law returns true; each argument reads behind the call as it read before'; 0 by the template 'total and deterministic' (their statements: YtlbomopjldhmeaaTotals.lean).
  GIVEN WITH THE SEED: the statements are not yours to turn. If you find one false, say at which input.
  Laid BY PROGRAM, IN A SANDBOX (cutbox-rows.mjs): the forced cells as the released guide's own fill.sh prints them over the translation 457b375fd47b529e… (all of the seat's roots in one cut). By AI agents, Wed Nov 11 2026. No macro, syntax, notation, axiom, sorry.
-/
import Derived.Test.YtlbomopjldhmeaaChecked
import GoSem.Claim
import GoSem.ClaimJoined
import GoSem.ClaimMapViews
import Derived.JoinedTies
import Derived.KernelRfl
namespace Go.Proofs.Ytlbomopjldhmeaa
/- THE CELL 'sum', in the pinned program and in every row, IS THE sha256 OF THE DUMP (.gsa) THAT YtlbomopjldhmeaaProg.lean LOADS. Nothing in Lean hashes anything: it is a label: what it is worth is what the hold of that sum in a sandbox is worth. -/
noncomputable def Try.pinned : Pinned := { name := "ytlbomopjldhmeaa", sum := "457b375fd47b529e63cba80b1486919af7a05c610cb64de6c664d09f312cef4c", checked := Try.checked }
namespace Rows
def none {H : Type} : Left H := { results := [], args := [] }

/-- 'laws.FnExactApplyPatch': WHATEVER THE INPUT: true; the input reads as it did. -/
def fnExactApplyPatchSpec : ChangeSpec := { name := "fnExactApplyPatch", fn := fun _ => fun
  | [d1, d2] => { results := [.lit (.bool true)], args := [d1, d2] }
  | _ => none }
def fnExactApplyPatchRow : OpenClaim := { program := "ytlbomopjldhmeaa", sum := "457b375fd47b529e63cba80b1486919af7a05c610cb64de6c664d09f312cef4c", func := "loop.example/signalgraph/laws.FnExactApplyPatch", spec := "fnExactApplyPatch", inPlace := ["slices.overlaps[int]"], apart := false }
def FnExactApplyPatchSaid : Prop := fnExactApplyPatchRow.holds Try.pinned (OpenSpec.ofChange fnExactApplyPatchSpec)

/-- ITS FALSE NEIGHBOUR: 'it returns false'. Refute it at one input. -/
def fnExactApplyPatchWrong : ChangeSpec := { name := "fnExactApplyPatch", fn := fun _ => fun
  | [d1, d2] => { results := [.lit (.bool false)], args := [d1, d2] }
  | _ => none }
def FnExactApplyPatchWrongFalsely : Prop := fnExactApplyPatchRow.holds Try.pinned (OpenSpec.ofChange fnExactApplyPatchWrong)

/-- 'laws.FnPatchOf': WHATEVER THE INPUT: true; the input reads as it did. -/
def fnPatchOfSpec : ChangeSpec := { name := "fnPatchOf", fn := fun _ => fun
  | [d] => { results := [.lit (.bool true)], args := [d] }
  | _ => none }
def fnPatchOfRow : OpenClaim := { program := "ytlbomopjldhmeaa", sum := "457b375fd47b529e63cba80b1486919af7a05c610cb64de6c664d09f312cef4c", func := "loop.example/signalgraph/laws.FnPatchOf", spec := "fnPatchOf", inPlace := ["slices.overlaps[int]"], unfollowed := true, recurses := true, apart := false }
def FnPatchOfSaid : Prop := fnPatchOfRow.holds Try.pinned (OpenSpec.ofChange fnPatchOfSpec)

/-- ITS FALSE NEIGHBOUR: 'it returns false'. Refute it at one input. -/
def fnPatchOfWrong : ChangeSpec := { name := "fnPatchOf", fn := fun _ => fun
  | [d] => { results := [.lit (.bool false)], args := [d] }
  | _ => none }
def FnPatchOfWrongFalsely : Prop := fnPatchOfRow.holds Try.pinned (OpenSpec.ofChange fnPatchOfWrong)

/-- 'laws.FnApplyPatch': WHATEVER THE INPUT: true; the input reads as it did. -/
def fnApplyPatchSpec : ChangeSpec := { name := "fnApplyPatch", fn := fun _ => fun
  | [d] => { results := [.lit (.bool true)], args := [d] }
  | _ => none }
def fnApplyPatchRow : OpenClaim := { program := "ytlbomopjldhmeaa", sum := "457b375fd47b529e63cba80b1486919af7a05c610cb64de6c664d09f312cef4c", func := "loop.example/signalgraph/laws.FnApplyPatch", spec := "fnApplyPatch", inPlace := ["slices.overlaps[int]"], apart := false }
def FnApplyPatchSaid : Prop := fnApplyPatchRow.holds Try.pinned (OpenSpec.ofChange fnApplyPatchSpec)

/-- ITS FALSE NEIGHBOUR: 'it returns false'. Refute it at one input. -/
def fnApplyPatchWrong : ChangeSpec := { name := "fnApplyPatch", fn := fun _ => fun
  | [d] => { results := [.lit (.bool false)], args := [d] }
  | _ => none }
def FnApplyPatchWrongFalsely : Prop := fnApplyPatchRow.holds Try.pinned (OpenSpec.ofChange fnApplyPatchWrong)

/-- 'laws.FnApplyPatchMoves': WHATEVER THE INPUT: true; the input reads as it did. -/
def fnApplyPatchMovesSpec : ChangeSpec := { name := "fnApplyPatchMoves", fn := fun _ => fun
  | [d] => { results := [.lit (.bool true)], args := [d] }
  | _ => none }
def fnApplyPatchMovesRow : OpenClaim := { program := "ytlbomopjldhmeaa", sum := "457b375fd47b529e63cba80b1486919af7a05c610cb64de6c664d09f312cef4c", func := "loop.example/signalgraph/laws.FnApplyPatchMoves", spec := "fnApplyPatchMoves", inPlace := ["slices.overlaps[int]"], apart := false }
def FnApplyPatchMovesSaid : Prop := fnApplyPatchMovesRow.holds Try.pinned (OpenSpec.ofChange fnApplyPatchMovesSpec)

/-- ITS FALSE NEIGHBOUR: 'it returns false'. Refute it at one input. -/
def fnApplyPatchMovesWrong : ChangeSpec := { name := "fnApplyPatchMoves", fn := fun _ => fun
  | [d] => { results := [.lit (.bool false)], args := [d] }
  | _ => none }
def FnApplyPatchMovesWrongFalsely : Prop := fnApplyPatchMovesRow.holds Try.pinned (OpenSpec.ofChange fnApplyPatchMovesWrong)

/-- 'laws.FnMatchRows': WHATEVER THE INPUT: true; the input reads as it did. -/
def fnMatchRowsSpec : ChangeSpec := { name := "fnMatchRows", fn := fun _ => fun
  | [d] => { results := [.lit (.bool true)], args := [d] }
  | _ => none }
def fnMatchRowsRow : OpenClaim := { program := "ytlbomopjldhmeaa", sum := "457b375fd47b529e63cba80b1486919af7a05c610cb64de6c664d09f312cef4c", func := "loop.example/signalgraph/laws.FnMatchRows", spec := "fnMatchRows", unfollowed := true, recurses := true, apart := false }
def FnMatchRowsSaid : Prop := fnMatchRowsRow.holds Try.pinned (OpenSpec.ofChange fnMatchRowsSpec)

/-- ITS FALSE NEIGHBOUR: 'it returns false'. Refute it at one input. -/
def fnMatchRowsWrong : ChangeSpec := { name := "fnMatchRows", fn := fun _ => fun
  | [d] => { results := [.lit (.bool false)], args := [d] }
  | _ => none }
def FnMatchRowsWrongFalsely : Prop := fnMatchRowsRow.holds Try.pinned (OpenSpec.ofChange fnMatchRowsWrong)

/-- 'laws.FnMatchRowsAgain': WHATEVER THE INPUT: true; the input reads as it did. -/
def fnMatchRowsAgainSpec : ChangeSpec := { name := "fnMatchRowsAgain", fn := fun _ => fun
  | [d] => { results := [.lit (.bool true)], args := [d] }
  | _ => none }
def fnMatchRowsAgainRow : OpenClaim := { program := "ytlbomopjldhmeaa", sum := "457b375fd47b529e63cba80b1486919af7a05c610cb64de6c664d09f312cef4c", func := "loop.example/signalgraph/laws.FnMatchRowsAgain", spec := "fnMatchRowsAgain", unfollowed := true, recurses := true, apart := false }
def FnMatchRowsAgainSaid : Prop := fnMatchRowsAgainRow.holds Try.pinned (OpenSpec.ofChange fnMatchRowsAgainSpec)

/-- ITS FALSE NEIGHBOUR: 'it returns false'. Refute it at one input. -/
def fnMatchRowsAgainWrong : ChangeSpec := { name := "fnMatchRowsAgain", fn := fun _ => fun
  | [d] => { results := [.lit (.bool false)], args := [d] }
  | _ => none }
def FnMatchRowsAgainWrongFalsely : Prop := fnMatchRowsAgainRow.holds Try.pinned (OpenSpec.ofChange fnMatchRowsAgainWrong)

/- THE SECOND FORM. 'bulk': how many values and letters a reading holds, each counted each time it is reached (what is shared counts as often as it is met; a slice's spare places count too). A statement '..UptoSaid' is the law's where the arguments, and the package variables that the reading takes, are together of bulk at most 1048576: NARROWER than '..Said'. Prove '..Said' where nothing that the law and all that it calls make is longer than what came in: it says more and counts as full. Else prove '..UptoSaid'. A law counts once. -/
mutual
def uptoBulk {H : Type} : DataW H → Nat
  | .lit (.string bytes) => bytes.length + 1
  | .lit _ => 1
  | .nil => 1
  | .ptr d => uptoBulk d + 1
  | .slice elems spare => uptoBulkAll elems + uptoBulkAll spare + 1
  | .agg parts => uptoBulkAll parts + 1
  | .iface _ d => uptoBulk d + 1
  | .map entries => uptoBulkEntries entries + 1
  | .held _ => 1
def uptoBulkAll {H : Type} : List (DataW H) → Nat
  | [] => 0
  | d :: r => uptoBulk d + uptoBulkAll r
def uptoBulkEntries {H : Type} : List (Lit × DataW H) → Nat
  | [] => 0
  | x :: r => uptoBulkEntry x + uptoBulkEntries r
def uptoBulkEntry {H : Type} : Lit × DataW H → Nat
  | (.string bytes, d) => bytes.length + uptoBulk d + 1
  | (_, d) => uptoBulk d + 1
 end
def uptoSmall : (H : Type) → List (DataW H) → Bool := fun _ ds => decide (uptoBulkAll ds ≤ 1048576)
def OpenSpec.upto (s : _root_.Go.ChangeSpec) : _root_.Go.OpenSpec := { _root_.Go.OpenSpec.ofChange s with cond := some uptoSmall }

/-- 'laws.FnExactApplyPatch', WHERE WHAT IT READS IS OF BULK AT MOST 1048576: true; the input reads as it did. -/
def fnExactApplyPatchUptoRow : OpenClaim := { program := "ytlbomopjldhmeaa", sum := "457b375fd47b529e63cba80b1486919af7a05c610cb64de6c664d09f312cef4c", func := "loop.example/signalgraph/laws.FnExactApplyPatch", spec := "fnExactApplyPatch", inPlace := ["slices.overlaps[int]"], apart := false, narrowed := true }
def FnExactApplyPatchUptoSaid : Prop := fnExactApplyPatchUptoRow.holds Try.pinned (OpenSpec.upto fnExactApplyPatchSpec)

/-- 'laws.FnPatchOf', WHERE WHAT IT READS IS OF BULK AT MOST 1048576: true; the input reads as it did. -/
def fnPatchOfUptoRow : OpenClaim := { program := "ytlbomopjldhmeaa", sum := "457b375fd47b529e63cba80b1486919af7a05c610cb64de6c664d09f312cef4c", func := "loop.example/signalgraph/laws.FnPatchOf", spec := "fnPatchOf", inPlace := ["slices.overlaps[int]"], unfollowed := true, recurses := true, apart := false, narrowed := true }
def FnPatchOfUptoSaid : Prop := fnPatchOfUptoRow.holds Try.pinned (OpenSpec.upto fnPatchOfSpec)

/-- 'laws.FnApplyPatch', WHERE WHAT IT READS IS OF BULK AT MOST 1048576: true; the input reads as it did. -/
def fnApplyPatchUptoRow : OpenClaim := { program := "ytlbomopjldhmeaa", sum := "457b375fd47b529e63cba80b1486919af7a05c610cb64de6c664d09f312cef4c", func := "loop.example/signalgraph/laws.FnApplyPatch", spec := "fnApplyPatch", inPlace := ["slices.overlaps[int]"], apart := false, narrowed := true }
def FnApplyPatchUptoSaid : Prop := fnApplyPatchUptoRow.holds Try.pinned (OpenSpec.upto fnApplyPatchSpec)

/-- 'laws.FnApplyPatchMoves', WHERE WHAT IT READS IS OF BULK AT MOST 1048576: true; the input reads as it did. -/
def fnApplyPatchMovesUptoRow : OpenClaim := { program := "ytlbomopjldhmeaa", sum := "457b375fd47b529e63cba80b1486919af7a05c610cb64de6c664d09f312cef4c", func := "loop.example/signalgraph/laws.FnApplyPatchMoves", spec := "fnApplyPatchMoves", inPlace := ["slices.overlaps[int]"], apart := false, narrowed := true }
def FnApplyPatchMovesUptoSaid : Prop := fnApplyPatchMovesUptoRow.holds Try.pinned (OpenSpec.upto fnApplyPatchMovesSpec)

/-- 'laws.FnMatchRows', WHERE WHAT IT READS IS OF BULK AT MOST 1048576: true; the input reads as it did. -/
def fnMatchRowsUptoRow : OpenClaim := { program := "ytlbomopjldhmeaa", sum := "457b375fd47b529e63cba80b1486919af7a05c610cb64de6c664d09f312cef4c", func := "loop.example/signalgraph/laws.FnMatchRows", spec := "fnMatchRows", unfollowed := true, recurses := true, apart := false, narrowed := true }
def FnMatchRowsUptoSaid : Prop := fnMatchRowsUptoRow.holds Try.pinned (OpenSpec.upto fnMatchRowsSpec)

/-- 'laws.FnMatchRowsAgain', WHERE WHAT IT READS IS OF BULK AT MOST 1048576: true; the input reads as it did. -/
def fnMatchRowsAgainUptoRow : OpenClaim := { program := "ytlbomopjldhmeaa", sum := "457b375fd47b529e63cba80b1486919af7a05c610cb64de6c664d09f312cef4c", func := "loop.example/signalgraph/laws.FnMatchRowsAgain", spec := "fnMatchRowsAgain", unfollowed := true, recurses := true, apart := false, narrowed := true }
def FnMatchRowsAgainUptoSaid : Prop := fnMatchRowsAgainUptoRow.holds Try.pinned (OpenSpec.upto fnMatchRowsAgainSpec)

end Rows
end Go.Proofs.Ytlbomopjldhmeaa
