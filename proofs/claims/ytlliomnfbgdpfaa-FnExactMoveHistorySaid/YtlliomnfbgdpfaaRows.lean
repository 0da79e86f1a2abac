/-
  No cell of these rows narrows 'for every input' (looked for: loops, veiled, ifaces, maps, wideKeys, modest, calm, conditions, laid).
  DERIVED. THE GIVEN ROWS OF THIS SEAT. 5 by the template 'for every input the law returns true; each argument reads behind the call as it read before'; 0 by the template 'total and deterministic' (their statements: YtlliomnfbgdpfaaTotals.lean).
  GIVEN WITH THE SEED: the statements are not yours to turn. If you find one false, say at which input.
  Laid BY PROGRAM, IN A SANDBOX (cutbox-rows.mjs): the forced cells as the released guide's own fill.sh prints them over the translation d94db2a14adde1ce… (all of the seat's roots in one cut). By AI agents, Wed Nov 11 2026. No macro, syntax, notation, axiom, sorry.
-/
import Derived.Test.YtlliomnfbgdpfaaChecked
import GoSem.Claim
import GoSem.ClaimJoined
import GoSem.ClaimMapViews
import Derived.JoinedTies
import Derived.KernelRfl
namespace Go.Proofs.Ytlliomnfbgdpfaa
/- THE CELL 'sum', in the pinned program and in every row, IS THE sha256 OF THE DUMP (.gsa) THAT YtlliomnfbgdpfaaProg.lean LOADS. Nothing in Lean hashes anything: it is a label: what it is worth is what the hold of that sum in a sandbox is worth. -/
noncomputable def Try.pinned : Pinned := { name := "ytlliomnfbgdpfaa", sum := "d94db2a14adde1ced33d425dd47e771f269929af59f885ceb2d21f80b51e4e8b", checked := Try.checked }
namespace Rows
def none {H : Type} : Left H := { results := [], args := [] }

/-- 'laws.FnExactValidHistory': WHATEVER THE INPUT: true; the input reads as it did. -/
def fnExactValidHistorySpec : ChangeSpec := { name := "fnExactValidHistory", fn := fun _ => fun
  | [d1, d2] => { results := [.lit (.bool true)], args := [d1, d2] }
  | _ => none }
def fnExactValidHistoryRow : OpenClaim := { program := "ytlliomnfbgdpfaa", sum := "d94db2a14adde1ced33d425dd47e771f269929af59f885ceb2d21f80b51e4e8b", func := "loop.example/signalgraph/laws.FnExactValidHistory", spec := "fnExactValidHistory", apart := false }
def FnExactValidHistorySaid : Prop := fnExactValidHistoryRow.holds Try.pinned (OpenSpec.ofChange fnExactValidHistorySpec)

/-- ITS FALSE NEIGHBOUR: 'it returns false'. Refute it at one input. -/
def fnExactValidHistoryWrong : ChangeSpec := { name := "fnExactValidHistory", fn := fun _ => fun
  | [d1, d2] => { results := [.lit (.bool false)], args := [d1, d2] }
  | _ => none }
def FnExactValidHistoryWrongFalsely : Prop := fnExactValidHistoryRow.holds Try.pinned (OpenSpec.ofChange fnExactValidHistoryWrong)

/-- 'laws.FnExactNewHistory': WHATEVER THE INPUT: true; the input reads as it did. -/
def fnExactNewHistorySpec : ChangeSpec := { name := "fnExactNewHistory", fn := fun _ => fun
  | [d1, d2] => { results := [.lit (.bool true)], args := [d1, d2] }
  | _ => none }
def fnExactNewHistoryRow : OpenClaim := { program := "ytlliomnfbgdpfaa", sum := "d94db2a14adde1ced33d425dd47e771f269929af59f885ceb2d21f80b51e4e8b", func := "loop.example/signalgraph/laws.FnExactNewHistory", spec := "fnExactNewHistory", apart := false }
def FnExactNewHistorySaid : Prop := fnExactNewHistoryRow.holds Try.pinned (OpenSpec.ofChange fnExactNewHistorySpec)

/-- ITS FALSE NEIGHBOUR: 'it returns false'. Refute it at one input. -/
def fnExactNewHistoryWrong : ChangeSpec := { name := "fnExactNewHistory", fn := fun _ => fun
  | [d1, d2] => { results := [.lit (.bool false)], args := [d1, d2] }
  | _ => none }
def FnExactNewHistoryWrongFalsely : Prop := fnExactNewHistoryRow.holds Try.pinned (OpenSpec.ofChange fnExactNewHistoryWrong)

/-- 'laws.FnExactCommitCells': WHATEVER THE INPUT: true; the input reads as it did. -/
def fnExactCommitCellsSpec : ChangeSpec := { name := "fnExactCommitCells", fn := fun _ => fun
  | [d1, d2, d3] => { results := [.lit (.bool true)], args := [d1, d2, d3] }
  | _ => none }
def fnExactCommitCellsRow : OpenClaim := { program := "ytlliomnfbgdpfaa", sum := "d94db2a14adde1ced33d425dd47e771f269929af59f885ceb2d21f80b51e4e8b", func := "loop.example/signalgraph/laws.FnExactCommitCells", spec := "fnExactCommitCells", apart := false }
def FnExactCommitCellsSaid : Prop := fnExactCommitCellsRow.holds Try.pinned (OpenSpec.ofChange fnExactCommitCellsSpec)

/-- ITS FALSE NEIGHBOUR: 'it returns false'. Refute it at one input. -/
def fnExactCommitCellsWrong : ChangeSpec := { name := "fnExactCommitCells", fn := fun _ => fun
  | [d1, d2, d3] => { results := [.lit (.bool false)], args := [d1, d2, d3] }
  | _ => none }
def FnExactCommitCellsWrongFalsely : Prop := fnExactCommitCellsRow.holds Try.pinned (OpenSpec.ofChange fnExactCommitCellsWrong)

/-- 'laws.FnExactMoveHistory': WHATEVER THE INPUT: true; the input reads as it did. -/
def fnExactMoveHistorySpec : ChangeSpec := { name := "fnExactMoveHistory", fn := fun _ => fun
  | [d1, d2, d3] => { results := [.lit (.bool true)], args := [d1, d2, d3] }
  | _ => none }
def fnExactMoveHistoryRow : OpenClaim := { program := "ytlliomnfbgdpfaa", sum := "d94db2a14adde1ced33d425dd47e771f269929af59f885ceb2d21f80b51e4e8b", func := "loop.example/signalgraph/laws.FnExactMoveHistory", spec := "fnExactMoveHistory", unfollowed := true, recurses := true, apart := false }
def FnExactMoveHistorySaid : Prop := fnExactMoveHistoryRow.holds Try.pinned (OpenSpec.ofChange fnExactMoveHistorySpec)

/-- ITS FALSE NEIGHBOUR: 'it returns false'. Refute it at one input. -/
def fnExactMoveHistoryWrong : ChangeSpec := { name := "fnExactMoveHistory", fn := fun _ => fun
  | [d1, d2, d3] => { results := [.lit (.bool false)], args := [d1, d2, d3] }
  | _ => none }
def FnExactMoveHistoryWrongFalsely : Prop := fnExactMoveHistoryRow.holds Try.pinned (OpenSpec.ofChange fnExactMoveHistoryWrong)

/-- 'laws.FnExactWhyChanged': WHATEVER THE INPUT: true; the input reads as it did. -/
def fnExactWhyChangedSpec : ChangeSpec := { name := "fnExactWhyChanged", fn := fun _ => fun
  | [d1, d2, d3, d4] => { results := [.lit (.bool true)], args := [d1, d2, d3, d4] }
  | _ => none }
def fnExactWhyChangedRow : OpenClaim := { program := "ytlliomnfbgdpfaa", sum := "d94db2a14adde1ced33d425dd47e771f269929af59f885ceb2d21f80b51e4e8b", func := "loop.example/signalgraph/laws.FnExactWhyChanged", spec := "fnExactWhyChanged", unfollowed := true, recurses := true, apart := false }
def FnExactWhyChangedSaid : Prop := fnExactWhyChangedRow.holds Try.pinned (OpenSpec.ofChange fnExactWhyChangedSpec)

/-- ITS FALSE NEIGHBOUR: 'it returns false'. Refute it at one input. -/
def fnExactWhyChangedWrong : ChangeSpec := { name := "fnExactWhyChanged", fn := fun _ => fun
  | [d1, d2, d3, d4] => { results := [.lit (.bool false)], args := [d1, d2, d3, d4] }
  | _ => none }
def FnExactWhyChangedWrongFalsely : Prop := fnExactWhyChangedRow.holds Try.pinned (OpenSpec.ofChange fnExactWhyChangedWrong)

/- THE SECOND FORM. 'bulk': how many values and letters a reading holds, each counted each time it is reached (what is shared counts as often as it is met; a slice's spare places count too). A statement '..UptoSaid' is the law's where the arguments, and the package variables that the reading takes, are together of bulk at most 1048576: NARROWER than '..Said'. Prove '..Said' where nothing that the law and all that it calls make is longer than what came in: it says more and counts as full. Else prove '..UptoSaid'. A law counts once. -/
mutual
def uptoBulk {H : Type} : DataW H → Nat
  | .lit (.string bytes) => bytes.length + 1
  | .lit _ => 1
  | .nil => 1
  | .ptr d => uptoBulk d + 1
  | .slice elems spare => uptoBulkAll elems + uptoBulkAll spare + 1
  | .agg parts => uptoBulkAll parts + 1
  | .iface _ d => uptoBulk d + 1
  | .map entries => uptoBulkEntries entries + 1
  | .held _ => 1
def uptoBulkAll {H : Type} : List (DataW H) → Nat
  | [] => 0
  | d :: r => uptoBulk d + uptoBulkAll r
def uptoBulkEntries {H : Type} : List (Lit × DataW H) → Nat
  | [] => 0
  | x :: r => uptoBulkEntry x + uptoBulkEntries r
def uptoBulkEntry {H : Type} : Lit × DataW H → Nat
  | (.string bytes, d) => bytes.length + uptoBulk d + 1
  | (_, d) => uptoBulk d + 1
 end
def uptoSmall : (H : Type) → List (DataW H) → Bool := fun _ ds => decide (uptoBulkAll ds ≤ 1048576)
def OpenSpec.upto (s : _root_.Go.ChangeSpec) : _root_.Go.OpenSpec := { _root_.Go.OpenSpec.ofChange s with cond := some uptoSmall }

/-- 'laws.FnExactValidHistory', WHERE WHAT IT READS IS OF BULK AT MOST 1048576: true; the input reads as it did. -/
def fnExactValidHistoryUptoRow : OpenClaim := { program := "ytlliomnfbgdpfaa", sum := "d94db2a14adde1ced33d425dd47e771f269929af59f885ceb2d21f80b51e4e8b", func := "loop.example/signalgraph/laws.FnExactValidHistory", spec := "fnExactValidHistory", apart := false, narrowed := true }
def FnExactValidHistoryUptoSaid : Prop := fnExactValidHistoryUptoRow.holds Try.pinned (OpenSpec.upto fnExactValidHistorySpec)

/-- 'laws.FnExactNewHistory', WHERE WHAT IT READS IS OF BULK AT MOST 1048576: true; the input reads as it did. -/
def fnExactNewHistoryUptoRow : OpenClaim := { program := "ytlliomnfbgdpfaa", sum := "d94db2a14adde1ced33d425dd47e771f269929af59f885ceb2d21f80b51e4e8b", func := "loop.example/signalgraph/laws.FnExactNewHistory", spec := "fnExactNewHistory", apart := false, narrowed := true }
def FnExactNewHistoryUptoSaid : Prop := fnExactNewHistoryUptoRow.holds Try.pinned (OpenSpec.upto fnExactNewHistorySpec)

/-- 'laws.FnExactCommitCells', WHERE WHAT IT READS IS OF BULK AT MOST 1048576: true; the input reads as it did. -/
def fnExactCommitCellsUptoRow : OpenClaim := { program := "ytlliomnfbgdpfaa", sum := "d94db2a14adde1ced33d425dd47e771f269929af59f885ceb2d21f80b51e4e8b", func := "loop.example/signalgraph/laws.FnExactCommitCells", spec := "fnExactCommitCells", apart := false, narrowed := true }
def FnExactCommitCellsUptoSaid : Prop := fnExactCommitCellsUptoRow.holds Try.pinned (OpenSpec.upto fnExactCommitCellsSpec)

/-- 'laws.FnExactMoveHistory', WHERE WHAT IT READS IS OF BULK AT MOST 1048576: true; the input reads as it did. -/
def fnExactMoveHistoryUptoRow : OpenClaim := { program := "ytlliomnfbgdpfaa", sum := "d94db2a14adde1ced33d425dd47e771f269929af59f885ceb2d21f80b51e4e8b", func := "loop.example/signalgraph/laws.FnExactMoveHistory", spec := "fnExactMoveHistory", unfollowed := true, recurses := true, apart := false, narrowed := true }
def FnExactMoveHistoryUptoSaid : Prop := fnExactMoveHistoryUptoRow.holds Try.pinned (OpenSpec.upto fnExactMoveHistorySpec)

/-- 'laws.FnExactWhyChanged', WHERE WHAT IT READS IS OF BULK AT MOST 1048576: true; the input reads as it did. -/
def fnExactWhyChangedUptoRow : OpenClaim := { program := "ytlliomnfbgdpfaa", sum := "d94db2a14adde1ced33d425dd47e771f269929af59f885ceb2d21f80b51e4e8b", func := "loop.example/signalgraph/laws.FnExactWhyChanged", spec := "fnExactWhyChanged", unfollowed := true, recurses := true, apart := false, narrowed := true }
def FnExactWhyChangedUptoSaid : Prop := fnExactWhyChangedUptoRow.holds Try.pinned (OpenSpec.upto fnExactWhyChangedSpec)

end Rows
end Go.Proofs.Ytlliomnfbgdpfaa
