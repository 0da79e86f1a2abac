/-
  No cell of these rows narrows 'for every input' (looked for: loops, veiled, ifaces, maps, wideKeys, modest, calm, conditions, laid).
  DERIVED. THE GIVEN ROWS OF THIS SEAT. 5 by the template 'for every input the law returns true; each argument reads behind the call as it read before'; 0 by the template 'total and deterministic' (their statements: YtfooafnfdeofoaaTotals.lean).
  GIVEN WITH THE SEED: the statements are not yours to turn. If you find one false, say at which input.
  Laid BY PROGRAM, IN A SANDBOX (cutbox-rows.mjs): the forced cells as the released guide's own fill.sh prints them over the translation 72a27a1850e9bc68… (all of the seat's roots in one cut). By AI agents, Wed Nov 11 2026. No macro, syntax, notation, axiom, sorry.
-/
import Derived.Test.YtfooafnfdeofoaaChecked
import GoSem.Claim
import GoSem.ClaimJoined
import GoSem.ClaimMapViews
import Derived.JoinedTies
import Derived.KernelRfl
namespace Go.Proofs.Ytfooafnfdeofoaa
/- THE CELL 'sum', in the pinned program and in every row, IS THE sha256 OF THE DUMP (.gsa) THAT YtfooafnfdeofoaaProg.lean LOADS. Nothing in Lean hashes anything: it is a label: what it is worth is what the hold of that sum in a sandbox is worth. -/
noncomputable def Try.pinned : Pinned := { name := "ytfooafnfdeofoaa", sum := "72a27a1850e9bc68d7607207017835de5f4a328adc6d2260728c12d866f74536", checked := Try.checked }
namespace Rows
def none {H : Type} : Left H := { results := [], args := [] }

/-- 'laws.FnValidHistory': WHATEVER THE INPUT: true; the input reads as it did. -/
def fnValidHistorySpec : ChangeSpec := { name := "fnValidHistory", fn := fun _ => fun
  | [d] => { results := [.lit (.bool true)], args := [d] }
  | _ => none }
def fnValidHistoryRow : OpenClaim := { program := "ytfooafnfdeofoaa", sum := "72a27a1850e9bc68d7607207017835de5f4a328adc6d2260728c12d866f74536", func := "loop.example/signalgraph/laws.FnValidHistory", spec := "fnValidHistory", apart := false }
def FnValidHistorySaid : Prop := fnValidHistoryRow.holds Try.pinned (OpenSpec.ofChange fnValidHistorySpec)

/-- ITS FALSE NEIGHBOUR: 'it returns false'. Refute it at one input. -/
def fnValidHistoryWrong : ChangeSpec := { name := "fnValidHistory", fn := fun _ => fun
  | [d] => { results := [.lit (.bool false)], args := [d] }
  | _ => none }
def FnValidHistoryWrongFalsely : Prop := fnValidHistoryRow.holds Try.pinned (OpenSpec.ofChange fnValidHistoryWrong)

/-- 'laws.FnNewHistory': WHATEVER THE INPUT: true; the input reads as it did. -/
def fnNewHistorySpec : ChangeSpec := { name := "fnNewHistory", fn := fun _ => fun
  | [d] => { results := [.lit (.bool true)], args := [d] }
  | _ => none }
def fnNewHistoryRow : OpenClaim := { program := "ytfooafnfdeofoaa", sum := "72a27a1850e9bc68d7607207017835de5f4a328adc6d2260728c12d866f74536", func := "loop.example/signalgraph/laws.FnNewHistory", spec := "fnNewHistory", unfollowed := true, recurses := true, apart := false }
def FnNewHistorySaid : Prop := fnNewHistoryRow.holds Try.pinned (OpenSpec.ofChange fnNewHistorySpec)

/-- ITS FALSE NEIGHBOUR: 'it returns false'. Refute it at one input. -/
def fnNewHistoryWrong : ChangeSpec := { name := "fnNewHistory", fn := fun _ => fun
  | [d] => { results := [.lit (.bool false)], args := [d] }
  | _ => none }
def FnNewHistoryWrongFalsely : Prop := fnNewHistoryRow.holds Try.pinned (OpenSpec.ofChange fnNewHistoryWrong)

/-- 'laws.FnCommitCells': WHATEVER THE INPUT: true; the input reads as it did. -/
def fnCommitCellsSpec : ChangeSpec := { name := "fnCommitCells", fn := fun _ => fun
  | [d] => { results := [.lit (.bool true)], args := [d] }
  | _ => none }
def fnCommitCellsRow : OpenClaim := { program := "ytfooafnfdeofoaa", sum := "72a27a1850e9bc68d7607207017835de5f4a328adc6d2260728c12d866f74536", func := "loop.example/signalgraph/laws.FnCommitCells", spec := "fnCommitCells", unfollowed := true, recurses := true, apart := false }
def FnCommitCellsSaid : Prop := fnCommitCellsRow.holds Try.pinned (OpenSpec.ofChange fnCommitCellsSpec)

/-- ITS FALSE NEIGHBOUR: 'it returns false'. Refute it at one input. -/
def fnCommitCellsWrong : ChangeSpec := { name := "fnCommitCells", fn := fun _ => fun
  | [d] => { results := [.lit (.bool false)], args := [d] }
  | _ => none }
def FnCommitCellsWrongFalsely : Prop := fnCommitCellsRow.holds Try.pinned (OpenSpec.ofChange fnCommitCellsWrong)

/-- 'laws.FnMoveHistory': WHATEVER THE INPUT: true; the input reads as it did. -/
def fnMoveHistorySpec : ChangeSpec := { name := "fnMoveHistory", fn := fun _ => fun
  | [d] => { results := [.lit (.bool true)], args := [d] }
  | _ => none }
def fnMoveHistoryRow : OpenClaim := { program := "ytfooafnfdeofoaa", sum := "72a27a1850e9bc68d7607207017835de5f4a328adc6d2260728c12d866f74536", func := "loop.example/signalgraph/laws.FnMoveHistory", spec := "fnMoveHistory", unfollowed := true, recurses := true, apart := false }
def FnMoveHistorySaid : Prop := fnMoveHistoryRow.holds Try.pinned (OpenSpec.ofChange fnMoveHistorySpec)

/-- ITS FALSE NEIGHBOUR: 'it returns false'. Refute it at one input. -/
def fnMoveHistoryWrong : ChangeSpec := { name := "fnMoveHistory", fn := fun _ => fun
  | [d] => { results := [.lit (.bool false)], args := [d] }
  | _ => none }
def FnMoveHistoryWrongFalsely : Prop := fnMoveHistoryRow.holds Try.pinned (OpenSpec.ofChange fnMoveHistoryWrong)

/-- 'laws.FnWhyChanged': WHATEVER THE INPUT: true; the input reads as it did. -/
def fnWhyChangedSpec : ChangeSpec := { name := "fnWhyChanged", fn := fun _ => fun
  | [d] => { results := [.lit (.bool true)], args := [d] }
  | _ => none }
def fnWhyChangedRow : OpenClaim := { program := "ytfooafnfdeofoaa", sum := "72a27a1850e9bc68d7607207017835de5f4a328adc6d2260728c12d866f74536", func := "loop.example/signalgraph/laws.FnWhyChanged", spec := "fnWhyChanged", unfollowed := true, recurses := true, apart := false }
def FnWhyChangedSaid : Prop := fnWhyChangedRow.holds Try.pinned (OpenSpec.ofChange fnWhyChangedSpec)

/-- ITS FALSE NEIGHBOUR: 'it returns false'. Refute it at one input. -/
def fnWhyChangedWrong : ChangeSpec := { name := "fnWhyChanged", fn := fun _ => fun
  | [d] => { results := [.lit (.bool false)], args := [d] }
  | _ => none }
def FnWhyChangedWrongFalsely : Prop := fnWhyChangedRow.holds Try.pinned (OpenSpec.ofChange fnWhyChangedWrong)

/- THE SECOND FORM. 'bulk': how many values and letters a reading holds, each counted each time it is reached (what is shared counts as often as it is met; a slice's spare places count too). A statement '..UptoSaid' is the law's where the arguments, and the package variables that the reading takes, are together of bulk at most 1048576: NARROWER than '..Said'. Prove '..Said' where nothing that the law and all that it calls make is longer than what came in: it says more and counts as full. Else prove '..UptoSaid'. A law counts once. -/
mutual
def uptoBulk {H : Type} : DataW H → Nat
  | .lit (.string bytes) => bytes.length + 1
  | .lit _ => 1
  | .nil => 1
  | .ptr d => uptoBulk d + 1
  | .slice elems spare => uptoBulkAll elems + uptoBulkAll spare + 1
  | .agg parts => uptoBulkAll parts + 1
  | .iface _ d => uptoBulk d + 1
  | .map entries => uptoBulkEntries entries + 1
  | .held _ => 1
def uptoBulkAll {H : Type} : List (DataW H) → Nat
  | [] => 0
  | d :: r => uptoBulk d + uptoBulkAll r
def uptoBulkEntries {H : Type} : List (Lit × DataW H) → Nat
  | [] => 0
  | x :: r => uptoBulkEntry x + uptoBulkEntries r
def uptoBulkEntry {H : Type} : Lit × DataW H → Nat
  | (.string bytes, d) => bytes.length + uptoBulk d + 1
  | (_, d) => uptoBulk d + 1
 end
def uptoSmall : (H : Type) → List (DataW H) → Bool := fun _ ds => decide (uptoBulkAll ds ≤ 1048576)
def OpenSpec.upto (s : _root_.Go.ChangeSpec) : _root_.Go.OpenSpec := { _root_.Go.OpenSpec.ofChange s with cond := some uptoSmall }

/-- 'laws.FnValidHistory', WHERE WHAT IT READS IS OF BULK AT MOST 1048576: true; the input reads as it did. -/
def fnValidHistoryUptoRow : OpenClaim := { program := "ytfooafnfdeofoaa", sum := "72a27a1850e9bc68d7607207017835de5f4a328adc6d2260728c12d866f74536", func := "loop.example/signalgraph/laws.FnValidHistory", spec := "fnValidHistory", apart := false, narrowed := true }
def FnValidHistoryUptoSaid : Prop := fnValidHistoryUptoRow.holds Try.pinned (OpenSpec.upto fnValidHistorySpec)

/-- 'laws.FnNewHistory', WHERE WHAT IT READS IS OF BULK AT MOST 1048576: true; the input reads as it did. -/
def fnNewHistoryUptoRow : OpenClaim := { program := "ytfooafnfdeofoaa", sum := "72a27a1850e9bc68d7607207017835de5f4a328adc6d2260728c12d866f74536", func := "loop.example/signalgraph/laws.FnNewHistory", spec := "fnNewHistory", unfollowed := true, recurses := true, apart := false, narrowed := true }
def FnNewHistoryUptoSaid : Prop := fnNewHistoryUptoRow.holds Try.pinned (OpenSpec.upto fnNewHistorySpec)

/-- 'laws.FnCommitCells', WHERE WHAT IT READS IS OF BULK AT MOST 1048576: true; the input reads as it did. -/
def fnCommitCellsUptoRow : OpenClaim := { program := "ytfooafnfdeofoaa", sum := "72a27a1850e9bc68d7607207017835de5f4a328adc6d2260728c12d866f74536", func := "loop.example/signalgraph/laws.FnCommitCells", spec := "fnCommitCells", unfollowed := true, recurses := true, apart := false, narrowed := true }
def FnCommitCellsUptoSaid : Prop := fnCommitCellsUptoRow.holds Try.pinned (OpenSpec.upto fnCommitCellsSpec)

/-- 'laws.FnMoveHistory', WHERE WHAT IT READS IS OF BULK AT MOST 1048576: true; the input reads as it did. -/
def fnMoveHistoryUptoRow : OpenClaim := { program := "ytfooafnfdeofoaa", sum := "72a27a1850e9bc68d7607207017835de5f4a328adc6d2260728c12d866f74536", func := "loop.example/signalgraph/laws.FnMoveHistory", spec := "fnMoveHistory", unfollowed := true, recurses := true, apart := false, narrowed := true }
def FnMoveHistoryUptoSaid : Prop := fnMoveHistoryUptoRow.holds Try.pinned (OpenSpec.upto fnMoveHistorySpec)

/-- 'laws.FnWhyChanged', WHERE WHAT IT READS IS OF BULK AT MOST 1048576: true; the input reads as it did. -/
def fnWhyChangedUptoRow : OpenClaim := { program := "ytfooafnfdeofoaa", sum := "72a27a1850e9bc68d7607207017835de5f4a328adc6d2260728c12d866f74536", func := "loop.example/signalgraph/laws.FnWhyChanged", spec := "fnWhyChanged", unfollowed := true, recurses := true, apart := false, narrowed := true }
def FnWhyChangedUptoSaid : Prop := fnWhyChangedUptoRow.holds Try.pinned (OpenSpec.upto fnWhyChangedSpec)

end Rows
end Go.Proofs.Ytfooafnfdeofoaa
