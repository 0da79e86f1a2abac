/-
  No cell of these rows narrows 'for every input' (looked for: loops, veiled, ifaces, maps, wideKeys, modest, calm, conditions, laid).
  DERIVED. THE GIVEN ROWS OF THIS SEAT. 9 by the template 'for every input the law returns true; each argument reads behind the call as it read before'; 0 by the template 'total and deterministic' (their statements: YtgbijmfmdcphhaaTotals.lean).
  GIVEN WITH THE SEED: the statements are not yours to turn. If you find one false, say at which input.
  Laid BY PROGRAM, IN A SANDBOX (cutbox-rows.mjs): the forced cells as the released guide's own fill.sh prints them over the translation ce4abc00ffcd80a5… (all of the seat's roots in one cut). By AI agents, Wed Nov 11 2026. No macro, syntax, notation, axiom, sorry.
-/
import Derived.Test.YtgbijmfmdcphhaaChecked
import GoSem.Claim
import GoSem.ClaimJoined
import GoSem.ClaimMapViews
import Derived.JoinedTies
import Derived.KernelRfl
namespace Go.Proofs.Ytgbijmfmdcphhaa
/- THE CELL 'sum', in the pinned program and in every row, IS THE sha256 OF THE DUMP (.gsa) THAT YtgbijmfmdcphhaaProg.lean LOADS. Nothing in Lean hashes anything: it is a label: what it is worth is what the hold of that sum in a sandbox is worth. -/
noncomputable def Try.pinned : Pinned := { name := "ytgbijmfmdcphhaa", sum := "ce4abc00ffcd80a527022096ce2129b00d4e16503c6283a902b6e1a91d3f838a", checked := Try.checked }
namespace Rows
def none {H : Type} : Left H := { results := [], args := [] }

/-- 'laws.FnOrderParts': WHATEVER THE INPUT: true; the input reads as it did. -/
def fnOrderPartsSpec : ChangeSpec := { name := "fnOrderParts", fn := fun _ => fun
  | [d] => { results := [.lit (.bool true)], args := [d] }
  | _ => none }
def fnOrderPartsRow : OpenClaim := { program := "ytgbijmfmdcphhaa", sum := "ce4abc00ffcd80a527022096ce2129b00d4e16503c6283a902b6e1a91d3f838a", func := "loop.example/signalgraph/laws.FnOrderParts", spec := "fnOrderParts", unfollowed := true, recurses := true, apart := false }
def FnOrderPartsSaid : Prop := fnOrderPartsRow.holds Try.pinned (OpenSpec.ofChange fnOrderPartsSpec)

/-- ITS FALSE NEIGHBOUR: 'it returns false'. Refute it at one input. -/
def fnOrderPartsWrong : ChangeSpec := { name := "fnOrderParts", fn := fun _ => fun
  | [d] => { results := [.lit (.bool false)], args := [d] }
  | _ => none }
def FnOrderPartsWrongFalsely : Prop := fnOrderPartsRow.holds Try.pinned (OpenSpec.ofChange fnOrderPartsWrong)

/-- 'laws.FnRenameReads': WHATEVER THE INPUT: true; the input reads as it did. -/
def fnRenameReadsSpec : ChangeSpec := { name := "fnRenameReads", fn := fun _ => fun
  | [d] => { results := [.lit (.bool true)], args := [d] }
  | _ => none }
def fnRenameReadsRow : OpenClaim := { program := "ytgbijmfmdcphhaa", sum := "ce4abc00ffcd80a527022096ce2129b00d4e16503c6283a902b6e1a91d3f838a", func := "loop.example/signalgraph/laws.FnRenameReads", spec := "fnRenameReads", unfollowed := true, recurses := true, apart := false }
def FnRenameReadsSaid : Prop := fnRenameReadsRow.holds Try.pinned (OpenSpec.ofChange fnRenameReadsSpec)

/-- ITS FALSE NEIGHBOUR: 'it returns false'. Refute it at one input. -/
def fnRenameReadsWrong : ChangeSpec := { name := "fnRenameReads", fn := fun _ => fun
  | [d] => { results := [.lit (.bool false)], args := [d] }
  | _ => none }
def FnRenameReadsWrongFalsely : Prop := fnRenameReadsRow.holds Try.pinned (OpenSpec.ofChange fnRenameReadsWrong)

/-- 'laws.FnValidGraph': WHATEVER THE INPUT: true; the input reads as it did. -/
def fnValidGraphSpec : ChangeSpec := { name := "fnValidGraph", fn := fun _ => fun
  | [d] => { results := [.lit (.bool true)], args := [d] }
  | _ => none }
def fnValidGraphRow : OpenClaim := { program := "ytgbijmfmdcphhaa", sum := "ce4abc00ffcd80a527022096ce2129b00d4e16503c6283a902b6e1a91d3f838a", func := "loop.example/signalgraph/laws.FnValidGraph", spec := "fnValidGraph", apart := false }
def FnValidGraphSaid : Prop := fnValidGraphRow.holds Try.pinned (OpenSpec.ofChange fnValidGraphSpec)

/-- ITS FALSE NEIGHBOUR: 'it returns false'. Refute it at one input. -/
def fnValidGraphWrong : ChangeSpec := { name := "fnValidGraph", fn := fun _ => fun
  | [d] => { results := [.lit (.bool false)], args := [d] }
  | _ => none }
def FnValidGraphWrongFalsely : Prop := fnValidGraphRow.holds Try.pinned (OpenSpec.ofChange fnValidGraphWrong)

/-- 'laws.FnValidCells': WHATEVER THE INPUT: true; the input reads as it did. -/
def fnValidCellsSpec : ChangeSpec := { name := "fnValidCells", fn := fun _ => fun
  | [d] => { results := [.lit (.bool true)], args := [d] }
  | _ => none }
def fnValidCellsRow : OpenClaim := { program := "ytgbijmfmdcphhaa", sum := "ce4abc00ffcd80a527022096ce2129b00d4e16503c6283a902b6e1a91d3f838a", func := "loop.example/signalgraph/laws.FnValidCells", spec := "fnValidCells", apart := false }
def FnValidCellsSaid : Prop := fnValidCellsRow.holds Try.pinned (OpenSpec.ofChange fnValidCellsSpec)

/-- ITS FALSE NEIGHBOUR: 'it returns false'. Refute it at one input. -/
def fnValidCellsWrong : ChangeSpec := { name := "fnValidCells", fn := fun _ => fun
  | [d] => { results := [.lit (.bool false)], args := [d] }
  | _ => none }
def FnValidCellsWrongFalsely : Prop := fnValidCellsRow.holds Try.pinned (OpenSpec.ofChange fnValidCellsWrong)

/-- 'laws.FnMeaningOf': WHATEVER THE INPUT: true; the input reads as it did. -/
def fnMeaningOfSpec : ChangeSpec := { name := "fnMeaningOf", fn := fun _ => fun
  | [d] => { results := [.lit (.bool true)], args := [d] }
  | _ => none }
def fnMeaningOfRow : OpenClaim := { program := "ytgbijmfmdcphhaa", sum := "ce4abc00ffcd80a527022096ce2129b00d4e16503c6283a902b6e1a91d3f838a", func := "loop.example/signalgraph/laws.FnMeaningOf", spec := "fnMeaningOf", unfollowed := true, recurses := true, apart := false }
def FnMeaningOfSaid : Prop := fnMeaningOfRow.holds Try.pinned (OpenSpec.ofChange fnMeaningOfSpec)

/-- ITS FALSE NEIGHBOUR: 'it returns false'. Refute it at one input. -/
def fnMeaningOfWrong : ChangeSpec := { name := "fnMeaningOf", fn := fun _ => fun
  | [d] => { results := [.lit (.bool false)], args := [d] }
  | _ => none }
def FnMeaningOfWrongFalsely : Prop := fnMeaningOfRow.holds Try.pinned (OpenSpec.ofChange fnMeaningOfWrong)

/-- 'laws.FnHeightsOf': WHATEVER THE INPUT: true; the input reads as it did. -/
def fnHeightsOfSpec : ChangeSpec := { name := "fnHeightsOf", fn := fun _ => fun
  | [d] => { results := [.lit (.bool true)], args := [d] }
  | _ => none }
def fnHeightsOfRow : OpenClaim := { program := "ytgbijmfmdcphhaa", sum := "ce4abc00ffcd80a527022096ce2129b00d4e16503c6283a902b6e1a91d3f838a", func := "loop.example/signalgraph/laws.FnHeightsOf", spec := "fnHeightsOf", unfollowed := true, recurses := true, apart := false }
def FnHeightsOfSaid : Prop := fnHeightsOfRow.holds Try.pinned (OpenSpec.ofChange fnHeightsOfSpec)

/-- ITS FALSE NEIGHBOUR: 'it returns false'. Refute it at one input. -/
def fnHeightsOfWrong : ChangeSpec := { name := "fnHeightsOf", fn := fun _ => fun
  | [d] => { results := [.lit (.bool false)], args := [d] }
  | _ => none }
def FnHeightsOfWrongFalsely : Prop := fnHeightsOfRow.holds Try.pinned (OpenSpec.ofChange fnHeightsOfWrong)

/-- 'laws.FnDepsOf': WHATEVER THE INPUT: true; the input reads as it did. -/
def fnDepsOfSpec : ChangeSpec := { name := "fnDepsOf", fn := fun _ => fun
  | [d] => { results := [.lit (.bool true)], args := [d] }
  | _ => none }
def fnDepsOfRow : OpenClaim := { program := "ytgbijmfmdcphhaa", sum := "ce4abc00ffcd80a527022096ce2129b00d4e16503c6283a902b6e1a91d3f838a", func := "loop.example/signalgraph/laws.FnDepsOf", spec := "fnDepsOf", unfollowed := true, recurses := true, apart := false }
def FnDepsOfSaid : Prop := fnDepsOfRow.holds Try.pinned (OpenSpec.ofChange fnDepsOfSpec)

/-- ITS FALSE NEIGHBOUR: 'it returns false'. Refute it at one input. -/
def fnDepsOfWrong : ChangeSpec := { name := "fnDepsOf", fn := fun _ => fun
  | [d] => { results := [.lit (.bool false)], args := [d] }
  | _ => none }
def FnDepsOfWrongFalsely : Prop := fnDepsOfRow.holds Try.pinned (OpenSpec.ofChange fnDepsOfWrong)

/-- 'laws.FnSetCell': WHATEVER THE INPUT: true; the input reads as it did. -/
def fnSetCellSpec : ChangeSpec := { name := "fnSetCell", fn := fun _ => fun
  | [d] => { results := [.lit (.bool true)], args := [d] }
  | _ => none }
def fnSetCellRow : OpenClaim := { program := "ytgbijmfmdcphhaa", sum := "ce4abc00ffcd80a527022096ce2129b00d4e16503c6283a902b6e1a91d3f838a", func := "loop.example/signalgraph/laws.FnSetCell", spec := "fnSetCell", apart := false }
def FnSetCellSaid : Prop := fnSetCellRow.holds Try.pinned (OpenSpec.ofChange fnSetCellSpec)

/-- ITS FALSE NEIGHBOUR: 'it returns false'. Refute it at one input. -/
def fnSetCellWrong : ChangeSpec := { name := "fnSetCell", fn := fun _ => fun
  | [d] => { results := [.lit (.bool false)], args := [d] }
  | _ => none }
def FnSetCellWrongFalsely : Prop := fnSetCellRow.holds Try.pinned (OpenSpec.ofChange fnSetCellWrong)

/-- 'laws.FnChangedBy': WHATEVER THE INPUT: true; the input reads as it did. -/
def fnChangedBySpec : ChangeSpec := { name := "fnChangedBy", fn := fun _ => fun
  | [d] => { results := [.lit (.bool true)], args := [d] }
  | _ => none }
def fnChangedByRow : OpenClaim := { program := "ytgbijmfmdcphhaa", sum := "ce4abc00ffcd80a527022096ce2129b00d4e16503c6283a902b6e1a91d3f838a", func := "loop.example/signalgraph/laws.FnChangedBy", spec := "fnChangedBy", unfollowed := true, recurses := true, apart := false }
def FnChangedBySaid : Prop := fnChangedByRow.holds Try.pinned (OpenSpec.ofChange fnChangedBySpec)

/-- ITS FALSE NEIGHBOUR: 'it returns false'. Refute it at one input. -/
def fnChangedByWrong : ChangeSpec := { name := "fnChangedBy", fn := fun _ => fun
  | [d] => { results := [.lit (.bool false)], args := [d] }
  | _ => none }
def FnChangedByWrongFalsely : Prop := fnChangedByRow.holds Try.pinned (OpenSpec.ofChange fnChangedByWrong)

/- THE SECOND FORM. 'bulk': how many values and letters a reading holds, each counted each time it is reached (what is shared counts as often as it is met; a slice's spare places count too). A statement '..UptoSaid' is the law's where the arguments, and the package variables that the reading takes, are together of bulk at most 1048576: NARROWER than '..Said'. Prove '..Said' where nothing that the law and all that it calls make is longer than what came in: it says more and counts as full. Else prove '..UptoSaid'. A law counts once. -/
mutual
def uptoBulk {H : Type} : DataW H → Nat
  | .lit (.string bytes) => bytes.length + 1
  | .lit _ => 1
  | .nil => 1
  | .ptr d => uptoBulk d + 1
  | .slice elems spare => uptoBulkAll elems + uptoBulkAll spare + 1
  | .agg parts => uptoBulkAll parts + 1
  | .iface _ d => uptoBulk d + 1
  | .map entries => uptoBulkEntries entries + 1
  | .held _ => 1
def uptoBulkAll {H : Type} : List (DataW H) → Nat
  | [] => 0
  | d :: r => uptoBulk d + uptoBulkAll r
def uptoBulkEntries {H : Type} : List (Lit × DataW H) → Nat
  | [] => 0
  | x :: r => uptoBulkEntry x + uptoBulkEntries r
def uptoBulkEntry {H : Type} : Lit × DataW H → Nat
  | (.string bytes, d) => bytes.length + uptoBulk d + 1
  | (_, d) => uptoBulk d + 1
 end
def uptoSmall : (H : Type) → List (DataW H) → Bool := fun _ ds => decide (uptoBulkAll ds ≤ 1048576)
def OpenSpec.upto (s : _root_.Go.ChangeSpec) : _root_.Go.OpenSpec := { _root_.Go.OpenSpec.ofChange s with cond := some uptoSmall }

/-- 'laws.FnOrderParts', WHERE WHAT IT READS IS OF BULK AT MOST 1048576: true; the input reads as it did. -/
def fnOrderPartsUptoRow : OpenClaim := { program := "ytgbijmfmdcphhaa", sum := "ce4abc00ffcd80a527022096ce2129b00d4e16503c6283a902b6e1a91d3f838a", func := "loop.example/signalgraph/laws.FnOrderParts", spec := "fnOrderParts", unfollowed := true, recurses := true, apart := false, narrowed := true }
def FnOrderPartsUptoSaid : Prop := fnOrderPartsUptoRow.holds Try.pinned (OpenSpec.upto fnOrderPartsSpec)

/-- 'laws.FnRenameReads', WHERE WHAT IT READS IS OF BULK AT MOST 1048576: true; the input reads as it did. -/
def fnRenameReadsUptoRow : OpenClaim := { program := "ytgbijmfmdcphhaa", sum := "ce4abc00ffcd80a527022096ce2129b00d4e16503c6283a902b6e1a91d3f838a", func := "loop.example/signalgraph/laws.FnRenameReads", spec := "fnRenameReads", unfollowed := true, recurses := true, apart := false, narrowed := true }
def FnRenameReadsUptoSaid : Prop := fnRenameReadsUptoRow.holds Try.pinned (OpenSpec.upto fnRenameReadsSpec)

/-- 'laws.FnValidGraph', WHERE WHAT IT READS IS OF BULK AT MOST 1048576: true; the input reads as it did. -/
def fnValidGraphUptoRow : OpenClaim := { program := "ytgbijmfmdcphhaa", sum := "ce4abc00ffcd80a527022096ce2129b00d4e16503c6283a902b6e1a91d3f838a", func := "loop.example/signalgraph/laws.FnValidGraph", spec := "fnValidGraph", apart := false, narrowed := true }
def FnValidGraphUptoSaid : Prop := fnValidGraphUptoRow.holds Try.pinned (OpenSpec.upto fnValidGraphSpec)

/-- 'laws.FnValidCells', WHERE WHAT IT READS IS OF BULK AT MOST 1048576: true; the input reads as it did. -/
def fnValidCellsUptoRow : OpenClaim := { program := "ytgbijmfmdcphhaa", sum := "ce4abc00ffcd80a527022096ce2129b00d4e16503c6283a902b6e1a91d3f838a", func := "loop.example/signalgraph/laws.FnValidCells", spec := "fnValidCells", apart := false, narrowed := true }
def FnValidCellsUptoSaid : Prop := fnValidCellsUptoRow.holds Try.pinned (OpenSpec.upto fnValidCellsSpec)

/-- 'laws.FnMeaningOf', WHERE WHAT IT READS IS OF BULK AT MOST 1048576: true; the input reads as it did. -/
def fnMeaningOfUptoRow : OpenClaim := { program := "ytgbijmfmdcphhaa", sum := "ce4abc00ffcd80a527022096ce2129b00d4e16503c6283a902b6e1a91d3f838a", func := "loop.example/signalgraph/laws.FnMeaningOf", spec := "fnMeaningOf", unfollowed := true, recurses := true, apart := false, narrowed := true }
def FnMeaningOfUptoSaid : Prop := fnMeaningOfUptoRow.holds Try.pinned (OpenSpec.upto fnMeaningOfSpec)

/-- 'laws.FnHeightsOf', WHERE WHAT IT READS IS OF BULK AT MOST 1048576: true; the input reads as it did. -/
def fnHeightsOfUptoRow : OpenClaim := { program := "ytgbijmfmdcphhaa", sum := "ce4abc00ffcd80a527022096ce2129b00d4e16503c6283a902b6e1a91d3f838a", func := "loop.example/signalgraph/laws.FnHeightsOf", spec := "fnHeightsOf", unfollowed := true, recurses := true, apart := false, narrowed := true }
def FnHeightsOfUptoSaid : Prop := fnHeightsOfUptoRow.holds Try.pinned (OpenSpec.upto fnHeightsOfSpec)

/-- 'laws.FnDepsOf', WHERE WHAT IT READS IS OF BULK AT MOST 1048576: true; the input reads as it did. -/
def fnDepsOfUptoRow : OpenClaim := { program := "ytgbijmfmdcphhaa", sum := "ce4abc00ffcd80a527022096ce2129b00d4e16503c6283a902b6e1a91d3f838a", func := "loop.example/signalgraph/laws.FnDepsOf", spec := "fnDepsOf", unfollowed := true, recurses := true, apart := false, narrowed := true }
def FnDepsOfUptoSaid : Prop := fnDepsOfUptoRow.holds Try.pinned (OpenSpec.upto fnDepsOfSpec)

/-- 'laws.FnSetCell', WHERE WHAT IT READS IS OF BULK AT MOST 1048576: true; the input reads as it did. -/
def fnSetCellUptoRow : OpenClaim := { program := "ytgbijmfmdcphhaa", sum := "ce4abc00ffcd80a527022096ce2129b00d4e16503c6283a902b6e1a91d3f838a", func := "loop.example/signalgraph/laws.FnSetCell", spec := "fnSetCell", apart := false, narrowed := true }
def FnSetCellUptoSaid : Prop := fnSetCellUptoRow.holds Try.pinned (OpenSpec.upto fnSetCellSpec)

/-- 'laws.FnChangedBy', WHERE WHAT IT READS IS OF BULK AT MOST 1048576: true; the input reads as it did. -/
def fnChangedByUptoRow : OpenClaim := { program := "ytgbijmfmdcphhaa", sum := "ce4abc00ffcd80a527022096ce2129b00d4e16503c6283a902b6e1a91d3f838a", func := "loop.example/signalgraph/laws.FnChangedBy", spec := "fnChangedBy", unfollowed := true, recurses := true, apart := false, narrowed := true }
def FnChangedByUptoSaid : Prop := fnChangedByUptoRow.holds Try.pinned (OpenSpec.upto fnChangedBySpec)

end Rows
end Go.Proofs.Ytgbijmfmdcphhaa
