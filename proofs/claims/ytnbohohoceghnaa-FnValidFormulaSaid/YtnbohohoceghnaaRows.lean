/-
  No cell of these rows narrows 'for every input' (looked for: loops, veiled, ifaces, maps, wideKeys, modest, calm, conditions, laid).
  DERIVED. THE GIVEN ROWS OF THIS SEAT. 8 by the template 'for every input the law returns true; each argument reads behind the call as it read before'; 0 by the template 'total and deterministic' (their statements: YtnbohohoceghnaaTotals.lean).
  GIVEN WITH THE SEED: the statements are not yours to turn. If you find one false, say at which input.
  Laid BY PROGRAM, IN A SANDBOX (cutbox-rows.mjs): the forced cells as the released guide's own fill.sh prints them over the translation 1951f894a71fdc00… (all of the seat's roots in one cut). By AI agents, Wed Nov 11 2026. No macro, syntax, notation, axiom, sorry.
-/
import Derived.Test.YtnbohohoceghnaaChecked
import GoSem.Claim
import GoSem.ClaimJoined
import GoSem.ClaimMapViews
import Derived.JoinedTies
import Derived.KernelRfl
namespace Go.Proofs.Ytnbohohoceghnaa
/- THE CELL 'sum', in the pinned program and in every row, IS THE sha256 OF THE DUMP (.gsa) THAT YtnbohohoceghnaaProg.lean LOADS. Nothing in Lean hashes anything: it is a label: what it is worth is what the hold of that sum in a sandbox is worth. -/
noncomputable def Try.pinned : Pinned := { name := "ytnbohohoceghnaa", sum := "1951f894a71fdc004bf83e7b3927acf5519fc4befac7f127c30ff001ff61a786", checked := Try.checked }
namespace Rows
def none {H : Type} : Left H := { results := [], args := [] }

/-- 'laws.FnReadsOf': WHATEVER THE INPUT: true; the input reads as it did. -/
def fnReadsOfSpec : ChangeSpec := { name := "fnReadsOf", fn := fun _ => fun
  | [d] => { results := [.lit (.bool true)], args := [d] }
  | _ => none }
def fnReadsOfRow : OpenClaim := { program := "ytnbohohoceghnaa", sum := "1951f894a71fdc004bf83e7b3927acf5519fc4befac7f127c30ff001ff61a786", func := "loop.example/signalgraph/laws.FnReadsOf", spec := "fnReadsOf", unfollowed := true, recurses := true, apart := false }
def FnReadsOfSaid : Prop := fnReadsOfRow.holds Try.pinned (OpenSpec.ofChange fnReadsOfSpec)

/-- ITS FALSE NEIGHBOUR: 'it returns false'. Refute it at one input. -/
def fnReadsOfWrong : ChangeSpec := { name := "fnReadsOf", fn := fun _ => fun
  | [d] => { results := [.lit (.bool false)], args := [d] }
  | _ => none }
def FnReadsOfWrongFalsely : Prop := fnReadsOfRow.holds Try.pinned (OpenSpec.ofChange fnReadsOfWrong)

/-- 'laws.FnReadsWhole': WHATEVER THE INPUT: true; the input reads as it did. -/
def fnReadsWholeSpec : ChangeSpec := { name := "fnReadsWhole", fn := fun _ => fun
  | [d] => { results := [.lit (.bool true)], args := [d] }
  | _ => none }
def fnReadsWholeRow : OpenClaim := { program := "ytnbohohoceghnaa", sum := "1951f894a71fdc004bf83e7b3927acf5519fc4befac7f127c30ff001ff61a786", func := "loop.example/signalgraph/laws.FnReadsWhole", spec := "fnReadsWhole", unfollowed := true, recurses := true, apart := false }
def FnReadsWholeSaid : Prop := fnReadsWholeRow.holds Try.pinned (OpenSpec.ofChange fnReadsWholeSpec)

/-- ITS FALSE NEIGHBOUR: 'it returns false'. Refute it at one input. -/
def fnReadsWholeWrong : ChangeSpec := { name := "fnReadsWhole", fn := fun _ => fun
  | [d] => { results := [.lit (.bool false)], args := [d] }
  | _ => none }
def FnReadsWholeWrongFalsely : Prop := fnReadsWholeRow.holds Try.pinned (OpenSpec.ofChange fnReadsWholeWrong)

/-- 'laws.FnValueOf': WHATEVER THE INPUT: true; the input reads as it did. -/
def fnValueOfSpec : ChangeSpec := { name := "fnValueOf", fn := fun _ => fun
  | [d] => { results := [.lit (.bool true)], args := [d] }
  | _ => none }
def fnValueOfRow : OpenClaim := { program := "ytnbohohoceghnaa", sum := "1951f894a71fdc004bf83e7b3927acf5519fc4befac7f127c30ff001ff61a786", func := "loop.example/signalgraph/laws.FnValueOf", spec := "fnValueOf", unfollowed := true, recurses := true, apart := false }
def FnValueOfSaid : Prop := fnValueOfRow.holds Try.pinned (OpenSpec.ofChange fnValueOfSpec)

/-- ITS FALSE NEIGHBOUR: 'it returns false'. Refute it at one input. -/
def fnValueOfWrong : ChangeSpec := { name := "fnValueOf", fn := fun _ => fun
  | [d] => { results := [.lit (.bool false)], args := [d] }
  | _ => none }
def FnValueOfWrongFalsely : Prop := fnValueOfRow.holds Try.pinned (OpenSpec.ofChange fnValueOfWrong)

/-- 'laws.FnMayRead': WHATEVER THE INPUT: true; the input reads as it did. -/
def fnMayReadSpec : ChangeSpec := { name := "fnMayRead", fn := fun _ => fun
  | [d] => { results := [.lit (.bool true)], args := [d] }
  | _ => none }
def fnMayReadRow : OpenClaim := { program := "ytnbohohoceghnaa", sum := "1951f894a71fdc004bf83e7b3927acf5519fc4befac7f127c30ff001ff61a786", func := "loop.example/signalgraph/laws.FnMayRead", spec := "fnMayRead", apart := false }
def FnMayReadSaid : Prop := fnMayReadRow.holds Try.pinned (OpenSpec.ofChange fnMayReadSpec)

/-- ITS FALSE NEIGHBOUR: 'it returns false'. Refute it at one input. -/
def fnMayReadWrong : ChangeSpec := { name := "fnMayRead", fn := fun _ => fun
  | [d] => { results := [.lit (.bool false)], args := [d] }
  | _ => none }
def FnMayReadWrongFalsely : Prop := fnMayReadRow.holds Try.pinned (OpenSpec.ofChange fnMayReadWrong)

/-- 'laws.FnValidFormula': WHATEVER THE INPUT: true; the input reads as it did. -/
def fnValidFormulaSpec : ChangeSpec := { name := "fnValidFormula", fn := fun _ => fun
  | [d] => { results := [.lit (.bool true)], args := [d] }
  | _ => none }
def fnValidFormulaRow : OpenClaim := { program := "ytnbohohoceghnaa", sum := "1951f894a71fdc004bf83e7b3927acf5519fc4befac7f127c30ff001ff61a786", func := "loop.example/signalgraph/laws.FnValidFormula", spec := "fnValidFormula", unfollowed := true, recurses := true, apart := false }
def FnValidFormulaSaid : Prop := fnValidFormulaRow.holds Try.pinned (OpenSpec.ofChange fnValidFormulaSpec)

/-- ITS FALSE NEIGHBOUR: 'it returns false'. Refute it at one input. -/
def fnValidFormulaWrong : ChangeSpec := { name := "fnValidFormula", fn := fun _ => fun
  | [d] => { results := [.lit (.bool false)], args := [d] }
  | _ => none }
def FnValidFormulaWrongFalsely : Prop := fnValidFormulaRow.holds Try.pinned (OpenSpec.ofChange fnValidFormulaWrong)

/-- 'laws.FnDeepOf': WHATEVER THE INPUT: true; the input reads as it did. -/
def fnDeepOfSpec : ChangeSpec := { name := "fnDeepOf", fn := fun _ => fun
  | [d] => { results := [.lit (.bool true)], args := [d] }
  | _ => none }
def fnDeepOfRow : OpenClaim := { program := "ytnbohohoceghnaa", sum := "1951f894a71fdc004bf83e7b3927acf5519fc4befac7f127c30ff001ff61a786", func := "loop.example/signalgraph/laws.FnDeepOf", spec := "fnDeepOf", unfollowed := true, recurses := true, apart := false }
def FnDeepOfSaid : Prop := fnDeepOfRow.holds Try.pinned (OpenSpec.ofChange fnDeepOfSpec)

/-- ITS FALSE NEIGHBOUR: 'it returns false'. Refute it at one input. -/
def fnDeepOfWrong : ChangeSpec := { name := "fnDeepOf", fn := fun _ => fun
  | [d] => { results := [.lit (.bool false)], args := [d] }
  | _ => none }
def FnDeepOfWrongFalsely : Prop := fnDeepOfRow.holds Try.pinned (OpenSpec.ofChange fnDeepOfWrong)

/-- 'laws.FnOrderParts': WHATEVER THE INPUT: true; the input reads as it did. -/
def fnOrderPartsSpec : ChangeSpec := { name := "fnOrderParts", fn := fun _ => fun
  | [d] => { results := [.lit (.bool true)], args := [d] }
  | _ => none }
def fnOrderPartsRow : OpenClaim := { program := "ytnbohohoceghnaa", sum := "1951f894a71fdc004bf83e7b3927acf5519fc4befac7f127c30ff001ff61a786", func := "loop.example/signalgraph/laws.FnOrderParts", spec := "fnOrderParts", unfollowed := true, recurses := true, apart := false }
def FnOrderPartsSaid : Prop := fnOrderPartsRow.holds Try.pinned (OpenSpec.ofChange fnOrderPartsSpec)

/-- ITS FALSE NEIGHBOUR: 'it returns false'. Refute it at one input. -/
def fnOrderPartsWrong : ChangeSpec := { name := "fnOrderParts", fn := fun _ => fun
  | [d] => { results := [.lit (.bool false)], args := [d] }
  | _ => none }
def FnOrderPartsWrongFalsely : Prop := fnOrderPartsRow.holds Try.pinned (OpenSpec.ofChange fnOrderPartsWrong)

/-- 'laws.FnRenameReads': WHATEVER THE INPUT: true; the input reads as it did. -/
def fnRenameReadsSpec : ChangeSpec := { name := "fnRenameReads", fn := fun _ => fun
  | [d] => { results := [.lit (.bool true)], args := [d] }
  | _ => none }
def fnRenameReadsRow : OpenClaim := { program := "ytnbohohoceghnaa", sum := "1951f894a71fdc004bf83e7b3927acf5519fc4befac7f127c30ff001ff61a786", func := "loop.example/signalgraph/laws.FnRenameReads", spec := "fnRenameReads", unfollowed := true, recurses := true, apart := false }
def FnRenameReadsSaid : Prop := fnRenameReadsRow.holds Try.pinned (OpenSpec.ofChange fnRenameReadsSpec)

/-- ITS FALSE NEIGHBOUR: 'it returns false'. Refute it at one input. -/
def fnRenameReadsWrong : ChangeSpec := { name := "fnRenameReads", fn := fun _ => fun
  | [d] => { results := [.lit (.bool false)], args := [d] }
  | _ => none }
def FnRenameReadsWrongFalsely : Prop := fnRenameReadsRow.holds Try.pinned (OpenSpec.ofChange fnRenameReadsWrong)

/- THE SECOND FORM. 'bulk': how many values and letters a reading holds, each counted each time it is reached (what is shared counts as often as it is met; a slice's spare places count too). A statement '..UptoSaid' is the law's where the arguments, and the package variables that the reading takes, are together of bulk at most 1048576: NARROWER than '..Said'. Prove '..Said' where nothing that the law and all that it calls make is longer than what came in: it says more and counts as full. Else prove '..UptoSaid'. A law counts once. -/
mutual
def uptoBulk {H : Type} : DataW H → Nat
  | .lit (.string bytes) => bytes.length + 1
  | .lit _ => 1
  | .nil => 1
  | .ptr d => uptoBulk d + 1
  | .slice elems spare => uptoBulkAll elems + uptoBulkAll spare + 1
  | .agg parts => uptoBulkAll parts + 1
  | .iface _ d => uptoBulk d + 1
  | .map entries => uptoBulkEntries entries + 1
  | .held _ => 1
def uptoBulkAll {H : Type} : List (DataW H) → Nat
  | [] => 0
  | d :: r => uptoBulk d + uptoBulkAll r
def uptoBulkEntries {H : Type} : List (Lit × DataW H) → Nat
  | [] => 0
  | x :: r => uptoBulkEntry x + uptoBulkEntries r
def uptoBulkEntry {H : Type} : Lit × DataW H → Nat
  | (.string bytes, d) => bytes.length + uptoBulk d + 1
  | (_, d) => uptoBulk d + 1
 end
def uptoSmall : (H : Type) → List (DataW H) → Bool := fun _ ds => decide (uptoBulkAll ds ≤ 1048576)
def OpenSpec.upto (s : _root_.Go.ChangeSpec) : _root_.Go.OpenSpec := { _root_.Go.OpenSpec.ofChange s with cond := some uptoSmall }

/-- 'laws.FnReadsOf', WHERE WHAT IT READS IS OF BULK AT MOST 1048576: true; the input reads as it did. -/
def fnReadsOfUptoRow : OpenClaim := { program := "ytnbohohoceghnaa", sum := "1951f894a71fdc004bf83e7b3927acf5519fc4befac7f127c30ff001ff61a786", func := "loop.example/signalgraph/laws.FnReadsOf", spec := "fnReadsOf", unfollowed := true, recurses := true, apart := false, narrowed := true }
def FnReadsOfUptoSaid : Prop := fnReadsOfUptoRow.holds Try.pinned (OpenSpec.upto fnReadsOfSpec)

/-- 'laws.FnReadsWhole', WHERE WHAT IT READS IS OF BULK AT MOST 1048576: true; the input reads as it did. -/
def fnReadsWholeUptoRow : OpenClaim := { program := "ytnbohohoceghnaa", sum := "1951f894a71fdc004bf83e7b3927acf5519fc4befac7f127c30ff001ff61a786", func := "loop.example/signalgraph/laws.FnReadsWhole", spec := "fnReadsWhole", unfollowed := true, recurses := true, apart := false, narrowed := true }
def FnReadsWholeUptoSaid : Prop := fnReadsWholeUptoRow.holds Try.pinned (OpenSpec.upto fnReadsWholeSpec)

/-- 'laws.FnValueOf', WHERE WHAT IT READS IS OF BULK AT MOST 1048576: true; the input reads as it did. -/
def fnValueOfUptoRow : OpenClaim := { program := "ytnbohohoceghnaa", sum := "1951f894a71fdc004bf83e7b3927acf5519fc4befac7f127c30ff001ff61a786", func := "loop.example/signalgraph/laws.FnValueOf", spec := "fnValueOf", unfollowed := true, recurses := true, apart := false, narrowed := true }
def FnValueOfUptoSaid : Prop := fnValueOfUptoRow.holds Try.pinned (OpenSpec.upto fnValueOfSpec)

/-- 'laws.FnMayRead', WHERE WHAT IT READS IS OF BULK AT MOST 1048576: true; the input reads as it did. -/
def fnMayReadUptoRow : OpenClaim := { program := "ytnbohohoceghnaa", sum := "1951f894a71fdc004bf83e7b3927acf5519fc4befac7f127c30ff001ff61a786", func := "loop.example/signalgraph/laws.FnMayRead", spec := "fnMayRead", apart := false, narrowed := true }
def FnMayReadUptoSaid : Prop := fnMayReadUptoRow.holds Try.pinned (OpenSpec.upto fnMayReadSpec)

/-- 'laws.FnValidFormula', WHERE WHAT IT READS IS OF BULK AT MOST 1048576: true; the input reads as it did. -/
def fnValidFormulaUptoRow : OpenClaim := { program := "ytnbohohoceghnaa", sum := "1951f894a71fdc004bf83e7b3927acf5519fc4befac7f127c30ff001ff61a786", func := "loop.example/signalgraph/laws.FnValidFormula", spec := "fnValidFormula", unfollowed := true, recurses := true, apart := false, narrowed := true }
def FnValidFormulaUptoSaid : Prop := fnValidFormulaUptoRow.holds Try.pinned (OpenSpec.upto fnValidFormulaSpec)

/-- 'laws.FnDeepOf', WHERE WHAT IT READS IS OF BULK AT MOST 1048576: true; the input reads as it did. -/
def fnDeepOfUptoRow : OpenClaim := { program := "ytnbohohoceghnaa", sum := "1951f894a71fdc004bf83e7b3927acf5519fc4befac7f127c30ff001ff61a786", func := "loop.example/signalgraph/laws.FnDeepOf", spec := "fnDeepOf", unfollowed := true, recurses := true, apart := false, narrowed := true }
def FnDeepOfUptoSaid : Prop := fnDeepOfUptoRow.holds Try.pinned (OpenSpec.upto fnDeepOfSpec)

/-- 'laws.FnOrderParts', WHERE WHAT IT READS IS OF BULK AT MOST 1048576: true; the input reads as it did. -/
def fnOrderPartsUptoRow : OpenClaim := { program := "ytnbohohoceghnaa", sum := "1951f894a71fdc004bf83e7b3927acf5519fc4befac7f127c30ff001ff61a786", func := "loop.example/signalgraph/laws.FnOrderParts", spec := "fnOrderParts", unfollowed := true, recurses := true, apart := false, narrowed := true }
def FnOrderPartsUptoSaid : Prop := fnOrderPartsUptoRow.holds Try.pinned (OpenSpec.upto fnOrderPartsSpec)

/-- 'laws.FnRenameReads', WHERE WHAT IT READS IS OF BULK AT MOST 1048576: true; the input reads as it did. -/
def fnRenameReadsUptoRow : OpenClaim := { program := "ytnbohohoceghnaa", sum := "1951f894a71fdc004bf83e7b3927acf5519fc4befac7f127c30ff001ff61a786", func := "loop.example/signalgraph/laws.FnRenameReads", spec := "fnRenameReads", unfollowed := true, recurses := true, apart := false, narrowed := true }
def FnRenameReadsUptoSaid : Prop := fnRenameReadsUptoRow.holds Try.pinned (OpenSpec.upto fnRenameReadsSpec)

end Rows
end Go.Proofs.Ytnbohohoceghnaa
