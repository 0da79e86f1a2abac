/-
  No cell of these rows narrows 'for every input' (looked for: loops, veiled, ifaces, maps, wideKeys, modest, calm, conditions, laid).
  DERIVED. THE GIVEN ROWS OF THIS SEAT. 11 by the template 'for every input the law returns true; each argument reads behind the call as it read before'; 0 by the template 'total and deterministic' (their statements: YthephbppeiealaaTotals.lean).
  GIVEN WITH THE SEED: the statements are not yours to turn. If you find one false, say at which input.
  Laid BY PROGRAM, IN A SANDBOX (cutbox-rows.mjs): the forced cells as the released guide's own fill.sh prints them over the translation 217db6f32e8f27ad… (all of the seat's roots in one cut). By AI agents, Wed Nov 11 2026. No macro, syntax, notation, axiom, sorry.
-/
import Derived.Test.YthephbppeiealaaChecked
import GoSem.Claim
import GoSem.ClaimJoined
import GoSem.ClaimMapViews
import Derived.JoinedTies
import Derived.KernelRfl
namespace Go.Proofs.Ythephbppeiealaa
/- THE CELL 'sum', in the pinned program and in every row, IS THE sha256 OF THE DUMP (.gsa) THAT YthephbppeiealaaProg.lean LOADS. Nothing in Lean hashes anything: it is a label: what it is worth is what the hold of that sum in a sandbox is worth. -/
noncomputable def Try.pinned : Pinned := { name := "ythephbppeiealaa", sum := "217db6f32e8f27ad7266803601d689256d0bb27f810ed6a1ecca6dc87dfe3ccd", checked := Try.checked }
namespace Rows
def none {H : Type} : Left H := { results := [], args := [] }

/-- 'laws.FnExactValidEager': WHATEVER THE INPUT: true; the input reads as it did. -/
def fnExactValidEagerSpec : ChangeSpec := { name := "fnExactValidEager", fn := fun _ => fun
  | [d1, d2] => { results := [.lit (.bool true)], args := [d1, d2] }
  | _ => none }
def fnExactValidEagerRow : OpenClaim := { program := "ythephbppeiealaa", sum := "217db6f32e8f27ad7266803601d689256d0bb27f810ed6a1ecca6dc87dfe3ccd", func := "loop.example/signalgraph/laws.FnExactValidEager", spec := "fnExactValidEager", unfollowed := true, recurses := true, apart := false }
def FnExactValidEagerSaid : Prop := fnExactValidEagerRow.holds Try.pinned (OpenSpec.ofChange fnExactValidEagerSpec)

/-- ITS FALSE NEIGHBOUR: 'it returns false'. Refute it at one input. -/
def fnExactValidEagerWrong : ChangeSpec := { name := "fnExactValidEager", fn := fun _ => fun
  | [d1, d2] => { results := [.lit (.bool false)], args := [d1, d2] }
  | _ => none }
def FnExactValidEagerWrongFalsely : Prop := fnExactValidEagerRow.holds Try.pinned (OpenSpec.ofChange fnExactValidEagerWrong)

/-- 'laws.FnExactStartEager': WHATEVER THE INPUT: true; the input reads as it did. -/
def fnExactStartEagerSpec : ChangeSpec := { name := "fnExactStartEager", fn := fun _ => fun
  | [d1, d2] => { results := [.lit (.bool true)], args := [d1, d2] }
  | _ => none }
def fnExactStartEagerRow : OpenClaim := { program := "ythephbppeiealaa", sum := "217db6f32e8f27ad7266803601d689256d0bb27f810ed6a1ecca6dc87dfe3ccd", func := "loop.example/signalgraph/laws.FnExactStartEager", spec := "fnExactStartEager", unfollowed := true, recurses := true, apart := false }
def FnExactStartEagerSaid : Prop := fnExactStartEagerRow.holds Try.pinned (OpenSpec.ofChange fnExactStartEagerSpec)

/-- ITS FALSE NEIGHBOUR: 'it returns false'. Refute it at one input. -/
def fnExactStartEagerWrong : ChangeSpec := { name := "fnExactStartEager", fn := fun _ => fun
  | [d1, d2] => { results := [.lit (.bool false)], args := [d1, d2] }
  | _ => none }
def FnExactStartEagerWrongFalsely : Prop := fnExactStartEagerRow.holds Try.pinned (OpenSpec.ofChange fnExactStartEagerWrong)

/-- 'laws.FnExactRunsOf': WHATEVER THE INPUT: true; the input reads as it did. -/
def fnExactRunsOfSpec : ChangeSpec := { name := "fnExactRunsOf", fn := fun _ => fun
  | [d1, d2] => { results := [.lit (.bool true)], args := [d1, d2] }
  | _ => none }
def fnExactRunsOfRow : OpenClaim := { program := "ythephbppeiealaa", sum := "217db6f32e8f27ad7266803601d689256d0bb27f810ed6a1ecca6dc87dfe3ccd", func := "loop.example/signalgraph/laws.FnExactRunsOf", spec := "fnExactRunsOf", apart := false }
def FnExactRunsOfSaid : Prop := fnExactRunsOfRow.holds Try.pinned (OpenSpec.ofChange fnExactRunsOfSpec)

/-- ITS FALSE NEIGHBOUR: 'it returns false'. Refute it at one input. -/
def fnExactRunsOfWrong : ChangeSpec := { name := "fnExactRunsOf", fn := fun _ => fun
  | [d1, d2] => { results := [.lit (.bool false)], args := [d1, d2] }
  | _ => none }
def FnExactRunsOfWrongFalsely : Prop := fnExactRunsOfRow.holds Try.pinned (OpenSpec.ofChange fnExactRunsOfWrong)

/-- 'laws.FnExactMayRun': WHATEVER THE INPUT: true; the input reads as it did. -/
def fnExactMayRunSpec : ChangeSpec := { name := "fnExactMayRun", fn := fun _ => fun
  | [d1, d2] => { results := [.lit (.bool true)], args := [d1, d2] }
  | _ => none }
def fnExactMayRunRow : OpenClaim := { program := "ythephbppeiealaa", sum := "217db6f32e8f27ad7266803601d689256d0bb27f810ed6a1ecca6dc87dfe3ccd", func := "loop.example/signalgraph/laws.FnExactMayRun", spec := "fnExactMayRun", unfollowed := true, recurses := true, apart := false }
def FnExactMayRunSaid : Prop := fnExactMayRunRow.holds Try.pinned (OpenSpec.ofChange fnExactMayRunSpec)

/-- ITS FALSE NEIGHBOUR: 'it returns false'. Refute it at one input. -/
def fnExactMayRunWrong : ChangeSpec := { name := "fnExactMayRun", fn := fun _ => fun
  | [d1, d2] => { results := [.lit (.bool false)], args := [d1, d2] }
  | _ => none }
def FnExactMayRunWrongFalsely : Prop := fnExactMayRunRow.holds Try.pinned (OpenSpec.ofChange fnExactMayRunWrong)

/-- 'laws.FnExactMustRun': WHATEVER THE INPUT: true; the input reads as it did. -/
def fnExactMustRunSpec : ChangeSpec := { name := "fnExactMustRun", fn := fun _ => fun
  | [d1, d2, d3] => { results := [.lit (.bool true)], args := [d1, d2, d3] }
  | _ => none }
def fnExactMustRunRow : OpenClaim := { program := "ythephbppeiealaa", sum := "217db6f32e8f27ad7266803601d689256d0bb27f810ed6a1ecca6dc87dfe3ccd", func := "loop.example/signalgraph/laws.FnExactMustRun", spec := "fnExactMustRun", unfollowed := true, recurses := true, apart := false }
def FnExactMustRunSaid : Prop := fnExactMustRunRow.holds Try.pinned (OpenSpec.ofChange fnExactMustRunSpec)

/-- ITS FALSE NEIGHBOUR: 'it returns false'. Refute it at one input. -/
def fnExactMustRunWrong : ChangeSpec := { name := "fnExactMustRun", fn := fun _ => fun
  | [d1, d2, d3] => { results := [.lit (.bool false)], args := [d1, d2, d3] }
  | _ => none }
def FnExactMustRunWrongFalsely : Prop := fnExactMustRunRow.holds Try.pinned (OpenSpec.ofChange fnExactMustRunWrong)

/-- 'laws.FnExactCellsOf': WHATEVER THE INPUT: true; the input reads as it did. -/
def fnExactCellsOfSpec : ChangeSpec := { name := "fnExactCellsOf", fn := fun _ => fun
  | [d1, d2] => { results := [.lit (.bool true)], args := [d1, d2] }
  | _ => none }
def fnExactCellsOfRow : OpenClaim := { program := "ythephbppeiealaa", sum := "217db6f32e8f27ad7266803601d689256d0bb27f810ed6a1ecca6dc87dfe3ccd", func := "loop.example/signalgraph/laws.FnExactCellsOf", spec := "fnExactCellsOf", unfollowed := true, recurses := true, apart := false }
def FnExactCellsOfSaid : Prop := fnExactCellsOfRow.holds Try.pinned (OpenSpec.ofChange fnExactCellsOfSpec)

/-- ITS FALSE NEIGHBOUR: 'it returns false'. Refute it at one input. -/
def fnExactCellsOfWrong : ChangeSpec := { name := "fnExactCellsOf", fn := fun _ => fun
  | [d1, d2] => { results := [.lit (.bool false)], args := [d1, d2] }
  | _ => none }
def FnExactCellsOfWrongFalsely : Prop := fnExactCellsOfRow.holds Try.pinned (OpenSpec.ofChange fnExactCellsOfWrong)

/-- 'laws.FnExactWriteHasty': WHATEVER THE INPUT: true; the input reads as it did. -/
def fnExactWriteHastySpec : ChangeSpec := { name := "fnExactWriteHasty", fn := fun _ => fun
  | [d1, d2, d3, d4] => { results := [.lit (.bool true)], args := [d1, d2, d3, d4] }
  | _ => none }
def fnExactWriteHastyRow : OpenClaim := { program := "ythephbppeiealaa", sum := "217db6f32e8f27ad7266803601d689256d0bb27f810ed6a1ecca6dc87dfe3ccd", func := "loop.example/signalgraph/laws.FnExactWriteHasty", spec := "fnExactWriteHasty", unfollowed := true, recurses := true, apart := false }
def FnExactWriteHastySaid : Prop := fnExactWriteHastyRow.holds Try.pinned (OpenSpec.ofChange fnExactWriteHastySpec)

/-- ITS FALSE NEIGHBOUR: 'it returns false'. Refute it at one input. -/
def fnExactWriteHastyWrong : ChangeSpec := { name := "fnExactWriteHasty", fn := fun _ => fun
  | [d1, d2, d3, d4] => { results := [.lit (.bool false)], args := [d1, d2, d3, d4] }
  | _ => none }
def FnExactWriteHastyWrongFalsely : Prop := fnExactWriteHastyRow.holds Try.pinned (OpenSpec.ofChange fnExactWriteHastyWrong)

/-- 'laws.FnExactFoldFormula': WHATEVER THE INPUT: true; the input reads as it did. -/
def fnExactFoldFormulaSpec : ChangeSpec := { name := "fnExactFoldFormula", fn := fun _ => fun
  | [d] => { results := [.lit (.bool true)], args := [d] }
  | _ => none }
def fnExactFoldFormulaRow : OpenClaim := { program := "ythephbppeiealaa", sum := "217db6f32e8f27ad7266803601d689256d0bb27f810ed6a1ecca6dc87dfe3ccd", func := "loop.example/signalgraph/laws.FnExactFoldFormula", spec := "fnExactFoldFormula", unfollowed := true, recurses := true, apart := false }
def FnExactFoldFormulaSaid : Prop := fnExactFoldFormulaRow.holds Try.pinned (OpenSpec.ofChange fnExactFoldFormulaSpec)

/-- ITS FALSE NEIGHBOUR: 'it returns false'. Refute it at one input. -/
def fnExactFoldFormulaWrong : ChangeSpec := { name := "fnExactFoldFormula", fn := fun _ => fun
  | [d] => { results := [.lit (.bool false)], args := [d] }
  | _ => none }
def FnExactFoldFormulaWrongFalsely : Prop := fnExactFoldFormulaRow.holds Try.pinned (OpenSpec.ofChange fnExactFoldFormulaWrong)

/-- 'laws.FnExactWatchedOf': WHATEVER THE INPUT: true; the input reads as it did. -/
def fnExactWatchedOfSpec : ChangeSpec := { name := "fnExactWatchedOf", fn := fun _ => fun
  | [d] => { results := [.lit (.bool true)], args := [d] }
  | _ => none }
def fnExactWatchedOfRow : OpenClaim := { program := "ythephbppeiealaa", sum := "217db6f32e8f27ad7266803601d689256d0bb27f810ed6a1ecca6dc87dfe3ccd", func := "loop.example/signalgraph/laws.FnExactWatchedOf", spec := "fnExactWatchedOf", unfollowed := true, recurses := true, apart := false }
def FnExactWatchedOfSaid : Prop := fnExactWatchedOfRow.holds Try.pinned (OpenSpec.ofChange fnExactWatchedOfSpec)

/-- ITS FALSE NEIGHBOUR: 'it returns false'. Refute it at one input. -/
def fnExactWatchedOfWrong : ChangeSpec := { name := "fnExactWatchedOf", fn := fun _ => fun
  | [d] => { results := [.lit (.bool false)], args := [d] }
  | _ => none }
def FnExactWatchedOfWrongFalsely : Prop := fnExactWatchedOfRow.holds Try.pinned (OpenSpec.ofChange fnExactWatchedOfWrong)

/-- 'laws.FnExactAddNode': WHATEVER THE INPUT: true; the input reads as it did. -/
def fnExactAddNodeSpec : ChangeSpec := { name := "fnExactAddNode", fn := fun _ => fun
  | [d1, d2] => { results := [.lit (.bool true)], args := [d1, d2] }
  | _ => none }
def fnExactAddNodeRow : OpenClaim := { program := "ythephbppeiealaa", sum := "217db6f32e8f27ad7266803601d689256d0bb27f810ed6a1ecca6dc87dfe3ccd", func := "loop.example/signalgraph/laws.FnExactAddNode", spec := "fnExactAddNode", apart := false }
def FnExactAddNodeSaid : Prop := fnExactAddNodeRow.holds Try.pinned (OpenSpec.ofChange fnExactAddNodeSpec)

/-- ITS FALSE NEIGHBOUR: 'it returns false'. Refute it at one input. -/
def fnExactAddNodeWrong : ChangeSpec := { name := "fnExactAddNode", fn := fun _ => fun
  | [d1, d2] => { results := [.lit (.bool false)], args := [d1, d2] }
  | _ => none }
def FnExactAddNodeWrongFalsely : Prop := fnExactAddNodeRow.holds Try.pinned (OpenSpec.ofChange fnExactAddNodeWrong)

/-- 'laws.FnExactFoldGraph': WHATEVER THE INPUT: true; the input reads as it did. -/
def fnExactFoldGraphSpec : ChangeSpec := { name := "fnExactFoldGraph", fn := fun _ => fun
  | [d] => { results := [.lit (.bool true)], args := [d] }
  | _ => none }
def fnExactFoldGraphRow : OpenClaim := { program := "ythephbppeiealaa", sum := "217db6f32e8f27ad7266803601d689256d0bb27f810ed6a1ecca6dc87dfe3ccd", func := "loop.example/signalgraph/laws.FnExactFoldGraph", spec := "fnExactFoldGraph", unfollowed := true, recurses := true, apart := false }
def FnExactFoldGraphSaid : Prop := fnExactFoldGraphRow.holds Try.pinned (OpenSpec.ofChange fnExactFoldGraphSpec)

/-- ITS FALSE NEIGHBOUR: 'it returns false'. Refute it at one input. -/
def fnExactFoldGraphWrong : ChangeSpec := { name := "fnExactFoldGraph", fn := fun _ => fun
  | [d] => { results := [.lit (.bool false)], args := [d] }
  | _ => none }
def FnExactFoldGraphWrongFalsely : Prop := fnExactFoldGraphRow.holds Try.pinned (OpenSpec.ofChange fnExactFoldGraphWrong)

/- THE SECOND FORM. 'bulk': how many values and letters a reading holds, each counted each time it is reached (what is shared counts as often as it is met; a slice's spare places count too). A statement '..UptoSaid' is the law's where the arguments, and the package variables that the reading takes, are together of bulk at most 1048576: NARROWER than '..Said'. Prove '..Said' where nothing that the law and all that it calls make is longer than what came in: it says more and counts as full. Else prove '..UptoSaid'. A law counts once. -/
mutual
def uptoBulk {H : Type} : DataW H → Nat
  | .lit (.string bytes) => bytes.length + 1
  | .lit _ => 1
  | .nil => 1
  | .ptr d => uptoBulk d + 1
  | .slice elems spare => uptoBulkAll elems + uptoBulkAll spare + 1
  | .agg parts => uptoBulkAll parts + 1
  | .iface _ d => uptoBulk d + 1
  | .map entries => uptoBulkEntries entries + 1
  | .held _ => 1
def uptoBulkAll {H : Type} : List (DataW H) → Nat
  | [] => 0
  | d :: r => uptoBulk d + uptoBulkAll r
def uptoBulkEntries {H : Type} : List (Lit × DataW H) → Nat
  | [] => 0
  | x :: r => uptoBulkEntry x + uptoBulkEntries r
def uptoBulkEntry {H : Type} : Lit × DataW H → Nat
  | (.string bytes, d) => bytes.length + uptoBulk d + 1
  | (_, d) => uptoBulk d + 1
 end
def uptoSmall : (H : Type) → List (DataW H) → Bool := fun _ ds => decide (uptoBulkAll ds ≤ 1048576)
def OpenSpec.upto (s : _root_.Go.ChangeSpec) : _root_.Go.OpenSpec := { _root_.Go.OpenSpec.ofChange s with cond := some uptoSmall }

/-- 'laws.FnExactValidEager', WHERE WHAT IT READS IS OF BULK AT MOST 1048576: true; the input reads as it did. -/
def fnExactValidEagerUptoRow : OpenClaim := { program := "ythephbppeiealaa", sum := "217db6f32e8f27ad7266803601d689256d0bb27f810ed6a1ecca6dc87dfe3ccd", func := "loop.example/signalgraph/laws.FnExactValidEager", spec := "fnExactValidEager", unfollowed := true, recurses := true, apart := false, narrowed := true }
def FnExactValidEagerUptoSaid : Prop := fnExactValidEagerUptoRow.holds Try.pinned (OpenSpec.upto fnExactValidEagerSpec)

/-- 'laws.FnExactStartEager', WHERE WHAT IT READS IS OF BULK AT MOST 1048576: true; the input reads as it did. -/
def fnExactStartEagerUptoRow : OpenClaim := { program := "ythephbppeiealaa", sum := "217db6f32e8f27ad7266803601d689256d0bb27f810ed6a1ecca6dc87dfe3ccd", func := "loop.example/signalgraph/laws.FnExactStartEager", spec := "fnExactStartEager", unfollowed := true, recurses := true, apart := false, narrowed := true }
def FnExactStartEagerUptoSaid : Prop := fnExactStartEagerUptoRow.holds Try.pinned (OpenSpec.upto fnExactStartEagerSpec)

/-- 'laws.FnExactRunsOf', WHERE WHAT IT READS IS OF BULK AT MOST 1048576: true; the input reads as it did. -/
def fnExactRunsOfUptoRow : OpenClaim := { program := "ythephbppeiealaa", sum := "217db6f32e8f27ad7266803601d689256d0bb27f810ed6a1ecca6dc87dfe3ccd", func := "loop.example/signalgraph/laws.FnExactRunsOf", spec := "fnExactRunsOf", apart := false, narrowed := true }
def FnExactRunsOfUptoSaid : Prop := fnExactRunsOfUptoRow.holds Try.pinned (OpenSpec.upto fnExactRunsOfSpec)

/-- 'laws.FnExactMayRun', WHERE WHAT IT READS IS OF BULK AT MOST 1048576: true; the input reads as it did. -/
def fnExactMayRunUptoRow : OpenClaim := { program := "ythephbppeiealaa", sum := "217db6f32e8f27ad7266803601d689256d0bb27f810ed6a1ecca6dc87dfe3ccd", func := "loop.example/signalgraph/laws.FnExactMayRun", spec := "fnExactMayRun", unfollowed := true, recurses := true, apart := false, narrowed := true }
def FnExactMayRunUptoSaid : Prop := fnExactMayRunUptoRow.holds Try.pinned (OpenSpec.upto fnExactMayRunSpec)

/-- 'laws.FnExactMustRun', WHERE WHAT IT READS IS OF BULK AT MOST 1048576: true; the input reads as it did. -/
def fnExactMustRunUptoRow : OpenClaim := { program := "ythephbppeiealaa", sum := "217db6f32e8f27ad7266803601d689256d0bb27f810ed6a1ecca6dc87dfe3ccd", func := "loop.example/signalgraph/laws.FnExactMustRun", spec := "fnExactMustRun", unfollowed := true, recurses := true, apart := false, narrowed := true }
def FnExactMustRunUptoSaid : Prop := fnExactMustRunUptoRow.holds Try.pinned (OpenSpec.upto fnExactMustRunSpec)

/-- 'laws.FnExactCellsOf', WHERE WHAT IT READS IS OF BULK AT MOST 1048576: true; the input reads as it did. -/
def fnExactCellsOfUptoRow : OpenClaim := { program := "ythephbppeiealaa", sum := "217db6f32e8f27ad7266803601d689256d0bb27f810ed6a1ecca6dc87dfe3ccd", func := "loop.example/signalgraph/laws.FnExactCellsOf", spec := "fnExactCellsOf", unfollowed := true, recurses := true, apart := false, narrowed := true }
def FnExactCellsOfUptoSaid : Prop := fnExactCellsOfUptoRow.holds Try.pinned (OpenSpec.upto fnExactCellsOfSpec)

/-- 'laws.FnExactWriteHasty', WHERE WHAT IT READS IS OF BULK AT MOST 1048576: true; the input reads as it did. -/
def fnExactWriteHastyUptoRow : OpenClaim := { program := "ythephbppeiealaa", sum := "217db6f32e8f27ad7266803601d689256d0bb27f810ed6a1ecca6dc87dfe3ccd", func := "loop.example/signalgraph/laws.FnExactWriteHasty", spec := "fnExactWriteHasty", unfollowed := true, recurses := true, apart := false, narrowed := true }
def FnExactWriteHastyUptoSaid : Prop := fnExactWriteHastyUptoRow.holds Try.pinned (OpenSpec.upto fnExactWriteHastySpec)

/-- 'laws.FnExactFoldFormula', WHERE WHAT IT READS IS OF BULK AT MOST 1048576: true; the input reads as it did. -/
def fnExactFoldFormulaUptoRow : OpenClaim := { program := "ythephbppeiealaa", sum := "217db6f32e8f27ad7266803601d689256d0bb27f810ed6a1ecca6dc87dfe3ccd", func := "loop.example/signalgraph/laws.FnExactFoldFormula", spec := "fnExactFoldFormula", unfollowed := true, recurses := true, apart := false, narrowed := true }
def FnExactFoldFormulaUptoSaid : Prop := fnExactFoldFormulaUptoRow.holds Try.pinned (OpenSpec.upto fnExactFoldFormulaSpec)

/-- 'laws.FnExactWatchedOf', WHERE WHAT IT READS IS OF BULK AT MOST 1048576: true; the input reads as it did. -/
def fnExactWatchedOfUptoRow : OpenClaim := { program := "ythephbppeiealaa", sum := "217db6f32e8f27ad7266803601d689256d0bb27f810ed6a1ecca6dc87dfe3ccd", func := "loop.example/signalgraph/laws.FnExactWatchedOf", spec := "fnExactWatchedOf", unfollowed := true, recurses := true, apart := false, narrowed := true }
def FnExactWatchedOfUptoSaid : Prop := fnExactWatchedOfUptoRow.holds Try.pinned (OpenSpec.upto fnExactWatchedOfSpec)

/-- 'laws.FnExactAddNode', WHERE WHAT IT READS IS OF BULK AT MOST 1048576: true; the input reads as it did. -/
def fnExactAddNodeUptoRow : OpenClaim := { program := "ythephbppeiealaa", sum := "217db6f32e8f27ad7266803601d689256d0bb27f810ed6a1ecca6dc87dfe3ccd", func := "loop.example/signalgraph/laws.FnExactAddNode", spec := "fnExactAddNode", apart := false, narrowed := true }
def FnExactAddNodeUptoSaid : Prop := fnExactAddNodeUptoRow.holds Try.pinned (OpenSpec.upto fnExactAddNodeSpec)

/-- 'laws.FnExactFoldGraph', WHERE WHAT IT READS IS OF BULK AT MOST 1048576: true; the input reads as it did. -/
def fnExactFoldGraphUptoRow : OpenClaim := { program := "ythephbppeiealaa", sum := "217db6f32e8f27ad7266803601d689256d0bb27f810ed6a1ecca6dc87dfe3ccd", func := "loop.example/signalgraph/laws.FnExactFoldGraph", spec := "fnExactFoldGraph", unfollowed := true, recurses := true, apart := false, narrowed := true }
def FnExactFoldGraphUptoSaid : Prop := fnExactFoldGraphUptoRow.holds Try.pinned (OpenSpec.upto fnExactFoldGraphSpec)

end Rows
end Go.Proofs.Ythephbppeiealaa
