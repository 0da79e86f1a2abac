/-
  No cell of these rows narrows 'for every input' (looked for: loops, veiled, ifaces, maps, wideKeys, modest, calm, conditions, laid).
  DERIVED. THE GIVEN ROWS OF THIS SEAT. 2 by the template 'for every input the law returns true; each argument reads behind the call as it read before'; 0 by the template 'total and deterministic' (their statements: YtehlamofancdjaaTotals.lean).
  GIVEN WITH THE SEED: the statements are not yours to turn. If you find one false, say at which input.
  Laid BY PROGRAM, IN A SANDBOX (cutbox-rows.mjs): the forced cells as the released guide's own fill.sh prints them over the translation 0c06ff71fef64ebc… (all of the seat's roots in one cut). By AI agents, Wed Nov 11 2026. No macro, syntax, notation, axiom, sorry.
-/
import Derived.Test.YtehlamofancdjaaChecked
import GoSem.Claim
import GoSem.ClaimJoined
import GoSem.ClaimMapViews
import Derived.JoinedTies
import Derived.KernelRfl
namespace Go.Proofs.Ytehlamofancdjaa
/- THE CELL 'sum', in the pinned program and in every row, IS THE sha256 OF THE DUMP (.gsa) THAT YtehlamofancdjaaProg.lean LOADS. Nothing in Lean hashes anything: it is a label: what it is worth is what the hold of that sum in a sandbox is worth. -/
noncomputable def Try.pinned : Pinned := { name := "ytehlamofancdjaa", sum := "0c06ff71fef64ebc28d00e1e61d3c54f77503d82fc2aadb9194eebb346b03de3", checked := Try.checked }
namespace Rows
def none {H : Type} : Left H := { results := [], args := [] }

/-- 'laws.FnExactWhyChanged': WHATEVER THE INPUT: true; the input reads as it did. -/
def fnExactWhyChangedSpec : ChangeSpec := { name := "fnExactWhyChanged", fn := fun _ => fun
  | [d1, d2, d3, d4] => { results := [.lit (.bool true)], args := [d1, d2, d3, d4] }
  | _ => none }
def fnExactWhyChangedRow : OpenClaim := { program := "ytehlamofancdjaa", sum := "0c06ff71fef64ebc28d00e1e61d3c54f77503d82fc2aadb9194eebb346b03de3", func := "loop.example/signalgraph/laws.FnExactWhyChanged", spec := "fnExactWhyChanged", unfollowed := true, recurses := true, apart := false }
def FnExactWhyChangedSaid : Prop := fnExactWhyChangedRow.holds Try.pinned (OpenSpec.ofChange fnExactWhyChangedSpec)

/-- ITS FALSE NEIGHBOUR: 'it returns false'. Refute it at one input. -/
def fnExactWhyChangedWrong : ChangeSpec := { name := "fnExactWhyChanged", fn := fun _ => fun
  | [d1, d2, d3, d4] => { results := [.lit (.bool false)], args := [d1, d2, d3, d4] }
  | _ => none }
def FnExactWhyChangedWrongFalsely : Prop := fnExactWhyChangedRow.holds Try.pinned (OpenSpec.ofChange fnExactWhyChangedWrong)

/-- 'laws.FnWhyChanged': WHATEVER THE INPUT: true; the input reads as it did. -/
def fnWhyChangedSpec : ChangeSpec := { name := "fnWhyChanged", fn := fun _ => fun
  | [d] => { results := [.lit (.bool true)], args := [d] }
  | _ => none }
def fnWhyChangedRow : OpenClaim := { program := "ytehlamofancdjaa", sum := "0c06ff71fef64ebc28d00e1e61d3c54f77503d82fc2aadb9194eebb346b03de3", func := "loop.example/signalgraph/laws.FnWhyChanged", spec := "fnWhyChanged", unfollowed := true, recurses := true, apart := false }
def FnWhyChangedSaid : Prop := fnWhyChangedRow.holds Try.pinned (OpenSpec.ofChange fnWhyChangedSpec)

/-- ITS FALSE NEIGHBOUR: 'it returns false'. Refute it at one input. -/
def fnWhyChangedWrong : ChangeSpec := { name := "fnWhyChanged", fn := fun _ => fun
  | [d] => { results := [.lit (.bool false)], args := [d] }
  | _ => none }
def FnWhyChangedWrongFalsely : Prop := fnWhyChangedRow.holds Try.pinned (OpenSpec.ofChange fnWhyChangedWrong)

/- THE SECOND FORM. 'bulk': how many values and letters a reading holds, each counted each time it is reached (what is shared counts as often as it is met; a slice's spare places count too). A statement '..UptoSaid' is the law's where the arguments, and the package variables that the reading takes, are together of bulk at most 1048576: NARROWER than '..Said'. Prove '..Said' where nothing that the law and all that it calls make is longer than what came in: it says more and counts as full. Else prove '..UptoSaid'. A law counts once. -/
mutual
def uptoBulk {H : Type} : DataW H → Nat
  | .lit (.string bytes) => bytes.length + 1
  | .lit _ => 1
  | .nil => 1
  | .ptr d => uptoBulk d + 1
  | .slice elems spare => uptoBulkAll elems + uptoBulkAll spare + 1
  | .agg parts => uptoBulkAll parts + 1
  | .iface _ d => uptoBulk d + 1
  | .map entries => uptoBulkEntries entries + 1
  | .held _ => 1
def uptoBulkAll {H : Type} : List (DataW H) → Nat
  | [] => 0
  | d :: r => uptoBulk d + uptoBulkAll r
def uptoBulkEntries {H : Type} : List (Lit × DataW H) → Nat
  | [] => 0
  | x :: r => uptoBulkEntry x + uptoBulkEntries r
def uptoBulkEntry {H : Type} : Lit × DataW H → Nat
  | (.string bytes, d) => bytes.length + uptoBulk d + 1
  | (_, d) => uptoBulk d + 1
 end
def uptoSmall : (H : Type) → List (DataW H) → Bool := fun _ ds => decide (uptoBulkAll ds ≤ 1048576)
def OpenSpec.upto (s : _root_.Go.ChangeSpec) : _root_.Go.OpenSpec := { _root_.Go.OpenSpec.ofChange s with cond := some uptoSmall }

/-- 'laws.FnExactWhyChanged', WHERE WHAT IT READS IS OF BULK AT MOST 1048576: true; the input reads as it did. -/
def fnExactWhyChangedUptoRow : OpenClaim := { program := "ytehlamofancdjaa", sum := "0c06ff71fef64ebc28d00e1e61d3c54f77503d82fc2aadb9194eebb346b03de3", func := "loop.example/signalgraph/laws.FnExactWhyChanged", spec := "fnExactWhyChanged", unfollowed := true, recurses := true, apart := false, narrowed := true }
def FnExactWhyChangedUptoSaid : Prop := fnExactWhyChangedUptoRow.holds Try.pinned (OpenSpec.upto fnExactWhyChangedSpec)

/-- 'laws.FnWhyChanged', WHERE WHAT IT READS IS OF BULK AT MOST 1048576: true; the input reads as it did. -/
def fnWhyChangedUptoRow : OpenClaim := { program := "ytehlamofancdjaa", sum := "0c06ff71fef64ebc28d00e1e61d3c54f77503d82fc2aadb9194eebb346b03de3", func := "loop.example/signalgraph/laws.FnWhyChanged", spec := "fnWhyChanged", unfollowed := true, recurses := true, apart := false, narrowed := true }
def FnWhyChangedUptoSaid : Prop := fnWhyChangedUptoRow.holds Try.pinned (OpenSpec.upto fnWhyChangedSpec)

end Rows
end Go.Proofs.Ytehlamofancdjaa
