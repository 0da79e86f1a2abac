/-
  No cell of these rows narrows 'for every input' (looked for: loops, veiled, ifaces, maps, wideKeys, modest, calm, conditions, laid).
  DERIVED. THE GIVEN ROWS OF THIS SEAT. 5 by the template 'for every input the law returns true; each argument reads behind the call as it read before'; 0 by the template 'total and deterministic' (their statements: YtknnbajcabodoaaTotals.lean).
  GIVEN WITH THE SEED: the statements are not yours to turn. If you find one false, say at which input.
  Laid BY PROGRAM, IN A SANDBOX (cutbox-rows.mjs): the forced cells as the released guide's own fill.sh prints them over the translation bc0f08811af0a894… (all of the seat's roots in one cut). By AI agents, Wed Nov 11 2026. No macro, syntax, notation, axiom, sorry.
-/
import Derived.Test.YtknnbajcabodoaaChecked
import GoSem.Claim
import GoSem.ClaimJoined
import GoSem.ClaimMapViews
import Derived.JoinedTies
import Derived.KernelRfl
namespace Go.Proofs.Ytknnbajcabodoaa
/- THE CELL 'sum', in the pinned program and in every row, IS THE sha256 OF THE DUMP (.gsa) THAT YtknnbajcabodoaaProg.lean LOADS. Nothing in Lean hashes anything: it is a label: what it is worth is what the hold of that sum in a sandbox is worth. -/
noncomputable def Try.pinned : Pinned := { name := "ytknnbajcabodoaa", sum := "bc0f08811af0a894251f94ba2337dd4f3bf63f7b0245d99ba47acd91071056c9", checked := Try.checked }
namespace Rows
def none {H : Type} : Left H := { results := [], args := [] }

/-- 'laws.FnStaysOf': WHATEVER THE INPUT: true; the input reads as it did. -/
def fnStaysOfSpec : ChangeSpec := { name := "fnStaysOf", fn := fun _ => fun
  | [d] => { results := [.lit (.bool true)], args := [d] }
  | _ => none }
def fnStaysOfRow : OpenClaim := { program := "ytknnbajcabodoaa", sum := "bc0f08811af0a894251f94ba2337dd4f3bf63f7b0245d99ba47acd91071056c9", func := "loop.example/signalgraph/laws.FnStaysOf", spec := "fnStaysOf", unfollowed := true, recurses := true, apart := false }
def FnStaysOfSaid : Prop := fnStaysOfRow.holds Try.pinned (OpenSpec.ofChange fnStaysOfSpec)

/-- ITS FALSE NEIGHBOUR: 'it returns false'. Refute it at one input. -/
def fnStaysOfWrong : ChangeSpec := { name := "fnStaysOf", fn := fun _ => fun
  | [d] => { results := [.lit (.bool false)], args := [d] }
  | _ => none }
def FnStaysOfWrongFalsely : Prop := fnStaysOfRow.holds Try.pinned (OpenSpec.ofChange fnStaysOfWrong)

/-- 'laws.FnStaysOfMost': WHATEVER THE INPUT: true; the input reads as it did. -/
def fnStaysOfMostSpec : ChangeSpec := { name := "fnStaysOfMost", fn := fun _ => fun
  | [d] => { results := [.lit (.bool true)], args := [d] }
  | _ => none }
def fnStaysOfMostRow : OpenClaim := { program := "ytknnbajcabodoaa", sum := "bc0f08811af0a894251f94ba2337dd4f3bf63f7b0245d99ba47acd91071056c9", func := "loop.example/signalgraph/laws.FnStaysOfMost", spec := "fnStaysOfMost", unfollowed := true, recurses := true, apart := false }
def FnStaysOfMostSaid : Prop := fnStaysOfMostRow.holds Try.pinned (OpenSpec.ofChange fnStaysOfMostSpec)

/-- ITS FALSE NEIGHBOUR: 'it returns false'. Refute it at one input. -/
def fnStaysOfMostWrong : ChangeSpec := { name := "fnStaysOfMost", fn := fun _ => fun
  | [d] => { results := [.lit (.bool false)], args := [d] }
  | _ => none }
def FnStaysOfMostWrongFalsely : Prop := fnStaysOfMostRow.holds Try.pinned (OpenSpec.ofChange fnStaysOfMostWrong)

/-- 'laws.FnMovesOf': WHATEVER THE INPUT: true; the input reads as it did. -/
def fnMovesOfSpec : ChangeSpec := { name := "fnMovesOf", fn := fun _ => fun
  | [d] => { results := [.lit (.bool true)], args := [d] }
  | _ => none }
def fnMovesOfRow : OpenClaim := { program := "ytknnbajcabodoaa", sum := "bc0f08811af0a894251f94ba2337dd4f3bf63f7b0245d99ba47acd91071056c9", func := "loop.example/signalgraph/laws.FnMovesOf", spec := "fnMovesOf", unfollowed := true, recurses := true, apart := false }
def FnMovesOfSaid : Prop := fnMovesOfRow.holds Try.pinned (OpenSpec.ofChange fnMovesOfSpec)

/-- ITS FALSE NEIGHBOUR: 'it returns false'. Refute it at one input. -/
def fnMovesOfWrong : ChangeSpec := { name := "fnMovesOf", fn := fun _ => fun
  | [d] => { results := [.lit (.bool false)], args := [d] }
  | _ => none }
def FnMovesOfWrongFalsely : Prop := fnMovesOfRow.holds Try.pinned (OpenSpec.ofChange fnMovesOfWrong)

/-- 'laws.FnPatchOfLeast': WHATEVER THE INPUT: true; the input reads as it did. -/
def fnPatchOfLeastSpec : ChangeSpec := { name := "fnPatchOfLeast", fn := fun _ => fun
  | [d] => { results := [.lit (.bool true)], args := [d] }
  | _ => none }
def fnPatchOfLeastRow : OpenClaim := { program := "ytknnbajcabodoaa", sum := "bc0f08811af0a894251f94ba2337dd4f3bf63f7b0245d99ba47acd91071056c9", func := "loop.example/signalgraph/laws.FnPatchOfLeast", spec := "fnPatchOfLeast", unfollowed := true, recurses := true, apart := false }
def FnPatchOfLeastSaid : Prop := fnPatchOfLeastRow.holds Try.pinned (OpenSpec.ofChange fnPatchOfLeastSpec)

/-- ITS FALSE NEIGHBOUR: 'it returns false'. Refute it at one input. -/
def fnPatchOfLeastWrong : ChangeSpec := { name := "fnPatchOfLeast", fn := fun _ => fun
  | [d] => { results := [.lit (.bool false)], args := [d] }
  | _ => none }
def FnPatchOfLeastWrongFalsely : Prop := fnPatchOfLeastRow.holds Try.pinned (OpenSpec.ofChange fnPatchOfLeastWrong)

/-- 'laws.FnCostOf': WHATEVER THE INPUT: true; the input reads as it did. -/
def fnCostOfSpec : ChangeSpec := { name := "fnCostOf", fn := fun _ => fun
  | [d] => { results := [.lit (.bool true)], args := [d] }
  | _ => none }
def fnCostOfRow : OpenClaim := { program := "ytknnbajcabodoaa", sum := "bc0f08811af0a894251f94ba2337dd4f3bf63f7b0245d99ba47acd91071056c9", func := "loop.example/signalgraph/laws.FnCostOf", spec := "fnCostOf", unfollowed := true, recurses := true, apart := false }
def FnCostOfSaid : Prop := fnCostOfRow.holds Try.pinned (OpenSpec.ofChange fnCostOfSpec)

/-- ITS FALSE NEIGHBOUR: 'it returns false'. Refute it at one input. -/
def fnCostOfWrong : ChangeSpec := { name := "fnCostOf", fn := fun _ => fun
  | [d] => { results := [.lit (.bool false)], args := [d] }
  | _ => none }
def FnCostOfWrongFalsely : Prop := fnCostOfRow.holds Try.pinned (OpenSpec.ofChange fnCostOfWrong)

/- THE SECOND FORM. 'bulk': how many values and letters a reading holds, each counted each time it is reached (what is shared counts as often as it is met; a slice's spare places count too). A statement '..UptoSaid' is the law's where the arguments, and the package variables that the reading takes, are together of bulk at most 1048576: NARROWER than '..Said'. Prove '..Said' where nothing that the law and all that it calls make is longer than what came in: it says more and counts as full. Else prove '..UptoSaid'. A law counts once. -/
mutual
def uptoBulk {H : Type} : DataW H → Nat
  | .lit (.string bytes) => bytes.length + 1
  | .lit _ => 1
  | .nil => 1
  | .ptr d => uptoBulk d + 1
  | .slice elems spare => uptoBulkAll elems + uptoBulkAll spare + 1
  | .agg parts => uptoBulkAll parts + 1
  | .iface _ d => uptoBulk d + 1
  | .map entries => uptoBulkEntries entries + 1
  | .held _ => 1
def uptoBulkAll {H : Type} : List (DataW H) → Nat
  | [] => 0
  | d :: r => uptoBulk d + uptoBulkAll r
def uptoBulkEntries {H : Type} : List (Lit × DataW H) → Nat
  | [] => 0
  | x :: r => uptoBulkEntry x + uptoBulkEntries r
def uptoBulkEntry {H : Type} : Lit × DataW H → Nat
  | (.string bytes, d) => bytes.length + uptoBulk d + 1
  | (_, d) => uptoBulk d + 1
 end
def uptoSmall : (H : Type) → List (DataW H) → Bool := fun _ ds => decide (uptoBulkAll ds ≤ 1048576)
def OpenSpec.upto (s : _root_.Go.ChangeSpec) : _root_.Go.OpenSpec := { _root_.Go.OpenSpec.ofChange s with cond := some uptoSmall }

/-- 'laws.FnStaysOf', WHERE WHAT IT READS IS OF BULK AT MOST 1048576: true; the input reads as it did. -/
def fnStaysOfUptoRow : OpenClaim := { program := "ytknnbajcabodoaa", sum := "bc0f08811af0a894251f94ba2337dd4f3bf63f7b0245d99ba47acd91071056c9", func := "loop.example/signalgraph/laws.FnStaysOf", spec := "fnStaysOf", unfollowed := true, recurses := true, apart := false, narrowed := true }
def FnStaysOfUptoSaid : Prop := fnStaysOfUptoRow.holds Try.pinned (OpenSpec.upto fnStaysOfSpec)

/-- 'laws.FnStaysOfMost', WHERE WHAT IT READS IS OF BULK AT MOST 1048576: true; the input reads as it did. -/
def fnStaysOfMostUptoRow : OpenClaim := { program := "ytknnbajcabodoaa", sum := "bc0f08811af0a894251f94ba2337dd4f3bf63f7b0245d99ba47acd91071056c9", func := "loop.example/signalgraph/laws.FnStaysOfMost", spec := "fnStaysOfMost", unfollowed := true, recurses := true, apart := false, narrowed := true }
def FnStaysOfMostUptoSaid : Prop := fnStaysOfMostUptoRow.holds Try.pinned (OpenSpec.upto fnStaysOfMostSpec)

/-- 'laws.FnMovesOf', WHERE WHAT IT READS IS OF BULK AT MOST 1048576: true; the input reads as it did. -/
def fnMovesOfUptoRow : OpenClaim := { program := "ytknnbajcabodoaa", sum := "bc0f08811af0a894251f94ba2337dd4f3bf63f7b0245d99ba47acd91071056c9", func := "loop.example/signalgraph/laws.FnMovesOf", spec := "fnMovesOf", unfollowed := true, recurses := true, apart := false, narrowed := true }
def FnMovesOfUptoSaid : Prop := fnMovesOfUptoRow.holds Try.pinned (OpenSpec.upto fnMovesOfSpec)

/-- 'laws.FnPatchOfLeast', WHERE WHAT IT READS IS OF BULK AT MOST 1048576: true; the input reads as it did. -/
def fnPatchOfLeastUptoRow : OpenClaim := { program := "ytknnbajcabodoaa", sum := "bc0f08811af0a894251f94ba2337dd4f3bf63f7b0245d99ba47acd91071056c9", func := "loop.example/signalgraph/laws.FnPatchOfLeast", spec := "fnPatchOfLeast", unfollowed := true, recurses := true, apart := false, narrowed := true }
def FnPatchOfLeastUptoSaid : Prop := fnPatchOfLeastUptoRow.holds Try.pinned (OpenSpec.upto fnPatchOfLeastSpec)

/-- 'laws.FnCostOf', WHERE WHAT IT READS IS OF BULK AT MOST 1048576: true; the input reads as it did. -/
def fnCostOfUptoRow : OpenClaim := { program := "ytknnbajcabodoaa", sum := "bc0f08811af0a894251f94ba2337dd4f3bf63f7b0245d99ba47acd91071056c9", func := "loop.example/signalgraph/laws.FnCostOf", spec := "fnCostOf", unfollowed := true, recurses := true, apart := false, narrowed := true }
def FnCostOfUptoSaid : Prop := fnCostOfUptoRow.holds Try.pinned (OpenSpec.upto fnCostOfSpec)

end Rows
end Go.Proofs.Ytknnbajcabodoaa
