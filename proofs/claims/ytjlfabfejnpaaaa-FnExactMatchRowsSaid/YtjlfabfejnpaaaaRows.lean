/-
  No cell of these rows narrows 'for every input' (looked for: loops, veiled, ifaces, maps, wideKeys, modest, calm, conditions, laid).
  DERIVED. THE GIVEN ROWS OF THIS SEAT. 8 by the template 'for every input the law returns true; each argument reads behind the call as it read before'; 0 by the template 'total and deterministic' (their statements: YtjlfabfejnpaaaaTotals.lean).
  GIVEN WITH THE SEED: the statements are not yours to turn. If you find one false, say at which input.
  Laid BY PROGRAM, IN A SANDBOX (cutbox-rows.mjs): the forced cells as the released guide's own fill.sh prints them over the translation 9239b2960d5e9c5f… (all of the seat's roots in one cut). By AI agents, Wed Nov 11 2026. No macro, syntax, notation, axiom, sorry.
-/
import Derived.Test.YtjlfabfejnpaaaaChecked
import GoSem.Claim
import GoSem.ClaimJoined
import GoSem.ClaimMapViews
import Derived.JoinedTies
import Derived.KernelRfl
namespace Go.Proofs.Ytjlfabfejnpaaaa
/- THE CELL 'sum', in the pinned program and in every row, IS THE sha256 OF THE DUMP (.gsa) THAT YtjlfabfejnpaaaaProg.lean LOADS. Nothing in Lean hashes anything: it is a label: what it is worth is what the hold of that sum in a sandbox is worth. -/
noncomputable def Try.pinned : Pinned := { name := "ytjlfabfejnpaaaa", sum := "9239b2960d5e9c5fe34a48ea08538a9808a2f8e279c0875b179e0e61807add1e", checked := Try.checked }
namespace Rows
def none {H : Type} : Left H := { results := [], args := [] }

/-- 'laws.FnExactValidKeys': WHATEVER THE INPUT: true; the input reads as it did. -/
def fnExactValidKeysSpec : ChangeSpec := { name := "fnExactValidKeys", fn := fun _ => fun
  | [d] => { results := [.lit (.bool true)], args := [d] }
  | _ => none }
def fnExactValidKeysRow : OpenClaim := { program := "ytjlfabfejnpaaaa", sum := "9239b2960d5e9c5fe34a48ea08538a9808a2f8e279c0875b179e0e61807add1e", func := "loop.example/signalgraph/laws.FnExactValidKeys", spec := "fnExactValidKeys", apart := false }
def FnExactValidKeysSaid : Prop := fnExactValidKeysRow.holds Try.pinned (OpenSpec.ofChange fnExactValidKeysSpec)

/-- ITS FALSE NEIGHBOUR: 'it returns false'. Refute it at one input. -/
def fnExactValidKeysWrong : ChangeSpec := { name := "fnExactValidKeys", fn := fun _ => fun
  | [d] => { results := [.lit (.bool false)], args := [d] }
  | _ => none }
def FnExactValidKeysWrongFalsely : Prop := fnExactValidKeysRow.holds Try.pinned (OpenSpec.ofChange fnExactValidKeysWrong)

/-- 'laws.FnExactStaysOf': WHATEVER THE INPUT: true; the input reads as it did. -/
def fnExactStaysOfSpec : ChangeSpec := { name := "fnExactStaysOf", fn := fun _ => fun
  | [d1, d2] => { results := [.lit (.bool true)], args := [d1, d2] }
  | _ => none }
def fnExactStaysOfRow : OpenClaim := { program := "ytjlfabfejnpaaaa", sum := "9239b2960d5e9c5fe34a48ea08538a9808a2f8e279c0875b179e0e61807add1e", func := "loop.example/signalgraph/laws.FnExactStaysOf", spec := "fnExactStaysOf", unfollowed := true, recurses := true, apart := false }
def FnExactStaysOfSaid : Prop := fnExactStaysOfRow.holds Try.pinned (OpenSpec.ofChange fnExactStaysOfSpec)

/-- ITS FALSE NEIGHBOUR: 'it returns false'. Refute it at one input. -/
def fnExactStaysOfWrong : ChangeSpec := { name := "fnExactStaysOf", fn := fun _ => fun
  | [d1, d2] => { results := [.lit (.bool false)], args := [d1, d2] }
  | _ => none }
def FnExactStaysOfWrongFalsely : Prop := fnExactStaysOfRow.holds Try.pinned (OpenSpec.ofChange fnExactStaysOfWrong)

/-- 'laws.FnExactMovesOf': WHATEVER THE INPUT: true; the input reads as it did. -/
def fnExactMovesOfSpec : ChangeSpec := { name := "fnExactMovesOf", fn := fun _ => fun
  | [d1, d2] => { results := [.lit (.bool true)], args := [d1, d2] }
  | _ => none }
def fnExactMovesOfRow : OpenClaim := { program := "ytjlfabfejnpaaaa", sum := "9239b2960d5e9c5fe34a48ea08538a9808a2f8e279c0875b179e0e61807add1e", func := "loop.example/signalgraph/laws.FnExactMovesOf", spec := "fnExactMovesOf", unfollowed := true, recurses := true, apart := false }
def FnExactMovesOfSaid : Prop := fnExactMovesOfRow.holds Try.pinned (OpenSpec.ofChange fnExactMovesOfSpec)

/-- ITS FALSE NEIGHBOUR: 'it returns false'. Refute it at one input. -/
def fnExactMovesOfWrong : ChangeSpec := { name := "fnExactMovesOf", fn := fun _ => fun
  | [d1, d2] => { results := [.lit (.bool false)], args := [d1, d2] }
  | _ => none }
def FnExactMovesOfWrongFalsely : Prop := fnExactMovesOfRow.holds Try.pinned (OpenSpec.ofChange fnExactMovesOfWrong)

/-- 'laws.FnExactNewKeys': WHATEVER THE INPUT: true; the input reads as it did. -/
def fnExactNewKeysSpec : ChangeSpec := { name := "fnExactNewKeys", fn := fun _ => fun
  | [d1, d2] => { results := [.lit (.bool true)], args := [d1, d2] }
  | _ => none }
def fnExactNewKeysRow : OpenClaim := { program := "ytjlfabfejnpaaaa", sum := "9239b2960d5e9c5fe34a48ea08538a9808a2f8e279c0875b179e0e61807add1e", func := "loop.example/signalgraph/laws.FnExactNewKeys", spec := "fnExactNewKeys", unfollowed := true, recurses := true, apart := false }
def FnExactNewKeysSaid : Prop := fnExactNewKeysRow.holds Try.pinned (OpenSpec.ofChange fnExactNewKeysSpec)

/-- ITS FALSE NEIGHBOUR: 'it returns false'. Refute it at one input. -/
def fnExactNewKeysWrong : ChangeSpec := { name := "fnExactNewKeys", fn := fun _ => fun
  | [d1, d2] => { results := [.lit (.bool false)], args := [d1, d2] }
  | _ => none }
def FnExactNewKeysWrongFalsely : Prop := fnExactNewKeysRow.holds Try.pinned (OpenSpec.ofChange fnExactNewKeysWrong)

/-- 'laws.FnExactPatchOf': WHATEVER THE INPUT: true; the input reads as it did. -/
def fnExactPatchOfSpec : ChangeSpec := { name := "fnExactPatchOf", fn := fun _ => fun
  | [d1, d2] => { results := [.lit (.bool true)], args := [d1, d2] }
  | _ => none }
def fnExactPatchOfRow : OpenClaim := { program := "ytjlfabfejnpaaaa", sum := "9239b2960d5e9c5fe34a48ea08538a9808a2f8e279c0875b179e0e61807add1e", func := "loop.example/signalgraph/laws.FnExactPatchOf", spec := "fnExactPatchOf", unfollowed := true, recurses := true, apart := false }
def FnExactPatchOfSaid : Prop := fnExactPatchOfRow.holds Try.pinned (OpenSpec.ofChange fnExactPatchOfSpec)

/-- ITS FALSE NEIGHBOUR: 'it returns false'. Refute it at one input. -/
def fnExactPatchOfWrong : ChangeSpec := { name := "fnExactPatchOf", fn := fun _ => fun
  | [d1, d2] => { results := [.lit (.bool false)], args := [d1, d2] }
  | _ => none }
def FnExactPatchOfWrongFalsely : Prop := fnExactPatchOfRow.holds Try.pinned (OpenSpec.ofChange fnExactPatchOfWrong)

/-- 'laws.FnExactApplyPatch': WHATEVER THE INPUT: true; the input reads as it did. -/
def fnExactApplyPatchSpec : ChangeSpec := { name := "fnExactApplyPatch", fn := fun _ => fun
  | [d1, d2] => { results := [.lit (.bool true)], args := [d1, d2] }
  | _ => none }
def fnExactApplyPatchRow : OpenClaim := { program := "ytjlfabfejnpaaaa", sum := "9239b2960d5e9c5fe34a48ea08538a9808a2f8e279c0875b179e0e61807add1e", func := "loop.example/signalgraph/laws.FnExactApplyPatch", spec := "fnExactApplyPatch", inPlace := ["slices.overlaps[int]"], apart := false }
def FnExactApplyPatchSaid : Prop := fnExactApplyPatchRow.holds Try.pinned (OpenSpec.ofChange fnExactApplyPatchSpec)

/-- ITS FALSE NEIGHBOUR: 'it returns false'. Refute it at one input. -/
def fnExactApplyPatchWrong : ChangeSpec := { name := "fnExactApplyPatch", fn := fun _ => fun
  | [d1, d2] => { results := [.lit (.bool false)], args := [d1, d2] }
  | _ => none }
def FnExactApplyPatchWrongFalsely : Prop := fnExactApplyPatchRow.holds Try.pinned (OpenSpec.ofChange fnExactApplyPatchWrong)

/-- 'laws.FnExactMatchRows': WHATEVER THE INPUT: true; the input reads as it did. -/
def fnExactMatchRowsSpec : ChangeSpec := { name := "fnExactMatchRows", fn := fun _ => fun
  | [d1, d2, d3] => { results := [.lit (.bool true)], args := [d1, d2, d3] }
  | _ => none }
def fnExactMatchRowsRow : OpenClaim := { program := "ytjlfabfejnpaaaa", sum := "9239b2960d5e9c5fe34a48ea08538a9808a2f8e279c0875b179e0e61807add1e", func := "loop.example/signalgraph/laws.FnExactMatchRows", spec := "fnExactMatchRows", unfollowed := true, recurses := true, apart := false }
def FnExactMatchRowsSaid : Prop := fnExactMatchRowsRow.holds Try.pinned (OpenSpec.ofChange fnExactMatchRowsSpec)

/-- ITS FALSE NEIGHBOUR: 'it returns false'. Refute it at one input. -/
def fnExactMatchRowsWrong : ChangeSpec := { name := "fnExactMatchRows", fn := fun _ => fun
  | [d1, d2, d3] => { results := [.lit (.bool false)], args := [d1, d2, d3] }
  | _ => none }
def FnExactMatchRowsWrongFalsely : Prop := fnExactMatchRowsRow.holds Try.pinned (OpenSpec.ofChange fnExactMatchRowsWrong)

/-- 'laws.FnExactCostOf': WHATEVER THE INPUT: true; the input reads as it did. -/
def fnExactCostOfSpec : ChangeSpec := { name := "fnExactCostOf", fn := fun _ => fun
  | [d1, d2] => { results := [.lit (.bool true)], args := [d1, d2] }
  | _ => none }
def fnExactCostOfRow : OpenClaim := { program := "ytjlfabfejnpaaaa", sum := "9239b2960d5e9c5fe34a48ea08538a9808a2f8e279c0875b179e0e61807add1e", func := "loop.example/signalgraph/laws.FnExactCostOf", spec := "fnExactCostOf", unfollowed := true, recurses := true, apart := false }
def FnExactCostOfSaid : Prop := fnExactCostOfRow.holds Try.pinned (OpenSpec.ofChange fnExactCostOfSpec)

/-- ITS FALSE NEIGHBOUR: 'it returns false'. Refute it at one input. -/
def fnExactCostOfWrong : ChangeSpec := { name := "fnExactCostOf", fn := fun _ => fun
  | [d1, d2] => { results := [.lit (.bool false)], args := [d1, d2] }
  | _ => none }
def FnExactCostOfWrongFalsely : Prop := fnExactCostOfRow.holds Try.pinned (OpenSpec.ofChange fnExactCostOfWrong)

/- THE SECOND FORM. 'bulk': how many values and letters a reading holds, each counted each time it is reached (what is shared counts as often as it is met; a slice's spare places count too). A statement '..UptoSaid' is the law's where the arguments, and the package variables that the reading takes, are together of bulk at most 1048576: NARROWER than '..Said'. Prove '..Said' where nothing that the law and all that it calls make is longer than what came in: it says more and counts as full. Else prove '..UptoSaid'. A law counts once. -/
mutual
def uptoBulk {H : Type} : DataW H → Nat
  | .lit (.string bytes) => bytes.length + 1
  | .lit _ => 1
  | .nil => 1
  | .ptr d => uptoBulk d + 1
  | .slice elems spare => uptoBulkAll elems + uptoBulkAll spare + 1
  | .agg parts => uptoBulkAll parts + 1
  | .iface _ d => uptoBulk d + 1
  | .map entries => uptoBulkEntries entries + 1
  | .held _ => 1
def uptoBulkAll {H : Type} : List (DataW H) → Nat
  | [] => 0
  | d :: r => uptoBulk d + uptoBulkAll r
def uptoBulkEntries {H : Type} : List (Lit × DataW H) → Nat
  | [] => 0
  | x :: r => uptoBulkEntry x + uptoBulkEntries r
def uptoBulkEntry {H : Type} : Lit × DataW H → Nat
  | (.string bytes, d) => bytes.length + uptoBulk d + 1
  | (_, d) => uptoBulk d + 1
 end
def uptoSmall : (H : Type) → List (DataW H) → Bool := fun _ ds => decide (uptoBulkAll ds ≤ 1048576)
def OpenSpec.upto (s : _root_.Go.ChangeSpec) : _root_.Go.OpenSpec := { _root_.Go.OpenSpec.ofChange s with cond := some uptoSmall }

/-- 'laws.FnExactValidKeys', WHERE WHAT IT READS IS OF BULK AT MOST 1048576: true; the input reads as it did. -/
def fnExactValidKeysUptoRow : OpenClaim := { program := "ytjlfabfejnpaaaa", sum := "9239b2960d5e9c5fe34a48ea08538a9808a2f8e279c0875b179e0e61807add1e", func := "loop.example/signalgraph/laws.FnExactValidKeys", spec := "fnExactValidKeys", apart := false, narrowed := true }
def FnExactValidKeysUptoSaid : Prop := fnExactValidKeysUptoRow.holds Try.pinned (OpenSpec.upto fnExactValidKeysSpec)

/-- 'laws.FnExactStaysOf', WHERE WHAT IT READS IS OF BULK AT MOST 1048576: true; the input reads as it did. -/
def fnExactStaysOfUptoRow : OpenClaim := { program := "ytjlfabfejnpaaaa", sum := "9239b2960d5e9c5fe34a48ea08538a9808a2f8e279c0875b179e0e61807add1e", func := "loop.example/signalgraph/laws.FnExactStaysOf", spec := "fnExactStaysOf", unfollowed := true, recurses := true, apart := false, narrowed := true }
def FnExactStaysOfUptoSaid : Prop := fnExactStaysOfUptoRow.holds Try.pinned (OpenSpec.upto fnExactStaysOfSpec)

/-- 'laws.FnExactMovesOf', WHERE WHAT IT READS IS OF BULK AT MOST 1048576: true; the input reads as it did. -/
def fnExactMovesOfUptoRow : OpenClaim := { program := "ytjlfabfejnpaaaa", sum := "9239b2960d5e9c5fe34a48ea08538a9808a2f8e279c0875b179e0e61807add1e", func := "loop.example/signalgraph/laws.FnExactMovesOf", spec := "fnExactMovesOf", unfollowed := true, recurses := true, apart := false, narrowed := true }
def FnExactMovesOfUptoSaid : Prop := fnExactMovesOfUptoRow.holds Try.pinned (OpenSpec.upto fnExactMovesOfSpec)

/-- 'laws.FnExactNewKeys', WHERE WHAT IT READS IS OF BULK AT MOST 1048576: true; the input reads as it did. -/
def fnExactNewKeysUptoRow : OpenClaim := { program := "ytjlfabfejnpaaaa", sum := "9239b2960d5e9c5fe34a48ea08538a9808a2f8e279c0875b179e0e61807add1e", func := "loop.example/signalgraph/laws.FnExactNewKeys", spec := "fnExactNewKeys", unfollowed := true, recurses := true, apart := false, narrowed := true }
def FnExactNewKeysUptoSaid : Prop := fnExactNewKeysUptoRow.holds Try.pinned (OpenSpec.upto fnExactNewKeysSpec)

/-- 'laws.FnExactPatchOf', WHERE WHAT IT READS IS OF BULK AT MOST 1048576: true; the input reads as it did. -/
def fnExactPatchOfUptoRow : OpenClaim := { program := "ytjlfabfejnpaaaa", sum := "9239b2960d5e9c5fe34a48ea08538a9808a2f8e279c0875b179e0e61807add1e", func := "loop.example/signalgraph/laws.FnExactPatchOf", spec := "fnExactPatchOf", unfollowed := true, recurses := true, apart := false, narrowed := true }
def FnExactPatchOfUptoSaid : Prop := fnExactPatchOfUptoRow.holds Try.pinned (OpenSpec.upto fnExactPatchOfSpec)

/-- 'laws.FnExactApplyPatch', WHERE WHAT IT READS IS OF BULK AT MOST 1048576: true; the input reads as it did. -/
def fnExactApplyPatchUptoRow : OpenClaim := { program := "ytjlfabfejnpaaaa", sum := "9239b2960d5e9c5fe34a48ea08538a9808a2f8e279c0875b179e0e61807add1e", func := "loop.example/signalgraph/laws.FnExactApplyPatch", spec := "fnExactApplyPatch", inPlace := ["slices.overlaps[int]"], apart := false, narrowed := true }
def FnExactApplyPatchUptoSaid : Prop := fnExactApplyPatchUptoRow.holds Try.pinned (OpenSpec.upto fnExactApplyPatchSpec)

/-- 'laws.FnExactMatchRows', WHERE WHAT IT READS IS OF BULK AT MOST 1048576: true; the input reads as it did. -/
def fnExactMatchRowsUptoRow : OpenClaim := { program := "ytjlfabfejnpaaaa", sum := "9239b2960d5e9c5fe34a48ea08538a9808a2f8e279c0875b179e0e61807add1e", func := "loop.example/signalgraph/laws.FnExactMatchRows", spec := "fnExactMatchRows", unfollowed := true, recurses := true, apart := false, narrowed := true }
def FnExactMatchRowsUptoSaid : Prop := fnExactMatchRowsUptoRow.holds Try.pinned (OpenSpec.upto fnExactMatchRowsSpec)

/-- 'laws.FnExactCostOf', WHERE WHAT IT READS IS OF BULK AT MOST 1048576: true; the input reads as it did. -/
def fnExactCostOfUptoRow : OpenClaim := { program := "ytjlfabfejnpaaaa", sum := "9239b2960d5e9c5fe34a48ea08538a9808a2f8e279c0875b179e0e61807add1e", func := "loop.example/signalgraph/laws.FnExactCostOf", spec := "fnExactCostOf", unfollowed := true, recurses := true, apart := false, narrowed := true }
def FnExactCostOfUptoSaid : Prop := fnExactCostOfUptoRow.holds Try.pinned (OpenSpec.upto fnExactCostOfSpec)

end Rows
end Go.Proofs.Ytjlfabfejnpaaaa
