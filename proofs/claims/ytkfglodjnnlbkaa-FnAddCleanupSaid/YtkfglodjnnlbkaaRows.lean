/-
  No cell of these rows narrows 'for every input' (looked for: loops, veiled, ifaces, maps, wideKeys, modest, calm, conditions, laid).
  DERIVED. THE GIVEN ROWS OF THIS SEAT. 9 by the template 'for every input the law returns true; each argument reads behind the call as it read before'; 0 by the template 'total and deterministic' (their statements: YtkfglodjnnlbkaaTotals.lean).
  GIVEN WITH THE SEED: the statements are not yours to turn. If you find one false, say at which input.
  Laid BY PROGRAM, IN A SANDBOX (cutbox-rows.mjs): the forced cells as the released guide's own fill.sh prints them over the translation ea46f86742689344… (all of the seat's roots in one cut). By AI agents, Wed Nov 11 2026. No macro, syntax, notation, axiom, sorry.
-/
import Derived.Test.YtkfglodjnnlbkaaChecked
import GoSem.Claim
import GoSem.ClaimJoined
import GoSem.ClaimMapViews
import Derived.JoinedTies
import Derived.KernelRfl
namespace Go.Proofs.Ytkfglodjnnlbkaa
/- THE CELL 'sum', in the pinned program and in every row, IS THE sha256 OF THE DUMP (.gsa) THAT YtkfglodjnnlbkaaProg.lean LOADS. Nothing in Lean hashes anything: it is a label: what it is worth is what the hold of that sum in a sandbox is worth. -/
noncomputable def Try.pinned : Pinned := { name := "ytkfglodjnnlbkaa", sum := "ea46f86742689344dee8c64950d2ab66f26308b87a5371e3cfc6222e822b7496", checked := Try.checked }
namespace Rows
def none {H : Type} : Left H := { results := [], args := [] }

/-- 'laws.FnValidOwners': WHATEVER THE INPUT: true; the input reads as it did. -/
def fnValidOwnersSpec : ChangeSpec := { name := "fnValidOwners", fn := fun _ => fun
  | [d] => { results := [.lit (.bool true)], args := [d] }
  | _ => none }
def fnValidOwnersRow : OpenClaim := { program := "ytkfglodjnnlbkaa", sum := "ea46f86742689344dee8c64950d2ab66f26308b87a5371e3cfc6222e822b7496", func := "loop.example/signalgraph/laws.FnValidOwners", spec := "fnValidOwners", unfollowed := true, recurses := true, apart := false }
def FnValidOwnersSaid : Prop := fnValidOwnersRow.holds Try.pinned (OpenSpec.ofChange fnValidOwnersSpec)

/-- ITS FALSE NEIGHBOUR: 'it returns false'. Refute it at one input. -/
def fnValidOwnersWrong : ChangeSpec := { name := "fnValidOwners", fn := fun _ => fun
  | [d] => { results := [.lit (.bool false)], args := [d] }
  | _ => none }
def FnValidOwnersWrongFalsely : Prop := fnValidOwnersRow.holds Try.pinned (OpenSpec.ofChange fnValidOwnersWrong)

/-- 'laws.FnAddCleanup': WHATEVER THE INPUT: true; the input reads as it did. -/
def fnAddCleanupSpec : ChangeSpec := { name := "fnAddCleanup", fn := fun _ => fun
  | [d] => { results := [.lit (.bool true)], args := [d] }
  | _ => none }
def fnAddCleanupRow : OpenClaim := { program := "ytkfglodjnnlbkaa", sum := "ea46f86742689344dee8c64950d2ab66f26308b87a5371e3cfc6222e822b7496", func := "loop.example/signalgraph/laws.FnAddCleanup", spec := "fnAddCleanup", unfollowed := true, recurses := true, apart := false }
def FnAddCleanupSaid : Prop := fnAddCleanupRow.holds Try.pinned (OpenSpec.ofChange fnAddCleanupSpec)

/-- ITS FALSE NEIGHBOUR: 'it returns false'. Refute it at one input. -/
def fnAddCleanupWrong : ChangeSpec := { name := "fnAddCleanup", fn := fun _ => fun
  | [d] => { results := [.lit (.bool false)], args := [d] }
  | _ => none }
def FnAddCleanupWrongFalsely : Prop := fnAddCleanupRow.holds Try.pinned (OpenSpec.ofChange fnAddCleanupWrong)

/-- 'laws.FnRerunOwner': WHATEVER THE INPUT: true; the input reads as it did. -/
def fnRerunOwnerSpec : ChangeSpec := { name := "fnRerunOwner", fn := fun _ => fun
  | [d] => { results := [.lit (.bool true)], args := [d] }
  | _ => none }
def fnRerunOwnerRow : OpenClaim := { program := "ytkfglodjnnlbkaa", sum := "ea46f86742689344dee8c64950d2ab66f26308b87a5371e3cfc6222e822b7496", func := "loop.example/signalgraph/laws.FnRerunOwner", spec := "fnRerunOwner", unfollowed := true, recurses := true, apart := false }
def FnRerunOwnerSaid : Prop := fnRerunOwnerRow.holds Try.pinned (OpenSpec.ofChange fnRerunOwnerSpec)

/-- ITS FALSE NEIGHBOUR: 'it returns false'. Refute it at one input. -/
def fnRerunOwnerWrong : ChangeSpec := { name := "fnRerunOwner", fn := fun _ => fun
  | [d] => { results := [.lit (.bool false)], args := [d] }
  | _ => none }
def FnRerunOwnerWrongFalsely : Prop := fnRerunOwnerRow.holds Try.pinned (OpenSpec.ofChange fnRerunOwnerWrong)

/-- 'laws.FnRerunOwnerAll': WHATEVER THE INPUT: true; the input reads as it did. -/
def fnRerunOwnerAllSpec : ChangeSpec := { name := "fnRerunOwnerAll", fn := fun _ => fun
  | [d] => { results := [.lit (.bool true)], args := [d] }
  | _ => none }
def fnRerunOwnerAllRow : OpenClaim := { program := "ytkfglodjnnlbkaa", sum := "ea46f86742689344dee8c64950d2ab66f26308b87a5371e3cfc6222e822b7496", func := "loop.example/signalgraph/laws.FnRerunOwnerAll", spec := "fnRerunOwnerAll", unfollowed := true, recurses := true, apart := false }
def FnRerunOwnerAllSaid : Prop := fnRerunOwnerAllRow.holds Try.pinned (OpenSpec.ofChange fnRerunOwnerAllSpec)

/-- ITS FALSE NEIGHBOUR: 'it returns false'. Refute it at one input. -/
def fnRerunOwnerAllWrong : ChangeSpec := { name := "fnRerunOwnerAll", fn := fun _ => fun
  | [d] => { results := [.lit (.bool false)], args := [d] }
  | _ => none }
def FnRerunOwnerAllWrongFalsely : Prop := fnRerunOwnerAllRow.holds Try.pinned (OpenSpec.ofChange fnRerunOwnerAllWrong)

/-- 'laws.FnDisposeOwner': WHATEVER THE INPUT: true; the input reads as it did. -/
def fnDisposeOwnerSpec : ChangeSpec := { name := "fnDisposeOwner", fn := fun _ => fun
  | [d] => { results := [.lit (.bool true)], args := [d] }
  | _ => none }
def fnDisposeOwnerRow : OpenClaim := { program := "ytkfglodjnnlbkaa", sum := "ea46f86742689344dee8c64950d2ab66f26308b87a5371e3cfc6222e822b7496", func := "loop.example/signalgraph/laws.FnDisposeOwner", spec := "fnDisposeOwner", unfollowed := true, recurses := true, apart := false }
def FnDisposeOwnerSaid : Prop := fnDisposeOwnerRow.holds Try.pinned (OpenSpec.ofChange fnDisposeOwnerSpec)

/-- ITS FALSE NEIGHBOUR: 'it returns false'. Refute it at one input. -/
def fnDisposeOwnerWrong : ChangeSpec := { name := "fnDisposeOwner", fn := fun _ => fun
  | [d] => { results := [.lit (.bool false)], args := [d] }
  | _ => none }
def FnDisposeOwnerWrongFalsely : Prop := fnDisposeOwnerRow.holds Try.pinned (OpenSpec.ofChange fnDisposeOwnerWrong)

/-- 'laws.FnLabelsOf': WHATEVER THE INPUT: true; the input reads as it did. -/
def fnLabelsOfSpec : ChangeSpec := { name := "fnLabelsOf", fn := fun _ => fun
  | [d] => { results := [.lit (.bool true)], args := [d] }
  | _ => none }
def fnLabelsOfRow : OpenClaim := { program := "ytkfglodjnnlbkaa", sum := "ea46f86742689344dee8c64950d2ab66f26308b87a5371e3cfc6222e822b7496", func := "loop.example/signalgraph/laws.FnLabelsOf", spec := "fnLabelsOf", unfollowed := true, recurses := true, apart := false }
def FnLabelsOfSaid : Prop := fnLabelsOfRow.holds Try.pinned (OpenSpec.ofChange fnLabelsOfSpec)

/-- ITS FALSE NEIGHBOUR: 'it returns false'. Refute it at one input. -/
def fnLabelsOfWrong : ChangeSpec := { name := "fnLabelsOf", fn := fun _ => fun
  | [d] => { results := [.lit (.bool false)], args := [d] }
  | _ => none }
def FnLabelsOfWrongFalsely : Prop := fnLabelsOfRow.holds Try.pinned (OpenSpec.ofChange fnLabelsOfWrong)

/-- 'laws.FnExactRerunOwner': WHATEVER THE INPUT: true; the input reads as it did. -/
def fnExactRerunOwnerSpec : ChangeSpec := { name := "fnExactRerunOwner", fn := fun _ => fun
  | [d1, d2] => { results := [.lit (.bool true)], args := [d1, d2] }
  | _ => none }
def fnExactRerunOwnerRow : OpenClaim := { program := "ytkfglodjnnlbkaa", sum := "ea46f86742689344dee8c64950d2ab66f26308b87a5371e3cfc6222e822b7496", func := "loop.example/signalgraph/laws.FnExactRerunOwner", spec := "fnExactRerunOwner", unfollowed := true, recurses := true, apart := false }
def FnExactRerunOwnerSaid : Prop := fnExactRerunOwnerRow.holds Try.pinned (OpenSpec.ofChange fnExactRerunOwnerSpec)

/-- ITS FALSE NEIGHBOUR: 'it returns false'. Refute it at one input. -/
def fnExactRerunOwnerWrong : ChangeSpec := { name := "fnExactRerunOwner", fn := fun _ => fun
  | [d1, d2] => { results := [.lit (.bool false)], args := [d1, d2] }
  | _ => none }
def FnExactRerunOwnerWrongFalsely : Prop := fnExactRerunOwnerRow.holds Try.pinned (OpenSpec.ofChange fnExactRerunOwnerWrong)

/-- 'laws.FnExactDisposeOwner': WHATEVER THE INPUT: true; the input reads as it did. -/
def fnExactDisposeOwnerSpec : ChangeSpec := { name := "fnExactDisposeOwner", fn := fun _ => fun
  | [d1, d2] => { results := [.lit (.bool true)], args := [d1, d2] }
  | _ => none }
def fnExactDisposeOwnerRow : OpenClaim := { program := "ytkfglodjnnlbkaa", sum := "ea46f86742689344dee8c64950d2ab66f26308b87a5371e3cfc6222e822b7496", func := "loop.example/signalgraph/laws.FnExactDisposeOwner", spec := "fnExactDisposeOwner", unfollowed := true, recurses := true, apart := false }
def FnExactDisposeOwnerSaid : Prop := fnExactDisposeOwnerRow.holds Try.pinned (OpenSpec.ofChange fnExactDisposeOwnerSpec)

/-- ITS FALSE NEIGHBOUR: 'it returns false'. Refute it at one input. -/
def fnExactDisposeOwnerWrong : ChangeSpec := { name := "fnExactDisposeOwner", fn := fun _ => fun
  | [d1, d2] => { results := [.lit (.bool false)], args := [d1, d2] }
  | _ => none }
def FnExactDisposeOwnerWrongFalsely : Prop := fnExactDisposeOwnerRow.holds Try.pinned (OpenSpec.ofChange fnExactDisposeOwnerWrong)

/-- 'laws.FnExactLabelsOf': WHATEVER THE INPUT: true; the input reads as it did. -/
def fnExactLabelsOfSpec : ChangeSpec := { name := "fnExactLabelsOf", fn := fun _ => fun
  | [d1, d2] => { results := [.lit (.bool true)], args := [d1, d2] }
  | _ => none }
def fnExactLabelsOfRow : OpenClaim := { program := "ytkfglodjnnlbkaa", sum := "ea46f86742689344dee8c64950d2ab66f26308b87a5371e3cfc6222e822b7496", func := "loop.example/signalgraph/laws.FnExactLabelsOf", spec := "fnExactLabelsOf", unfollowed := true, recurses := true, apart := false }
def FnExactLabelsOfSaid : Prop := fnExactLabelsOfRow.holds Try.pinned (OpenSpec.ofChange fnExactLabelsOfSpec)

/-- ITS FALSE NEIGHBOUR: 'it returns false'. Refute it at one input. -/
def fnExactLabelsOfWrong : ChangeSpec := { name := "fnExactLabelsOf", fn := fun _ => fun
  | [d1, d2] => { results := [.lit (.bool false)], args := [d1, d2] }
  | _ => none }
def FnExactLabelsOfWrongFalsely : Prop := fnExactLabelsOfRow.holds Try.pinned (OpenSpec.ofChange fnExactLabelsOfWrong)

/- THE SECOND FORM. 'bulk': how many values and letters a reading holds, each counted each time it is reached (what is shared counts as often as it is met; a slice's spare places count too). A statement '..UptoSaid' is the law's where the arguments, and the package variables that the reading takes, are together of bulk at most 1048576: NARROWER than '..Said'. Prove '..Said' where nothing that the law and all that it calls make is longer than what came in: it says more and counts as full. Else prove '..UptoSaid'. A law counts once. -/
mutual
def uptoBulk {H : Type} : DataW H → Nat
  | .lit (.string bytes) => bytes.length + 1
  | .lit _ => 1
  | .nil => 1
  | .ptr d => uptoBulk d + 1
  | .slice elems spare => uptoBulkAll elems + uptoBulkAll spare + 1
  | .agg parts => uptoBulkAll parts + 1
  | .iface _ d => uptoBulk d + 1
  | .map entries => uptoBulkEntries entries + 1
  | .held _ => 1
def uptoBulkAll {H : Type} : List (DataW H) → Nat
  | [] => 0
  | d :: r => uptoBulk d + uptoBulkAll r
def uptoBulkEntries {H : Type} : List (Lit × DataW H) → Nat
  | [] => 0
  | x :: r => uptoBulkEntry x + uptoBulkEntries r
def uptoBulkEntry {H : Type} : Lit × DataW H → Nat
  | (.string bytes, d) => bytes.length + uptoBulk d + 1
  | (_, d) => uptoBulk d + 1
 end
def uptoSmall : (H : Type) → List (DataW H) → Bool := fun _ ds => decide (uptoBulkAll ds ≤ 1048576)
def OpenSpec.upto (s : _root_.Go.ChangeSpec) : _root_.Go.OpenSpec := { _root_.Go.OpenSpec.ofChange s with cond := some uptoSmall }

/-- 'laws.FnValidOwners', WHERE WHAT IT READS IS OF BULK AT MOST 1048576: true; the input reads as it did. -/
def fnValidOwnersUptoRow : OpenClaim := { program := "ytkfglodjnnlbkaa", sum := "ea46f86742689344dee8c64950d2ab66f26308b87a5371e3cfc6222e822b7496", func := "loop.example/signalgraph/laws.FnValidOwners", spec := "fnValidOwners", unfollowed := true, recurses := true, apart := false, narrowed := true }
def FnValidOwnersUptoSaid : Prop := fnValidOwnersUptoRow.holds Try.pinned (OpenSpec.upto fnValidOwnersSpec)

/-- 'laws.FnAddCleanup', WHERE WHAT IT READS IS OF BULK AT MOST 1048576: true; the input reads as it did. -/
def fnAddCleanupUptoRow : OpenClaim := { program := "ytkfglodjnnlbkaa", sum := "ea46f86742689344dee8c64950d2ab66f26308b87a5371e3cfc6222e822b7496", func := "loop.example/signalgraph/laws.FnAddCleanup", spec := "fnAddCleanup", unfollowed := true, recurses := true, apart := false, narrowed := true }
def FnAddCleanupUptoSaid : Prop := fnAddCleanupUptoRow.holds Try.pinned (OpenSpec.upto fnAddCleanupSpec)

/-- 'laws.FnRerunOwner', WHERE WHAT IT READS IS OF BULK AT MOST 1048576: true; the input reads as it did. -/
def fnRerunOwnerUptoRow : OpenClaim := { program := "ytkfglodjnnlbkaa", sum := "ea46f86742689344dee8c64950d2ab66f26308b87a5371e3cfc6222e822b7496", func := "loop.example/signalgraph/laws.FnRerunOwner", spec := "fnRerunOwner", unfollowed := true, recurses := true, apart := false, narrowed := true }
def FnRerunOwnerUptoSaid : Prop := fnRerunOwnerUptoRow.holds Try.pinned (OpenSpec.upto fnRerunOwnerSpec)

/-- 'laws.FnRerunOwnerAll', WHERE WHAT IT READS IS OF BULK AT MOST 1048576: true; the input reads as it did. -/
def fnRerunOwnerAllUptoRow : OpenClaim := { program := "ytkfglodjnnlbkaa", sum := "ea46f86742689344dee8c64950d2ab66f26308b87a5371e3cfc6222e822b7496", func := "loop.example/signalgraph/laws.FnRerunOwnerAll", spec := "fnRerunOwnerAll", unfollowed := true, recurses := true, apart := false, narrowed := true }
def FnRerunOwnerAllUptoSaid : Prop := fnRerunOwnerAllUptoRow.holds Try.pinned (OpenSpec.upto fnRerunOwnerAllSpec)

/-- 'laws.FnDisposeOwner', WHERE WHAT IT READS IS OF BULK AT MOST 1048576: true; the input reads as it did. -/
def fnDisposeOwnerUptoRow : OpenClaim := { program := "ytkfglodjnnlbkaa", sum := "ea46f86742689344dee8c64950d2ab66f26308b87a5371e3cfc6222e822b7496", func := "loop.example/signalgraph/laws.FnDisposeOwner", spec := "fnDisposeOwner", unfollowed := true, recurses := true, apart := false, narrowed := true }
def FnDisposeOwnerUptoSaid : Prop := fnDisposeOwnerUptoRow.holds Try.pinned (OpenSpec.upto fnDisposeOwnerSpec)

/-- 'laws.FnLabelsOf', WHERE WHAT IT READS IS OF BULK AT MOST 1048576: true; the input reads as it did. -/
def fnLabelsOfUptoRow : OpenClaim := { program := "ytkfglodjnnlbkaa", sum := "ea46f86742689344dee8c64950d2ab66f26308b87a5371e3cfc6222e822b7496", func := "loop.example/signalgraph/laws.FnLabelsOf", spec := "fnLabelsOf", unfollowed := true, recurses := true, apart := false, narrowed := true }
def FnLabelsOfUptoSaid : Prop := fnLabelsOfUptoRow.holds Try.pinned (OpenSpec.upto fnLabelsOfSpec)

/-- 'laws.FnExactRerunOwner', WHERE WHAT IT READS IS OF BULK AT MOST 1048576: true; the input reads as it did. -/
def fnExactRerunOwnerUptoRow : OpenClaim := { program := "ytkfglodjnnlbkaa", sum := "ea46f86742689344dee8c64950d2ab66f26308b87a5371e3cfc6222e822b7496", func := "loop.example/signalgraph/laws.FnExactRerunOwner", spec := "fnExactRerunOwner", unfollowed := true, recurses := true, apart := false, narrowed := true }
def FnExactRerunOwnerUptoSaid : Prop := fnExactRerunOwnerUptoRow.holds Try.pinned (OpenSpec.upto fnExactRerunOwnerSpec)

/-- 'laws.FnExactDisposeOwner', WHERE WHAT IT READS IS OF BULK AT MOST 1048576: true; the input reads as it did. -/
def fnExactDisposeOwnerUptoRow : OpenClaim := { program := "ytkfglodjnnlbkaa", sum := "ea46f86742689344dee8c64950d2ab66f26308b87a5371e3cfc6222e822b7496", func := "loop.example/signalgraph/laws.FnExactDisposeOwner", spec := "fnExactDisposeOwner", unfollowed := true, recurses := true, apart := false, narrowed := true }
def FnExactDisposeOwnerUptoSaid : Prop := fnExactDisposeOwnerUptoRow.holds Try.pinned (OpenSpec.upto fnExactDisposeOwnerSpec)

/-- 'laws.FnExactLabelsOf', WHERE WHAT IT READS IS OF BULK AT MOST 1048576: true; the input reads as it did. -/
def fnExactLabelsOfUptoRow : OpenClaim := { program := "ytkfglodjnnlbkaa", sum := "ea46f86742689344dee8c64950d2ab66f26308b87a5371e3cfc6222e822b7496", func := "loop.example/signalgraph/laws.FnExactLabelsOf", spec := "fnExactLabelsOf", unfollowed := true, recurses := true, apart := false, narrowed := true }
def FnExactLabelsOfUptoSaid : Prop := fnExactLabelsOfUptoRow.holds Try.pinned (OpenSpec.upto fnExactLabelsOfSpec)

end Rows
end Go.Proofs.Ytkfglodjnnlbkaa
