/-
  No cell of these rows narrows 'for every input' (looked for: loops, veiled, ifaces, maps, wideKeys, modest, calm, conditions, laid).
  DERIVED. THE GIVEN ROWS OF THIS SEAT. 9 by the template 'for every input the law returns true; each argument reads behind the call as it read before'; 0 by the template 'total and deterministic' (their statements: YtdcfmoaomlfijaaTotals.lean).
  GIVEN WITH THE SEED: the statements are not yours to turn. If you find one false, say at which input.
  Laid BY PROGRAM, IN A SANDBOX (cutbox-rows.mjs): the forced cells as the released guide's own fill.sh prints them over the translation 276116673619eace… (all of the seat's roots in one cut). By AI agents, Wed Nov 11 2026. No macro, syntax, notation, axiom, sorry.
-/
import Derived.Test.YtdcfmoaomlfijaaChecked
import GoSem.Claim
import GoSem.ClaimJoined
import GoSem.ClaimMapViews
import Derived.JoinedTies
import Derived.KernelRfl
namespace Go.Proofs.Ytdcfmoaomlfijaa
/- THE CELL 'sum', in the pinned program and in every row, IS THE sha256 OF THE DUMP (.gsa) THAT YtdcfmoaomlfijaaProg.lean LOADS. Nothing in Lean hashes anything: it is a label: what it is worth is what the hold of that sum in a sandbox is worth. -/
noncomputable def Try.pinned : Pinned := { name := "ytdcfmoaomlfijaa", sum := "276116673619eace1471cdf0f9330ed34ea9325bc90f83e2293da774518f6ea1", checked := Try.checked }
namespace Rows
def none {H : Type} : Left H := { results := [], args := [] }

/-- 'laws.FnExactValidOwners': WHATEVER THE INPUT: true; the input reads as it did. -/
def fnExactValidOwnersSpec : ChangeSpec := { name := "fnExactValidOwners", fn := fun _ => fun
  | [d] => { results := [.lit (.bool true)], args := [d] }
  | _ => none }
def fnExactValidOwnersRow : OpenClaim := { program := "ytdcfmoaomlfijaa", sum := "276116673619eace1471cdf0f9330ed34ea9325bc90f83e2293da774518f6ea1", func := "loop.example/signalgraph/laws.FnExactValidOwners", spec := "fnExactValidOwners", apart := false }
def FnExactValidOwnersSaid : Prop := fnExactValidOwnersRow.holds Try.pinned (OpenSpec.ofChange fnExactValidOwnersSpec)

/-- ITS FALSE NEIGHBOUR: 'it returns false'. Refute it at one input. -/
def fnExactValidOwnersWrong : ChangeSpec := { name := "fnExactValidOwners", fn := fun _ => fun
  | [d] => { results := [.lit (.bool false)], args := [d] }
  | _ => none }
def FnExactValidOwnersWrongFalsely : Prop := fnExactValidOwnersRow.holds Try.pinned (OpenSpec.ofChange fnExactValidOwnersWrong)

/-- 'laws.FnExactNewOwners': WHATEVER THE INPUT: true; the input reads as it did. -/
def fnExactNewOwnersSpec : ChangeSpec := { name := "fnExactNewOwners", fn := fun _ => fun
  | [d] => { results := [.lit (.bool true)], args := [d] }
  | _ => none }
def fnExactNewOwnersRow : OpenClaim := { program := "ytdcfmoaomlfijaa", sum := "276116673619eace1471cdf0f9330ed34ea9325bc90f83e2293da774518f6ea1", func := "loop.example/signalgraph/laws.FnExactNewOwners", spec := "fnExactNewOwners", apart := false }
def FnExactNewOwnersSaid : Prop := fnExactNewOwnersRow.holds Try.pinned (OpenSpec.ofChange fnExactNewOwnersSpec)

/-- ITS FALSE NEIGHBOUR: 'it returns false'. Refute it at one input. -/
def fnExactNewOwnersWrong : ChangeSpec := { name := "fnExactNewOwners", fn := fun _ => fun
  | [d] => { results := [.lit (.bool false)], args := [d] }
  | _ => none }
def FnExactNewOwnersWrongFalsely : Prop := fnExactNewOwnersRow.holds Try.pinned (OpenSpec.ofChange fnExactNewOwnersWrong)

/-- 'laws.FnExactOpenUnder': WHATEVER THE INPUT: true; the input reads as it did. -/
def fnExactOpenUnderSpec : ChangeSpec := { name := "fnExactOpenUnder", fn := fun _ => fun
  | [d1, d2] => { results := [.lit (.bool true)], args := [d1, d2] }
  | _ => none }
def fnExactOpenUnderRow : OpenClaim := { program := "ytdcfmoaomlfijaa", sum := "276116673619eace1471cdf0f9330ed34ea9325bc90f83e2293da774518f6ea1", func := "loop.example/signalgraph/laws.FnExactOpenUnder", spec := "fnExactOpenUnder", apart := false }
def FnExactOpenUnderSaid : Prop := fnExactOpenUnderRow.holds Try.pinned (OpenSpec.ofChange fnExactOpenUnderSpec)

/-- ITS FALSE NEIGHBOUR: 'it returns false'. Refute it at one input. -/
def fnExactOpenUnderWrong : ChangeSpec := { name := "fnExactOpenUnder", fn := fun _ => fun
  | [d1, d2] => { results := [.lit (.bool false)], args := [d1, d2] }
  | _ => none }
def FnExactOpenUnderWrongFalsely : Prop := fnExactOpenUnderRow.holds Try.pinned (OpenSpec.ofChange fnExactOpenUnderWrong)

/-- 'laws.FnExactAddCleanup': WHATEVER THE INPUT: true; the input reads as it did. -/
def fnExactAddCleanupSpec : ChangeSpec := { name := "fnExactAddCleanup", fn := fun _ => fun
  | [d1, d2, d3] => { results := [.lit (.bool true)], args := [d1, d2, d3] }
  | _ => none }
def fnExactAddCleanupRow : OpenClaim := { program := "ytdcfmoaomlfijaa", sum := "276116673619eace1471cdf0f9330ed34ea9325bc90f83e2293da774518f6ea1", func := "loop.example/signalgraph/laws.FnExactAddCleanup", spec := "fnExactAddCleanup", apart := false }
def FnExactAddCleanupSaid : Prop := fnExactAddCleanupRow.holds Try.pinned (OpenSpec.ofChange fnExactAddCleanupSpec)

/-- ITS FALSE NEIGHBOUR: 'it returns false'. Refute it at one input. -/
def fnExactAddCleanupWrong : ChangeSpec := { name := "fnExactAddCleanup", fn := fun _ => fun
  | [d1, d2, d3] => { results := [.lit (.bool false)], args := [d1, d2, d3] }
  | _ => none }
def FnExactAddCleanupWrongFalsely : Prop := fnExactAddCleanupRow.holds Try.pinned (OpenSpec.ofChange fnExactAddCleanupWrong)

/-- 'laws.FnExactSetContext': WHATEVER THE INPUT: true; the input reads as it did. -/
def fnExactSetContextSpec : ChangeSpec := { name := "fnExactSetContext", fn := fun _ => fun
  | [d1, d2, d3, d4] => { results := [.lit (.bool true)], args := [d1, d2, d3, d4] }
  | _ => none }
def fnExactSetContextRow : OpenClaim := { program := "ytdcfmoaomlfijaa", sum := "276116673619eace1471cdf0f9330ed34ea9325bc90f83e2293da774518f6ea1", func := "loop.example/signalgraph/laws.FnExactSetContext", spec := "fnExactSetContext", apart := false }
def FnExactSetContextSaid : Prop := fnExactSetContextRow.holds Try.pinned (OpenSpec.ofChange fnExactSetContextSpec)

/-- ITS FALSE NEIGHBOUR: 'it returns false'. Refute it at one input. -/
def fnExactSetContextWrong : ChangeSpec := { name := "fnExactSetContext", fn := fun _ => fun
  | [d1, d2, d3, d4] => { results := [.lit (.bool false)], args := [d1, d2, d3, d4] }
  | _ => none }
def FnExactSetContextWrongFalsely : Prop := fnExactSetContextRow.holds Try.pinned (OpenSpec.ofChange fnExactSetContextWrong)

/-- 'laws.FnExactLookUp': WHATEVER THE INPUT: true; the input reads as it did. -/
def fnExactLookUpSpec : ChangeSpec := { name := "fnExactLookUp", fn := fun _ => fun
  | [d1, d2, d3] => { results := [.lit (.bool true)], args := [d1, d2, d3] }
  | _ => none }
def fnExactLookUpRow : OpenClaim := { program := "ytdcfmoaomlfijaa", sum := "276116673619eace1471cdf0f9330ed34ea9325bc90f83e2293da774518f6ea1", func := "loop.example/signalgraph/laws.FnExactLookUp", spec := "fnExactLookUp", apart := false }
def FnExactLookUpSaid : Prop := fnExactLookUpRow.holds Try.pinned (OpenSpec.ofChange fnExactLookUpSpec)

/-- ITS FALSE NEIGHBOUR: 'it returns false'. Refute it at one input. -/
def fnExactLookUpWrong : ChangeSpec := { name := "fnExactLookUp", fn := fun _ => fun
  | [d1, d2, d3] => { results := [.lit (.bool false)], args := [d1, d2, d3] }
  | _ => none }
def FnExactLookUpWrongFalsely : Prop := fnExactLookUpRow.holds Try.pinned (OpenSpec.ofChange fnExactLookUpWrong)

/-- 'laws.FnExactKidsOf': WHATEVER THE INPUT: true; the input reads as it did. -/
def fnExactKidsOfSpec : ChangeSpec := { name := "fnExactKidsOf", fn := fun _ => fun
  | [d1, d2] => { results := [.lit (.bool true)], args := [d1, d2] }
  | _ => none }
def fnExactKidsOfRow : OpenClaim := { program := "ytdcfmoaomlfijaa", sum := "276116673619eace1471cdf0f9330ed34ea9325bc90f83e2293da774518f6ea1", func := "loop.example/signalgraph/laws.FnExactKidsOf", spec := "fnExactKidsOf", unfollowed := true, recurses := true, apart := false }
def FnExactKidsOfSaid : Prop := fnExactKidsOfRow.holds Try.pinned (OpenSpec.ofChange fnExactKidsOfSpec)

/-- ITS FALSE NEIGHBOUR: 'it returns false'. Refute it at one input. -/
def fnExactKidsOfWrong : ChangeSpec := { name := "fnExactKidsOf", fn := fun _ => fun
  | [d1, d2] => { results := [.lit (.bool false)], args := [d1, d2] }
  | _ => none }
def FnExactKidsOfWrongFalsely : Prop := fnExactKidsOfRow.holds Try.pinned (OpenSpec.ofChange fnExactKidsOfWrong)

/-- 'laws.FnExactAboveOf': WHATEVER THE INPUT: true; the input reads as it did. -/
def fnExactAboveOfSpec : ChangeSpec := { name := "fnExactAboveOf", fn := fun _ => fun
  | [d1, d2] => { results := [.lit (.bool true)], args := [d1, d2] }
  | _ => none }
def fnExactAboveOfRow : OpenClaim := { program := "ytdcfmoaomlfijaa", sum := "276116673619eace1471cdf0f9330ed34ea9325bc90f83e2293da774518f6ea1", func := "loop.example/signalgraph/laws.FnExactAboveOf", spec := "fnExactAboveOf", apart := false }
def FnExactAboveOfSaid : Prop := fnExactAboveOfRow.holds Try.pinned (OpenSpec.ofChange fnExactAboveOfSpec)

/-- ITS FALSE NEIGHBOUR: 'it returns false'. Refute it at one input. -/
def fnExactAboveOfWrong : ChangeSpec := { name := "fnExactAboveOf", fn := fun _ => fun
  | [d1, d2] => { results := [.lit (.bool false)], args := [d1, d2] }
  | _ => none }
def FnExactAboveOfWrongFalsely : Prop := fnExactAboveOfRow.holds Try.pinned (OpenSpec.ofChange fnExactAboveOfWrong)

/-- 'laws.FnExactLiveOf': WHATEVER THE INPUT: true; the input reads as it did. -/
def fnExactLiveOfSpec : ChangeSpec := { name := "fnExactLiveOf", fn := fun _ => fun
  | [d] => { results := [.lit (.bool true)], args := [d] }
  | _ => none }
def fnExactLiveOfRow : OpenClaim := { program := "ytdcfmoaomlfijaa", sum := "276116673619eace1471cdf0f9330ed34ea9325bc90f83e2293da774518f6ea1", func := "loop.example/signalgraph/laws.FnExactLiveOf", spec := "fnExactLiveOf", unfollowed := true, recurses := true, apart := false }
def FnExactLiveOfSaid : Prop := fnExactLiveOfRow.holds Try.pinned (OpenSpec.ofChange fnExactLiveOfSpec)

/-- ITS FALSE NEIGHBOUR: 'it returns false'. Refute it at one input. -/
def fnExactLiveOfWrong : ChangeSpec := { name := "fnExactLiveOf", fn := fun _ => fun
  | [d] => { results := [.lit (.bool false)], args := [d] }
  | _ => none }
def FnExactLiveOfWrongFalsely : Prop := fnExactLiveOfRow.holds Try.pinned (OpenSpec.ofChange fnExactLiveOfWrong)

/- THE SECOND FORM. 'bulk': how many values and letters a reading holds, each counted each time it is reached (what is shared counts as often as it is met; a slice's spare places count too). A statement '..UptoSaid' is the law's where the arguments, and the package variables that the reading takes, are together of bulk at most 1048576: NARROWER than '..Said'. Prove '..Said' where nothing that the law and all that it calls make is longer than what came in: it says more and counts as full. Else prove '..UptoSaid'. A law counts once. -/
mutual
def uptoBulk {H : Type} : DataW H → Nat
  | .lit (.string bytes) => bytes.length + 1
  | .lit _ => 1
  | .nil => 1
  | .ptr d => uptoBulk d + 1
  | .slice elems spare => uptoBulkAll elems + uptoBulkAll spare + 1
  | .agg parts => uptoBulkAll parts + 1
  | .iface _ d => uptoBulk d + 1
  | .map entries => uptoBulkEntries entries + 1
  | .held _ => 1
def uptoBulkAll {H : Type} : List (DataW H) → Nat
  | [] => 0
  | d :: r => uptoBulk d + uptoBulkAll r
def uptoBulkEntries {H : Type} : List (Lit × DataW H) → Nat
  | [] => 0
  | x :: r => uptoBulkEntry x + uptoBulkEntries r
def uptoBulkEntry {H : Type} : Lit × DataW H → Nat
  | (.string bytes, d) => bytes.length + uptoBulk d + 1
  | (_, d) => uptoBulk d + 1
 end
def uptoSmall : (H : Type) → List (DataW H) → Bool := fun _ ds => decide (uptoBulkAll ds ≤ 1048576)
def OpenSpec.upto (s : _root_.Go.ChangeSpec) : _root_.Go.OpenSpec := { _root_.Go.OpenSpec.ofChange s with cond := some uptoSmall }

/-- 'laws.FnExactValidOwners', WHERE WHAT IT READS IS OF BULK AT MOST 1048576: true; the input reads as it did. -/
def fnExactValidOwnersUptoRow : OpenClaim := { program := "ytdcfmoaomlfijaa", sum := "276116673619eace1471cdf0f9330ed34ea9325bc90f83e2293da774518f6ea1", func := "loop.example/signalgraph/laws.FnExactValidOwners", spec := "fnExactValidOwners", apart := false, narrowed := true }
def FnExactValidOwnersUptoSaid : Prop := fnExactValidOwnersUptoRow.holds Try.pinned (OpenSpec.upto fnExactValidOwnersSpec)

/-- 'laws.FnExactNewOwners', WHERE WHAT IT READS IS OF BULK AT MOST 1048576: true; the input reads as it did. -/
def fnExactNewOwnersUptoRow : OpenClaim := { program := "ytdcfmoaomlfijaa", sum := "276116673619eace1471cdf0f9330ed34ea9325bc90f83e2293da774518f6ea1", func := "loop.example/signalgraph/laws.FnExactNewOwners", spec := "fnExactNewOwners", apart := false, narrowed := true }
def FnExactNewOwnersUptoSaid : Prop := fnExactNewOwnersUptoRow.holds Try.pinned (OpenSpec.upto fnExactNewOwnersSpec)

/-- 'laws.FnExactOpenUnder', WHERE WHAT IT READS IS OF BULK AT MOST 1048576: true; the input reads as it did. -/
def fnExactOpenUnderUptoRow : OpenClaim := { program := "ytdcfmoaomlfijaa", sum := "276116673619eace1471cdf0f9330ed34ea9325bc90f83e2293da774518f6ea1", func := "loop.example/signalgraph/laws.FnExactOpenUnder", spec := "fnExactOpenUnder", apart := false, narrowed := true }
def FnExactOpenUnderUptoSaid : Prop := fnExactOpenUnderUptoRow.holds Try.pinned (OpenSpec.upto fnExactOpenUnderSpec)

/-- 'laws.FnExactAddCleanup', WHERE WHAT IT READS IS OF BULK AT MOST 1048576: true; the input reads as it did. -/
def fnExactAddCleanupUptoRow : OpenClaim := { program := "ytdcfmoaomlfijaa", sum := "276116673619eace1471cdf0f9330ed34ea9325bc90f83e2293da774518f6ea1", func := "loop.example/signalgraph/laws.FnExactAddCleanup", spec := "fnExactAddCleanup", apart := false, narrowed := true }
def FnExactAddCleanupUptoSaid : Prop := fnExactAddCleanupUptoRow.holds Try.pinned (OpenSpec.upto fnExactAddCleanupSpec)

/-- 'laws.FnExactSetContext', WHERE WHAT IT READS IS OF BULK AT MOST 1048576: true; the input reads as it did. -/
def fnExactSetContextUptoRow : OpenClaim := { program := "ytdcfmoaomlfijaa", sum := "276116673619eace1471cdf0f9330ed34ea9325bc90f83e2293da774518f6ea1", func := "loop.example/signalgraph/laws.FnExactSetContext", spec := "fnExactSetContext", apart := false, narrowed := true }
def FnExactSetContextUptoSaid : Prop := fnExactSetContextUptoRow.holds Try.pinned (OpenSpec.upto fnExactSetContextSpec)

/-- 'laws.FnExactLookUp', WHERE WHAT IT READS IS OF BULK AT MOST 1048576: true; the input reads as it did. -/
def fnExactLookUpUptoRow : OpenClaim := { program := "ytdcfmoaomlfijaa", sum := "276116673619eace1471cdf0f9330ed34ea9325bc90f83e2293da774518f6ea1", func := "loop.example/signalgraph/laws.FnExactLookUp", spec := "fnExactLookUp", apart := false, narrowed := true }
def FnExactLookUpUptoSaid : Prop := fnExactLookUpUptoRow.holds Try.pinned (OpenSpec.upto fnExactLookUpSpec)

/-- 'laws.FnExactKidsOf', WHERE WHAT IT READS IS OF BULK AT MOST 1048576: true; the input reads as it did. -/
def fnExactKidsOfUptoRow : OpenClaim := { program := "ytdcfmoaomlfijaa", sum := "276116673619eace1471cdf0f9330ed34ea9325bc90f83e2293da774518f6ea1", func := "loop.example/signalgraph/laws.FnExactKidsOf", spec := "fnExactKidsOf", unfollowed := true, recurses := true, apart := false, narrowed := true }
def FnExactKidsOfUptoSaid : Prop := fnExactKidsOfUptoRow.holds Try.pinned (OpenSpec.upto fnExactKidsOfSpec)

/-- 'laws.FnExactAboveOf', WHERE WHAT IT READS IS OF BULK AT MOST 1048576: true; the input reads as it did. -/
def fnExactAboveOfUptoRow : OpenClaim := { program := "ytdcfmoaomlfijaa", sum := "276116673619eace1471cdf0f9330ed34ea9325bc90f83e2293da774518f6ea1", func := "loop.example/signalgraph/laws.FnExactAboveOf", spec := "fnExactAboveOf", apart := false, narrowed := true }
def FnExactAboveOfUptoSaid : Prop := fnExactAboveOfUptoRow.holds Try.pinned (OpenSpec.upto fnExactAboveOfSpec)

/-- 'laws.FnExactLiveOf', WHERE WHAT IT READS IS OF BULK AT MOST 1048576: true; the input reads as it did. -/
def fnExactLiveOfUptoRow : OpenClaim := { program := "ytdcfmoaomlfijaa", sum := "276116673619eace1471cdf0f9330ed34ea9325bc90f83e2293da774518f6ea1", func := "loop.example/signalgraph/laws.FnExactLiveOf", spec := "fnExactLiveOf", unfollowed := true, recurses := true, apart := false, narrowed := true }
def FnExactLiveOfUptoSaid : Prop := fnExactLiveOfUptoRow.holds Try.pinned (OpenSpec.upto fnExactLiveOfSpec)

end Rows
end Go.Proofs.Ytdcfmoaomlfijaa
