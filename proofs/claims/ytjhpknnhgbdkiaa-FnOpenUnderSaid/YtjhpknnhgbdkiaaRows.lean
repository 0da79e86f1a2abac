/-
  No cell of these rows narrows 'for every input' (looked for: loops, veiled, ifaces, maps, wideKeys, modest, calm, conditions, laid).
  DERIVED. THE GIVEN ROWS OF THIS SEAT. 6 by the template 'for every input the law returns true; each argument reads behind the call as it read before'; 0 by the template 'total and deterministic' (their statements: YtjhpknnhgbdkiaaTotals.lean).
  GIVEN WITH THE SEED: the statements are not yours to turn. If you find one false, say at which input.
  Laid BY PROGRAM, IN A SANDBOX (cutbox-rows.mjs): the forced cells as the released guide's own fill.sh prints them over the translation aba4a6c1d6ab5f38… (all of the seat's roots in one cut). By AI agents, Wed Nov 11 2026. No macro, syntax, notation, axiom, sorry.
-/
import Derived.Test.YtjhpknnhgbdkiaaChecked
import GoSem.Claim
import GoSem.ClaimJoined
import GoSem.ClaimMapViews
import Derived.JoinedTies
import Derived.KernelRfl
namespace Go.Proofs.Ytjhpknnhgbdkiaa
/- THE CELL 'sum', in the pinned program and in every row, IS THE sha256 OF THE DUMP (.gsa) THAT YtjhpknnhgbdkiaaProg.lean LOADS. Nothing in Lean hashes anything: it is a label: what it is worth is what the hold of that sum in a sandbox is worth. -/
noncomputable def Try.pinned : Pinned := { name := "ytjhpknnhgbdkiaa", sum := "aba4a6c1d6ab5f3815e677024c3f0186d770037c55159ed3ef02da59dc2af08d", checked := Try.checked }
namespace Rows
def none {H : Type} : Left H := { results := [], args := [] }

/-- 'laws.FnKidsOf': WHATEVER THE INPUT: true; the input reads as it did. -/
def fnKidsOfSpec : ChangeSpec := { name := "fnKidsOf", fn := fun _ => fun
  | [d] => { results := [.lit (.bool true)], args := [d] }
  | _ => none }
def fnKidsOfRow : OpenClaim := { program := "ytjhpknnhgbdkiaa", sum := "aba4a6c1d6ab5f3815e677024c3f0186d770037c55159ed3ef02da59dc2af08d", func := "loop.example/signalgraph/laws.FnKidsOf", spec := "fnKidsOf", unfollowed := true, recurses := true, apart := false }
def FnKidsOfSaid : Prop := fnKidsOfRow.holds Try.pinned (OpenSpec.ofChange fnKidsOfSpec)

/-- ITS FALSE NEIGHBOUR: 'it returns false'. Refute it at one input. -/
def fnKidsOfWrong : ChangeSpec := { name := "fnKidsOf", fn := fun _ => fun
  | [d] => { results := [.lit (.bool false)], args := [d] }
  | _ => none }
def FnKidsOfWrongFalsely : Prop := fnKidsOfRow.holds Try.pinned (OpenSpec.ofChange fnKidsOfWrong)

/-- 'laws.FnAboveOf': WHATEVER THE INPUT: true; the input reads as it did. -/
def fnAboveOfSpec : ChangeSpec := { name := "fnAboveOf", fn := fun _ => fun
  | [d] => { results := [.lit (.bool true)], args := [d] }
  | _ => none }
def fnAboveOfRow : OpenClaim := { program := "ytjhpknnhgbdkiaa", sum := "aba4a6c1d6ab5f3815e677024c3f0186d770037c55159ed3ef02da59dc2af08d", func := "loop.example/signalgraph/laws.FnAboveOf", spec := "fnAboveOf", recurses := true, apart := false }
def FnAboveOfSaid : Prop := fnAboveOfRow.holds Try.pinned (OpenSpec.ofChange fnAboveOfSpec)

/-- ITS FALSE NEIGHBOUR: 'it returns false'. Refute it at one input. -/
def fnAboveOfWrong : ChangeSpec := { name := "fnAboveOf", fn := fun _ => fun
  | [d] => { results := [.lit (.bool false)], args := [d] }
  | _ => none }
def FnAboveOfWrongFalsely : Prop := fnAboveOfRow.holds Try.pinned (OpenSpec.ofChange fnAboveOfWrong)

/-- 'laws.FnLookUp': WHATEVER THE INPUT: true; the input reads as it did. -/
def fnLookUpSpec : ChangeSpec := { name := "fnLookUp", fn := fun _ => fun
  | [d] => { results := [.lit (.bool true)], args := [d] }
  | _ => none }
def fnLookUpRow : OpenClaim := { program := "ytjhpknnhgbdkiaa", sum := "aba4a6c1d6ab5f3815e677024c3f0186d770037c55159ed3ef02da59dc2af08d", func := "loop.example/signalgraph/laws.FnLookUp", spec := "fnLookUp", recurses := true, apart := false }
def FnLookUpSaid : Prop := fnLookUpRow.holds Try.pinned (OpenSpec.ofChange fnLookUpSpec)

/-- ITS FALSE NEIGHBOUR: 'it returns false'. Refute it at one input. -/
def fnLookUpWrong : ChangeSpec := { name := "fnLookUp", fn := fun _ => fun
  | [d] => { results := [.lit (.bool false)], args := [d] }
  | _ => none }
def FnLookUpWrongFalsely : Prop := fnLookUpRow.holds Try.pinned (OpenSpec.ofChange fnLookUpWrong)

/-- 'laws.FnLiveOf': WHATEVER THE INPUT: true; the input reads as it did. -/
def fnLiveOfSpec : ChangeSpec := { name := "fnLiveOf", fn := fun _ => fun
  | [d] => { results := [.lit (.bool true)], args := [d] }
  | _ => none }
def fnLiveOfRow : OpenClaim := { program := "ytjhpknnhgbdkiaa", sum := "aba4a6c1d6ab5f3815e677024c3f0186d770037c55159ed3ef02da59dc2af08d", func := "loop.example/signalgraph/laws.FnLiveOf", spec := "fnLiveOf", unfollowed := true, recurses := true, apart := false }
def FnLiveOfSaid : Prop := fnLiveOfRow.holds Try.pinned (OpenSpec.ofChange fnLiveOfSpec)

/-- ITS FALSE NEIGHBOUR: 'it returns false'. Refute it at one input. -/
def fnLiveOfWrong : ChangeSpec := { name := "fnLiveOf", fn := fun _ => fun
  | [d] => { results := [.lit (.bool false)], args := [d] }
  | _ => none }
def FnLiveOfWrongFalsely : Prop := fnLiveOfRow.holds Try.pinned (OpenSpec.ofChange fnLiveOfWrong)

/-- 'laws.FnOpenUnder': WHATEVER THE INPUT: true; the input reads as it did. -/
def fnOpenUnderSpec : ChangeSpec := { name := "fnOpenUnder", fn := fun _ => fun
  | [d] => { results := [.lit (.bool true)], args := [d] }
  | _ => none }
def fnOpenUnderRow : OpenClaim := { program := "ytjhpknnhgbdkiaa", sum := "aba4a6c1d6ab5f3815e677024c3f0186d770037c55159ed3ef02da59dc2af08d", func := "loop.example/signalgraph/laws.FnOpenUnder", spec := "fnOpenUnder", unfollowed := true, recurses := true, apart := false }
def FnOpenUnderSaid : Prop := fnOpenUnderRow.holds Try.pinned (OpenSpec.ofChange fnOpenUnderSpec)

/-- ITS FALSE NEIGHBOUR: 'it returns false'. Refute it at one input. -/
def fnOpenUnderWrong : ChangeSpec := { name := "fnOpenUnder", fn := fun _ => fun
  | [d] => { results := [.lit (.bool false)], args := [d] }
  | _ => none }
def FnOpenUnderWrongFalsely : Prop := fnOpenUnderRow.holds Try.pinned (OpenSpec.ofChange fnOpenUnderWrong)

/-- 'laws.FnSetContext': WHATEVER THE INPUT: true; the input reads as it did. -/
def fnSetContextSpec : ChangeSpec := { name := "fnSetContext", fn := fun _ => fun
  | [d] => { results := [.lit (.bool true)], args := [d] }
  | _ => none }
def fnSetContextRow : OpenClaim := { program := "ytjhpknnhgbdkiaa", sum := "aba4a6c1d6ab5f3815e677024c3f0186d770037c55159ed3ef02da59dc2af08d", func := "loop.example/signalgraph/laws.FnSetContext", spec := "fnSetContext", unfollowed := true, recurses := true, apart := false }
def FnSetContextSaid : Prop := fnSetContextRow.holds Try.pinned (OpenSpec.ofChange fnSetContextSpec)

/-- ITS FALSE NEIGHBOUR: 'it returns false'. Refute it at one input. -/
def fnSetContextWrong : ChangeSpec := { name := "fnSetContext", fn := fun _ => fun
  | [d] => { results := [.lit (.bool false)], args := [d] }
  | _ => none }
def FnSetContextWrongFalsely : Prop := fnSetContextRow.holds Try.pinned (OpenSpec.ofChange fnSetContextWrong)

/- THE SECOND FORM. 'bulk': how many values and letters a reading holds, each counted each time it is reached (what is shared counts as often as it is met; a slice's spare places count too). A statement '..UptoSaid' is the law's where the arguments, and the package variables that the reading takes, are together of bulk at most 1048576: NARROWER than '..Said'. Prove '..Said' where nothing that the law and all that it calls make is longer than what came in: it says more and counts as full. Else prove '..UptoSaid'. A law counts once. -/
mutual
def uptoBulk {H : Type} : DataW H → Nat
  | .lit (.string bytes) => bytes.length + 1
  | .lit _ => 1
  | .nil => 1
  | .ptr d => uptoBulk d + 1
  | .slice elems spare => uptoBulkAll elems + uptoBulkAll spare + 1
  | .agg parts => uptoBulkAll parts + 1
  | .iface _ d => uptoBulk d + 1
  | .map entries => uptoBulkEntries entries + 1
  | .held _ => 1
def uptoBulkAll {H : Type} : List (DataW H) → Nat
  | [] => 0
  | d :: r => uptoBulk d + uptoBulkAll r
def uptoBulkEntries {H : Type} : List (Lit × DataW H) → Nat
  | [] => 0
  | x :: r => uptoBulkEntry x + uptoBulkEntries r
def uptoBulkEntry {H : Type} : Lit × DataW H → Nat
  | (.string bytes, d) => bytes.length + uptoBulk d + 1
  | (_, d) => uptoBulk d + 1
 end
def uptoSmall : (H : Type) → List (DataW H) → Bool := fun _ ds => decide (uptoBulkAll ds ≤ 1048576)
def OpenSpec.upto (s : _root_.Go.ChangeSpec) : _root_.Go.OpenSpec := { _root_.Go.OpenSpec.ofChange s with cond := some uptoSmall }

/-- 'laws.FnKidsOf', WHERE WHAT IT READS IS OF BULK AT MOST 1048576: true; the input reads as it did. -/
def fnKidsOfUptoRow : OpenClaim := { program := "ytjhpknnhgbdkiaa", sum := "aba4a6c1d6ab5f3815e677024c3f0186d770037c55159ed3ef02da59dc2af08d", func := "loop.example/signalgraph/laws.FnKidsOf", spec := "fnKidsOf", unfollowed := true, recurses := true, apart := false, narrowed := true }
def FnKidsOfUptoSaid : Prop := fnKidsOfUptoRow.holds Try.pinned (OpenSpec.upto fnKidsOfSpec)

/-- 'laws.FnAboveOf', WHERE WHAT IT READS IS OF BULK AT MOST 1048576: true; the input reads as it did. -/
def fnAboveOfUptoRow : OpenClaim := { program := "ytjhpknnhgbdkiaa", sum := "aba4a6c1d6ab5f3815e677024c3f0186d770037c55159ed3ef02da59dc2af08d", func := "loop.example/signalgraph/laws.FnAboveOf", spec := "fnAboveOf", recurses := true, apart := false, narrowed := true }
def FnAboveOfUptoSaid : Prop := fnAboveOfUptoRow.holds Try.pinned (OpenSpec.upto fnAboveOfSpec)

/-- 'laws.FnLookUp', WHERE WHAT IT READS IS OF BULK AT MOST 1048576: true; the input reads as it did. -/
def fnLookUpUptoRow : OpenClaim := { program := "ytjhpknnhgbdkiaa", sum := "aba4a6c1d6ab5f3815e677024c3f0186d770037c55159ed3ef02da59dc2af08d", func := "loop.example/signalgraph/laws.FnLookUp", spec := "fnLookUp", recurses := true, apart := false, narrowed := true }
def FnLookUpUptoSaid : Prop := fnLookUpUptoRow.holds Try.pinned (OpenSpec.upto fnLookUpSpec)

/-- 'laws.FnLiveOf', WHERE WHAT IT READS IS OF BULK AT MOST 1048576: true; the input reads as it did. -/
def fnLiveOfUptoRow : OpenClaim := { program := "ytjhpknnhgbdkiaa", sum := "aba4a6c1d6ab5f3815e677024c3f0186d770037c55159ed3ef02da59dc2af08d", func := "loop.example/signalgraph/laws.FnLiveOf", spec := "fnLiveOf", unfollowed := true, recurses := true, apart := false, narrowed := true }
def FnLiveOfUptoSaid : Prop := fnLiveOfUptoRow.holds Try.pinned (OpenSpec.upto fnLiveOfSpec)

/-- 'laws.FnOpenUnder', WHERE WHAT IT READS IS OF BULK AT MOST 1048576: true; the input reads as it did. -/
def fnOpenUnderUptoRow : OpenClaim := { program := "ytjhpknnhgbdkiaa", sum := "aba4a6c1d6ab5f3815e677024c3f0186d770037c55159ed3ef02da59dc2af08d", func := "loop.example/signalgraph/laws.FnOpenUnder", spec := "fnOpenUnder", unfollowed := true, recurses := true, apart := false, narrowed := true }
def FnOpenUnderUptoSaid : Prop := fnOpenUnderUptoRow.holds Try.pinned (OpenSpec.upto fnOpenUnderSpec)

/-- 'laws.FnSetContext', WHERE WHAT IT READS IS OF BULK AT MOST 1048576: true; the input reads as it did. -/
def fnSetContextUptoRow : OpenClaim := { program := "ytjhpknnhgbdkiaa", sum := "aba4a6c1d6ab5f3815e677024c3f0186d770037c55159ed3ef02da59dc2af08d", func := "loop.example/signalgraph/laws.FnSetContext", spec := "fnSetContext", unfollowed := true, recurses := true, apart := false, narrowed := true }
def FnSetContextUptoSaid : Prop := fnSetContextUptoRow.holds Try.pinned (OpenSpec.upto fnSetContextSpec)

end Rows
end Go.Proofs.Ytjhpknnhgbdkiaa
