/-
  No cell of these rows narrows 'for every input' (looked for: loops, veiled, ifaces, maps, wideKeys, modest, calm, conditions, laid).
  DERIVED. THE GIVEN ROWS OF THIS SEAT. 10 by the template 'for every input the law returns true; each argument reads behind the call as it read before'; 0 by the template 'total and deterministic' (their statements: YtdhjflhpenkchaaTotals.lean).
  GIVEN WITH THE SEED: the statements are not yours to turn. If you find one false, say at which input.
  Laid BY PROGRAM, IN A SANDBOX (cutbox-rows.mjs): the forced cells as the released guide's own fill.sh prints them over the translation 25ae2b3b3a9cf874… (all of the seat's roots in one cut). By AI agents, Wed Nov 11 2026. No macro, syntax, notation, axiom, sorry.
-/
import Derived.Test.YtdhjflhpenkchaaChecked
import GoSem.Claim
import GoSem.ClaimJoined
import GoSem.ClaimMapViews
import Derived.JoinedTies
import Derived.KernelRfl
namespace Go.Proofs.Ytdhjflhpenkchaa
/- THE CELL 'sum', in the pinned program and in every row, IS THE sha256 OF THE DUMP (.gsa) THAT YtdhjflhpenkchaaProg.lean LOADS. Nothing in Lean hashes anything: it is a label: what it is worth is what the hold of that sum in a sandbox is worth. -/
noncomputable def Try.pinned : Pinned := { name := "ytdhjflhpenkchaa", sum := "25ae2b3b3a9cf874c643daa0a7c5c1b76a62f156928b10e4d7be1b32e90c2871", checked := Try.checked }
namespace Rows
def none {H : Type} : Left H := { results := [], args := [] }

/-- 'laws.FnUsersOf': WHATEVER THE INPUT: true; the input reads as it did. -/
def fnUsersOfSpec : ChangeSpec := { name := "fnUsersOf", fn := fun _ => fun
  | [d] => { results := [.lit (.bool true)], args := [d] }
  | _ => none }
def fnUsersOfRow : OpenClaim := { program := "ytdhjflhpenkchaa", sum := "25ae2b3b3a9cf874c643daa0a7c5c1b76a62f156928b10e4d7be1b32e90c2871", func := "loop.example/signalgraph/laws.FnUsersOf", spec := "fnUsersOf", apart := false }
def FnUsersOfSaid : Prop := fnUsersOfRow.holds Try.pinned (OpenSpec.ofChange fnUsersOfSpec)

/-- ITS FALSE NEIGHBOUR: 'it returns false'. Refute it at one input. -/
def fnUsersOfWrong : ChangeSpec := { name := "fnUsersOf", fn := fun _ => fun
  | [d] => { results := [.lit (.bool false)], args := [d] }
  | _ => none }
def FnUsersOfWrongFalsely : Prop := fnUsersOfRow.holds Try.pinned (OpenSpec.ofChange fnUsersOfWrong)

/-- 'laws.FnReachOf': WHATEVER THE INPUT: true; the input reads as it did. -/
def fnReachOfSpec : ChangeSpec := { name := "fnReachOf", fn := fun _ => fun
  | [d] => { results := [.lit (.bool true)], args := [d] }
  | _ => none }
def fnReachOfRow : OpenClaim := { program := "ytdhjflhpenkchaa", sum := "25ae2b3b3a9cf874c643daa0a7c5c1b76a62f156928b10e4d7be1b32e90c2871", func := "loop.example/signalgraph/laws.FnReachOf", spec := "fnReachOf", unfollowed := true, recurses := true, apart := false }
def FnReachOfSaid : Prop := fnReachOfRow.holds Try.pinned (OpenSpec.ofChange fnReachOfSpec)

/-- ITS FALSE NEIGHBOUR: 'it returns false'. Refute it at one input. -/
def fnReachOfWrong : ChangeSpec := { name := "fnReachOf", fn := fun _ => fun
  | [d] => { results := [.lit (.bool false)], args := [d] }
  | _ => none }
def FnReachOfWrongFalsely : Prop := fnReachOfRow.holds Try.pinned (OpenSpec.ofChange fnReachOfWrong)

/-- 'laws.FnNeedOf': WHATEVER THE INPUT: true; the input reads as it did. -/
def fnNeedOfSpec : ChangeSpec := { name := "fnNeedOf", fn := fun _ => fun
  | [d] => { results := [.lit (.bool true)], args := [d] }
  | _ => none }
def fnNeedOfRow : OpenClaim := { program := "ytdhjflhpenkchaa", sum := "25ae2b3b3a9cf874c643daa0a7c5c1b76a62f156928b10e4d7be1b32e90c2871", func := "loop.example/signalgraph/laws.FnNeedOf", spec := "fnNeedOf", unfollowed := true, recurses := true, apart := false }
def FnNeedOfSaid : Prop := fnNeedOfRow.holds Try.pinned (OpenSpec.ofChange fnNeedOfSpec)

/-- ITS FALSE NEIGHBOUR: 'it returns false'. Refute it at one input. -/
def fnNeedOfWrong : ChangeSpec := { name := "fnNeedOf", fn := fun _ => fun
  | [d] => { results := [.lit (.bool false)], args := [d] }
  | _ => none }
def FnNeedOfWrongFalsely : Prop := fnNeedOfRow.holds Try.pinned (OpenSpec.ofChange fnNeedOfWrong)

/-- 'laws.FnWatchedOf': WHATEVER THE INPUT: true; the input reads as it did. -/
def fnWatchedOfSpec : ChangeSpec := { name := "fnWatchedOf", fn := fun _ => fun
  | [d] => { results := [.lit (.bool true)], args := [d] }
  | _ => none }
def fnWatchedOfRow : OpenClaim := { program := "ytdhjflhpenkchaa", sum := "25ae2b3b3a9cf874c643daa0a7c5c1b76a62f156928b10e4d7be1b32e90c2871", func := "loop.example/signalgraph/laws.FnWatchedOf", spec := "fnWatchedOf", unfollowed := true, recurses := true, apart := false }
def FnWatchedOfSaid : Prop := fnWatchedOfRow.holds Try.pinned (OpenSpec.ofChange fnWatchedOfSpec)

/-- ITS FALSE NEIGHBOUR: 'it returns false'. Refute it at one input. -/
def fnWatchedOfWrong : ChangeSpec := { name := "fnWatchedOf", fn := fun _ => fun
  | [d] => { results := [.lit (.bool false)], args := [d] }
  | _ => none }
def FnWatchedOfWrongFalsely : Prop := fnWatchedOfRow.holds Try.pinned (OpenSpec.ofChange fnWatchedOfWrong)

/-- 'laws.FnHeightsOf': WHATEVER THE INPUT: true; the input reads as it did. -/
def fnHeightsOfSpec : ChangeSpec := { name := "fnHeightsOf", fn := fun _ => fun
  | [d] => { results := [.lit (.bool true)], args := [d] }
  | _ => none }
def fnHeightsOfRow : OpenClaim := { program := "ytdhjflhpenkchaa", sum := "25ae2b3b3a9cf874c643daa0a7c5c1b76a62f156928b10e4d7be1b32e90c2871", func := "loop.example/signalgraph/laws.FnHeightsOf", spec := "fnHeightsOf", unfollowed := true, recurses := true, apart := false }
def FnHeightsOfSaid : Prop := fnHeightsOfRow.holds Try.pinned (OpenSpec.ofChange fnHeightsOfSpec)

/-- ITS FALSE NEIGHBOUR: 'it returns false'. Refute it at one input. -/
def fnHeightsOfWrong : ChangeSpec := { name := "fnHeightsOf", fn := fun _ => fun
  | [d] => { results := [.lit (.bool false)], args := [d] }
  | _ => none }
def FnHeightsOfWrongFalsely : Prop := fnHeightsOfRow.holds Try.pinned (OpenSpec.ofChange fnHeightsOfWrong)

/-- 'laws.FnDepsOf': WHATEVER THE INPUT: true; the input reads as it did. -/
def fnDepsOfSpec : ChangeSpec := { name := "fnDepsOf", fn := fun _ => fun
  | [d] => { results := [.lit (.bool true)], args := [d] }
  | _ => none }
def fnDepsOfRow : OpenClaim := { program := "ytdhjflhpenkchaa", sum := "25ae2b3b3a9cf874c643daa0a7c5c1b76a62f156928b10e4d7be1b32e90c2871", func := "loop.example/signalgraph/laws.FnDepsOf", spec := "fnDepsOf", unfollowed := true, recurses := true, apart := false }
def FnDepsOfSaid : Prop := fnDepsOfRow.holds Try.pinned (OpenSpec.ofChange fnDepsOfSpec)

/-- ITS FALSE NEIGHBOUR: 'it returns false'. Refute it at one input. -/
def fnDepsOfWrong : ChangeSpec := { name := "fnDepsOf", fn := fun _ => fun
  | [d] => { results := [.lit (.bool false)], args := [d] }
  | _ => none }
def FnDepsOfWrongFalsely : Prop := fnDepsOfRow.holds Try.pinned (OpenSpec.ofChange fnDepsOfWrong)

/-- 'laws.FnChangedBy': WHATEVER THE INPUT: true; the input reads as it did. -/
def fnChangedBySpec : ChangeSpec := { name := "fnChangedBy", fn := fun _ => fun
  | [d] => { results := [.lit (.bool true)], args := [d] }
  | _ => none }
def fnChangedByRow : OpenClaim := { program := "ytdhjflhpenkchaa", sum := "25ae2b3b3a9cf874c643daa0a7c5c1b76a62f156928b10e4d7be1b32e90c2871", func := "loop.example/signalgraph/laws.FnChangedBy", spec := "fnChangedBy", unfollowed := true, recurses := true, apart := false }
def FnChangedBySaid : Prop := fnChangedByRow.holds Try.pinned (OpenSpec.ofChange fnChangedBySpec)

/-- ITS FALSE NEIGHBOUR: 'it returns false'. Refute it at one input. -/
def fnChangedByWrong : ChangeSpec := { name := "fnChangedBy", fn := fun _ => fun
  | [d] => { results := [.lit (.bool false)], args := [d] }
  | _ => none }
def FnChangedByWrongFalsely : Prop := fnChangedByRow.holds Try.pinned (OpenSpec.ofChange fnChangedByWrong)

/-- 'laws.FnMeaningOfFar': WHATEVER THE INPUT: true; the input reads as it did. -/
def fnMeaningOfFarSpec : ChangeSpec := { name := "fnMeaningOfFar", fn := fun _ => fun
  | [d] => { results := [.lit (.bool true)], args := [d] }
  | _ => none }
def fnMeaningOfFarRow : OpenClaim := { program := "ytdhjflhpenkchaa", sum := "25ae2b3b3a9cf874c643daa0a7c5c1b76a62f156928b10e4d7be1b32e90c2871", func := "loop.example/signalgraph/laws.FnMeaningOfFar", spec := "fnMeaningOfFar", unfollowed := true, recurses := true, apart := false }
def FnMeaningOfFarSaid : Prop := fnMeaningOfFarRow.holds Try.pinned (OpenSpec.ofChange fnMeaningOfFarSpec)

/-- ITS FALSE NEIGHBOUR: 'it returns false'. Refute it at one input. -/
def fnMeaningOfFarWrong : ChangeSpec := { name := "fnMeaningOfFar", fn := fun _ => fun
  | [d] => { results := [.lit (.bool false)], args := [d] }
  | _ => none }
def FnMeaningOfFarWrongFalsely : Prop := fnMeaningOfFarRow.holds Try.pinned (OpenSpec.ofChange fnMeaningOfFarWrong)

/-- 'laws.FnMayRun': WHATEVER THE INPUT: true; the input reads as it did. -/
def fnMayRunSpec : ChangeSpec := { name := "fnMayRun", fn := fun _ => fun
  | [d] => { results := [.lit (.bool true)], args := [d] }
  | _ => none }
def fnMayRunRow : OpenClaim := { program := "ytdhjflhpenkchaa", sum := "25ae2b3b3a9cf874c643daa0a7c5c1b76a62f156928b10e4d7be1b32e90c2871", func := "loop.example/signalgraph/laws.FnMayRun", spec := "fnMayRun", unfollowed := true, recurses := true, apart := false }
def FnMayRunSaid : Prop := fnMayRunRow.holds Try.pinned (OpenSpec.ofChange fnMayRunSpec)

/-- ITS FALSE NEIGHBOUR: 'it returns false'. Refute it at one input. -/
def fnMayRunWrong : ChangeSpec := { name := "fnMayRun", fn := fun _ => fun
  | [d] => { results := [.lit (.bool false)], args := [d] }
  | _ => none }
def FnMayRunWrongFalsely : Prop := fnMayRunRow.holds Try.pinned (OpenSpec.ofChange fnMayRunWrong)

/-- 'laws.FnWhyChanged': WHATEVER THE INPUT: true; the input reads as it did. -/
def fnWhyChangedSpec : ChangeSpec := { name := "fnWhyChanged", fn := fun _ => fun
  | [d] => { results := [.lit (.bool true)], args := [d] }
  | _ => none }
def fnWhyChangedRow : OpenClaim := { program := "ytdhjflhpenkchaa", sum := "25ae2b3b3a9cf874c643daa0a7c5c1b76a62f156928b10e4d7be1b32e90c2871", func := "loop.example/signalgraph/laws.FnWhyChanged", spec := "fnWhyChanged", unfollowed := true, recurses := true, apart := false }
def FnWhyChangedSaid : Prop := fnWhyChangedRow.holds Try.pinned (OpenSpec.ofChange fnWhyChangedSpec)

/-- ITS FALSE NEIGHBOUR: 'it returns false'. Refute it at one input. -/
def fnWhyChangedWrong : ChangeSpec := { name := "fnWhyChanged", fn := fun _ => fun
  | [d] => { results := [.lit (.bool false)], args := [d] }
  | _ => none }
def FnWhyChangedWrongFalsely : Prop := fnWhyChangedRow.holds Try.pinned (OpenSpec.ofChange fnWhyChangedWrong)

/- THE SECOND FORM. 'bulk': how many values and letters a reading holds, each counted each time it is reached (what is shared counts as often as it is met; a slice's spare places count too). A statement '..UptoSaid' is the law's where the arguments, and the package variables that the reading takes, are together of bulk at most 1048576: NARROWER than '..Said'. Prove '..Said' where nothing that the law and all that it calls make is longer than what came in: it says more and counts as full. Else prove '..UptoSaid'. A law counts once. -/
mutual
def uptoBulk {H : Type} : DataW H → Nat
  | .lit (.string bytes) => bytes.length + 1
  | .lit _ => 1
  | .nil => 1
  | .ptr d => uptoBulk d + 1
  | .slice elems spare => uptoBulkAll elems + uptoBulkAll spare + 1
  | .agg parts => uptoBulkAll parts + 1
  | .iface _ d => uptoBulk d + 1
  | .map entries => uptoBulkEntries entries + 1
  | .held _ => 1
def uptoBulkAll {H : Type} : List (DataW H) → Nat
  | [] => 0
  | d :: r => uptoBulk d + uptoBulkAll r
def uptoBulkEntries {H : Type} : List (Lit × DataW H) → Nat
  | [] => 0
  | x :: r => uptoBulkEntry x + uptoBulkEntries r
def uptoBulkEntry {H : Type} : Lit × DataW H → Nat
  | (.string bytes, d) => bytes.length + uptoBulk d + 1
  | (_, d) => uptoBulk d + 1
 end
def uptoSmall : (H : Type) → List (DataW H) → Bool := fun _ ds => decide (uptoBulkAll ds ≤ 1048576)
def OpenSpec.upto (s : _root_.Go.ChangeSpec) : _root_.Go.OpenSpec := { _root_.Go.OpenSpec.ofChange s with cond := some uptoSmall }

/-- 'laws.FnUsersOf', WHERE WHAT IT READS IS OF BULK AT MOST 1048576: true; the input reads as it did. -/
def fnUsersOfUptoRow : OpenClaim := { program := "ytdhjflhpenkchaa", sum := "25ae2b3b3a9cf874c643daa0a7c5c1b76a62f156928b10e4d7be1b32e90c2871", func := "loop.example/signalgraph/laws.FnUsersOf", spec := "fnUsersOf", apart := false, narrowed := true }
def FnUsersOfUptoSaid : Prop := fnUsersOfUptoRow.holds Try.pinned (OpenSpec.upto fnUsersOfSpec)

/-- 'laws.FnReachOf', WHERE WHAT IT READS IS OF BULK AT MOST 1048576: true; the input reads as it did. -/
def fnReachOfUptoRow : OpenClaim := { program := "ytdhjflhpenkchaa", sum := "25ae2b3b3a9cf874c643daa0a7c5c1b76a62f156928b10e4d7be1b32e90c2871", func := "loop.example/signalgraph/laws.FnReachOf", spec := "fnReachOf", unfollowed := true, recurses := true, apart := false, narrowed := true }
def FnReachOfUptoSaid : Prop := fnReachOfUptoRow.holds Try.pinned (OpenSpec.upto fnReachOfSpec)

/-- 'laws.FnNeedOf', WHERE WHAT IT READS IS OF BULK AT MOST 1048576: true; the input reads as it did. -/
def fnNeedOfUptoRow : OpenClaim := { program := "ytdhjflhpenkchaa", sum := "25ae2b3b3a9cf874c643daa0a7c5c1b76a62f156928b10e4d7be1b32e90c2871", func := "loop.example/signalgraph/laws.FnNeedOf", spec := "fnNeedOf", unfollowed := true, recurses := true, apart := false, narrowed := true }
def FnNeedOfUptoSaid : Prop := fnNeedOfUptoRow.holds Try.pinned (OpenSpec.upto fnNeedOfSpec)

/-- 'laws.FnWatchedOf', WHERE WHAT IT READS IS OF BULK AT MOST 1048576: true; the input reads as it did. -/
def fnWatchedOfUptoRow : OpenClaim := { program := "ytdhjflhpenkchaa", sum := "25ae2b3b3a9cf874c643daa0a7c5c1b76a62f156928b10e4d7be1b32e90c2871", func := "loop.example/signalgraph/laws.FnWatchedOf", spec := "fnWatchedOf", unfollowed := true, recurses := true, apart := false, narrowed := true }
def FnWatchedOfUptoSaid : Prop := fnWatchedOfUptoRow.holds Try.pinned (OpenSpec.upto fnWatchedOfSpec)

/-- 'laws.FnHeightsOf', WHERE WHAT IT READS IS OF BULK AT MOST 1048576: true; the input reads as it did. -/
def fnHeightsOfUptoRow : OpenClaim := { program := "ytdhjflhpenkchaa", sum := "25ae2b3b3a9cf874c643daa0a7c5c1b76a62f156928b10e4d7be1b32e90c2871", func := "loop.example/signalgraph/laws.FnHeightsOf", spec := "fnHeightsOf", unfollowed := true, recurses := true, apart := false, narrowed := true }
def FnHeightsOfUptoSaid : Prop := fnHeightsOfUptoRow.holds Try.pinned (OpenSpec.upto fnHeightsOfSpec)

/-- 'laws.FnDepsOf', WHERE WHAT IT READS IS OF BULK AT MOST 1048576: true; the input reads as it did. -/
def fnDepsOfUptoRow : OpenClaim := { program := "ytdhjflhpenkchaa", sum := "25ae2b3b3a9cf874c643daa0a7c5c1b76a62f156928b10e4d7be1b32e90c2871", func := "loop.example/signalgraph/laws.FnDepsOf", spec := "fnDepsOf", unfollowed := true, recurses := true, apart := false, narrowed := true }
def FnDepsOfUptoSaid : Prop := fnDepsOfUptoRow.holds Try.pinned (OpenSpec.upto fnDepsOfSpec)

/-- 'laws.FnChangedBy', WHERE WHAT IT READS IS OF BULK AT MOST 1048576: true; the input reads as it did. -/
def fnChangedByUptoRow : OpenClaim := { program := "ytdhjflhpenkchaa", sum := "25ae2b3b3a9cf874c643daa0a7c5c1b76a62f156928b10e4d7be1b32e90c2871", func := "loop.example/signalgraph/laws.FnChangedBy", spec := "fnChangedBy", unfollowed := true, recurses := true, apart := false, narrowed := true }
def FnChangedByUptoSaid : Prop := fnChangedByUptoRow.holds Try.pinned (OpenSpec.upto fnChangedBySpec)

/-- 'laws.FnMeaningOfFar', WHERE WHAT IT READS IS OF BULK AT MOST 1048576: true; the input reads as it did. -/
def fnMeaningOfFarUptoRow : OpenClaim := { program := "ytdhjflhpenkchaa", sum := "25ae2b3b3a9cf874c643daa0a7c5c1b76a62f156928b10e4d7be1b32e90c2871", func := "loop.example/signalgraph/laws.FnMeaningOfFar", spec := "fnMeaningOfFar", unfollowed := true, recurses := true, apart := false, narrowed := true }
def FnMeaningOfFarUptoSaid : Prop := fnMeaningOfFarUptoRow.holds Try.pinned (OpenSpec.upto fnMeaningOfFarSpec)

/-- 'laws.FnMayRun', WHERE WHAT IT READS IS OF BULK AT MOST 1048576: true; the input reads as it did. -/
def fnMayRunUptoRow : OpenClaim := { program := "ytdhjflhpenkchaa", sum := "25ae2b3b3a9cf874c643daa0a7c5c1b76a62f156928b10e4d7be1b32e90c2871", func := "loop.example/signalgraph/laws.FnMayRun", spec := "fnMayRun", unfollowed := true, recurses := true, apart := false, narrowed := true }
def FnMayRunUptoSaid : Prop := fnMayRunUptoRow.holds Try.pinned (OpenSpec.upto fnMayRunSpec)

/-- 'laws.FnWhyChanged', WHERE WHAT IT READS IS OF BULK AT MOST 1048576: true; the input reads as it did. -/
def fnWhyChangedUptoRow : OpenClaim := { program := "ytdhjflhpenkchaa", sum := "25ae2b3b3a9cf874c643daa0a7c5c1b76a62f156928b10e4d7be1b32e90c2871", func := "loop.example/signalgraph/laws.FnWhyChanged", spec := "fnWhyChanged", unfollowed := true, recurses := true, apart := false, narrowed := true }
def FnWhyChangedUptoSaid : Prop := fnWhyChangedUptoRow.holds Try.pinned (OpenSpec.upto fnWhyChangedSpec)

end Rows
end Go.Proofs.Ytdhjflhpenkchaa
