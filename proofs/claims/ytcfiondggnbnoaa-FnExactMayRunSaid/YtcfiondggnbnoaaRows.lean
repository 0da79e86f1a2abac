/-
  No cell of these rows narrows 'for every input' (looked for: loops, veiled, ifaces, maps, wideKeys, modest, calm, conditions, laid).
  DERIVED. THE GIVEN ROWS OF THIS SEAT. 5 by the template 'for every input the law returns true; each argument reads behind the call as it read before'; 0 by the template 'total and deterministic' (their statements: YtcfiondggnbnoaaTotals.lean).
  GIVEN WITH THE SEED: the statements are not yours to turn. If you find one false, say at which input.
  Laid BY PROGRAM, IN A SANDBOX (cutbox-rows.mjs): the forced cells as the released guide's own fill.sh prints them over the translation 57b3b24c1578c35f… (all of the seat's roots in one cut). By AI agents, Wed Nov 11 2026. No macro, syntax, notation, axiom, sorry.
-/
import Derived.Test.YtcfiondggnbnoaaChecked
import GoSem.Claim
import GoSem.ClaimJoined
import GoSem.ClaimMapViews
import Derived.JoinedTies
import Derived.KernelRfl
namespace Go.Proofs.Ytcfiondggnbnoaa
/- THE CELL 'sum', in the pinned program and in every row, IS THE sha256 OF THE DUMP (.gsa) THAT YtcfiondggnbnoaaProg.lean LOADS. Nothing in Lean hashes anything: it is a label: what it is worth is what the hold of that sum in a sandbox is worth. -/
noncomputable def Try.pinned : Pinned := { name := "ytcfiondggnbnoaa", sum := "57b3b24c1578c35f820846283b08bac6ba418083ffafd1b02b9d7fe88fca9422", checked := Try.checked }
namespace Rows
def none {H : Type} : Left H := { results := [], args := [] }

/-- 'laws.FnExactUsersOf': WHATEVER THE INPUT: true; the input reads as it did. -/
def fnExactUsersOfSpec : ChangeSpec := { name := "fnExactUsersOf", fn := fun _ => fun
  | [d1, d2] => { results := [.lit (.bool true)], args := [d1, d2] }
  | _ => none }
def fnExactUsersOfRow : OpenClaim := { program := "ytcfiondggnbnoaa", sum := "57b3b24c1578c35f820846283b08bac6ba418083ffafd1b02b9d7fe88fca9422", func := "loop.example/signalgraph/laws.FnExactUsersOf", spec := "fnExactUsersOf", apart := false }
def FnExactUsersOfSaid : Prop := fnExactUsersOfRow.holds Try.pinned (OpenSpec.ofChange fnExactUsersOfSpec)

/-- ITS FALSE NEIGHBOUR: 'it returns false'. Refute it at one input. -/
def fnExactUsersOfWrong : ChangeSpec := { name := "fnExactUsersOf", fn := fun _ => fun
  | [d1, d2] => { results := [.lit (.bool false)], args := [d1, d2] }
  | _ => none }
def FnExactUsersOfWrongFalsely : Prop := fnExactUsersOfRow.holds Try.pinned (OpenSpec.ofChange fnExactUsersOfWrong)

/-- 'laws.FnExactReachOf': WHATEVER THE INPUT: true; the input reads as it did. -/
def fnExactReachOfSpec : ChangeSpec := { name := "fnExactReachOf", fn := fun _ => fun
  | [d1, d2] => { results := [.lit (.bool true)], args := [d1, d2] }
  | _ => none }
def fnExactReachOfRow : OpenClaim := { program := "ytcfiondggnbnoaa", sum := "57b3b24c1578c35f820846283b08bac6ba418083ffafd1b02b9d7fe88fca9422", func := "loop.example/signalgraph/laws.FnExactReachOf", spec := "fnExactReachOf", unfollowed := true, recurses := true, apart := false }
def FnExactReachOfSaid : Prop := fnExactReachOfRow.holds Try.pinned (OpenSpec.ofChange fnExactReachOfSpec)

/-- ITS FALSE NEIGHBOUR: 'it returns false'. Refute it at one input. -/
def fnExactReachOfWrong : ChangeSpec := { name := "fnExactReachOf", fn := fun _ => fun
  | [d1, d2] => { results := [.lit (.bool false)], args := [d1, d2] }
  | _ => none }
def FnExactReachOfWrongFalsely : Prop := fnExactReachOfRow.holds Try.pinned (OpenSpec.ofChange fnExactReachOfWrong)

/-- 'laws.FnExactNeedOf': WHATEVER THE INPUT: true; the input reads as it did. -/
def fnExactNeedOfSpec : ChangeSpec := { name := "fnExactNeedOf", fn := fun _ => fun
  | [d1, d2] => { results := [.lit (.bool true)], args := [d1, d2] }
  | _ => none }
def fnExactNeedOfRow : OpenClaim := { program := "ytcfiondggnbnoaa", sum := "57b3b24c1578c35f820846283b08bac6ba418083ffafd1b02b9d7fe88fca9422", func := "loop.example/signalgraph/laws.FnExactNeedOf", spec := "fnExactNeedOf", unfollowed := true, recurses := true, apart := false }
def FnExactNeedOfSaid : Prop := fnExactNeedOfRow.holds Try.pinned (OpenSpec.ofChange fnExactNeedOfSpec)

/-- ITS FALSE NEIGHBOUR: 'it returns false'. Refute it at one input. -/
def fnExactNeedOfWrong : ChangeSpec := { name := "fnExactNeedOf", fn := fun _ => fun
  | [d1, d2] => { results := [.lit (.bool false)], args := [d1, d2] }
  | _ => none }
def FnExactNeedOfWrongFalsely : Prop := fnExactNeedOfRow.holds Try.pinned (OpenSpec.ofChange fnExactNeedOfWrong)

/-- 'laws.FnExactWatchedOf': WHATEVER THE INPUT: true; the input reads as it did. -/
def fnExactWatchedOfSpec : ChangeSpec := { name := "fnExactWatchedOf", fn := fun _ => fun
  | [d] => { results := [.lit (.bool true)], args := [d] }
  | _ => none }
def fnExactWatchedOfRow : OpenClaim := { program := "ytcfiondggnbnoaa", sum := "57b3b24c1578c35f820846283b08bac6ba418083ffafd1b02b9d7fe88fca9422", func := "loop.example/signalgraph/laws.FnExactWatchedOf", spec := "fnExactWatchedOf", unfollowed := true, recurses := true, apart := false }
def FnExactWatchedOfSaid : Prop := fnExactWatchedOfRow.holds Try.pinned (OpenSpec.ofChange fnExactWatchedOfSpec)

/-- ITS FALSE NEIGHBOUR: 'it returns false'. Refute it at one input. -/
def fnExactWatchedOfWrong : ChangeSpec := { name := "fnExactWatchedOf", fn := fun _ => fun
  | [d] => { results := [.lit (.bool false)], args := [d] }
  | _ => none }
def FnExactWatchedOfWrongFalsely : Prop := fnExactWatchedOfRow.holds Try.pinned (OpenSpec.ofChange fnExactWatchedOfWrong)

/-- 'laws.FnExactMayRun': WHATEVER THE INPUT: true; the input reads as it did. -/
def fnExactMayRunSpec : ChangeSpec := { name := "fnExactMayRun", fn := fun _ => fun
  | [d1, d2] => { results := [.lit (.bool true)], args := [d1, d2] }
  | _ => none }
def fnExactMayRunRow : OpenClaim := { program := "ytcfiondggnbnoaa", sum := "57b3b24c1578c35f820846283b08bac6ba418083ffafd1b02b9d7fe88fca9422", func := "loop.example/signalgraph/laws.FnExactMayRun", spec := "fnExactMayRun", unfollowed := true, recurses := true, apart := false }
def FnExactMayRunSaid : Prop := fnExactMayRunRow.holds Try.pinned (OpenSpec.ofChange fnExactMayRunSpec)

/-- ITS FALSE NEIGHBOUR: 'it returns false'. Refute it at one input. -/
def fnExactMayRunWrong : ChangeSpec := { name := "fnExactMayRun", fn := fun _ => fun
  | [d1, d2] => { results := [.lit (.bool false)], args := [d1, d2] }
  | _ => none }
def FnExactMayRunWrongFalsely : Prop := fnExactMayRunRow.holds Try.pinned (OpenSpec.ofChange fnExactMayRunWrong)

/- THE SECOND FORM. 'bulk': how many values and letters a reading holds, each counted each time it is reached (what is shared counts as often as it is met; a slice's spare places count too). A statement '..UptoSaid' is the law's where the arguments, and the package variables that the reading takes, are together of bulk at most 1048576: NARROWER than '..Said'. Prove '..Said' where nothing that the law and all that it calls make is longer than what came in: it says more and counts as full. Else prove '..UptoSaid'. A law counts once. -/
mutual
def uptoBulk {H : Type} : DataW H → Nat
  | .lit (.string bytes) => bytes.length + 1
  | .lit _ => 1
  | .nil => 1
  | .ptr d => uptoBulk d + 1
  | .slice elems spare => uptoBulkAll elems + uptoBulkAll spare + 1
  | .agg parts => uptoBulkAll parts + 1
  | .iface _ d => uptoBulk d + 1
  | .map entries => uptoBulkEntries entries + 1
  | .held _ => 1
def uptoBulkAll {H : Type} : List (DataW H) → Nat
  | [] => 0
  | d :: r => uptoBulk d + uptoBulkAll r
def uptoBulkEntries {H : Type} : List (Lit × DataW H) → Nat
  | [] => 0
  | x :: r => uptoBulkEntry x + uptoBulkEntries r
def uptoBulkEntry {H : Type} : Lit × DataW H → Nat
  | (.string bytes, d) => bytes.length + uptoBulk d + 1
  | (_, d) => uptoBulk d + 1
 end
def uptoSmall : (H : Type) → List (DataW H) → Bool := fun _ ds => decide (uptoBulkAll ds ≤ 1048576)
def OpenSpec.upto (s : _root_.Go.ChangeSpec) : _root_.Go.OpenSpec := { _root_.Go.OpenSpec.ofChange s with cond := some uptoSmall }

/-- 'laws.FnExactUsersOf', WHERE WHAT IT READS IS OF BULK AT MOST 1048576: true; the input reads as it did. -/
def fnExactUsersOfUptoRow : OpenClaim := { program := "ytcfiondggnbnoaa", sum := "57b3b24c1578c35f820846283b08bac6ba418083ffafd1b02b9d7fe88fca9422", func := "loop.example/signalgraph/laws.FnExactUsersOf", spec := "fnExactUsersOf", apart := false, narrowed := true }
def FnExactUsersOfUptoSaid : Prop := fnExactUsersOfUptoRow.holds Try.pinned (OpenSpec.upto fnExactUsersOfSpec)

/-- 'laws.FnExactReachOf', WHERE WHAT IT READS IS OF BULK AT MOST 1048576: true; the input reads as it did. -/
def fnExactReachOfUptoRow : OpenClaim := { program := "ytcfiondggnbnoaa", sum := "57b3b24c1578c35f820846283b08bac6ba418083ffafd1b02b9d7fe88fca9422", func := "loop.example/signalgraph/laws.FnExactReachOf", spec := "fnExactReachOf", unfollowed := true, recurses := true, apart := false, narrowed := true }
def FnExactReachOfUptoSaid : Prop := fnExactReachOfUptoRow.holds Try.pinned (OpenSpec.upto fnExactReachOfSpec)

/-- 'laws.FnExactNeedOf', WHERE WHAT IT READS IS OF BULK AT MOST 1048576: true; the input reads as it did. -/
def fnExactNeedOfUptoRow : OpenClaim := { program := "ytcfiondggnbnoaa", sum := "57b3b24c1578c35f820846283b08bac6ba418083ffafd1b02b9d7fe88fca9422", func := "loop.example/signalgraph/laws.FnExactNeedOf", spec := "fnExactNeedOf", unfollowed := true, recurses := true, apart := false, narrowed := true }
def FnExactNeedOfUptoSaid : Prop := fnExactNeedOfUptoRow.holds Try.pinned (OpenSpec.upto fnExactNeedOfSpec)

/-- 'laws.FnExactWatchedOf', WHERE WHAT IT READS IS OF BULK AT MOST 1048576: true; the input reads as it did. -/
def fnExactWatchedOfUptoRow : OpenClaim := { program := "ytcfiondggnbnoaa", sum := "57b3b24c1578c35f820846283b08bac6ba418083ffafd1b02b9d7fe88fca9422", func := "loop.example/signalgraph/laws.FnExactWatchedOf", spec := "fnExactWatchedOf", unfollowed := true, recurses := true, apart := false, narrowed := true }
def FnExactWatchedOfUptoSaid : Prop := fnExactWatchedOfUptoRow.holds Try.pinned (OpenSpec.upto fnExactWatchedOfSpec)

/-- 'laws.FnExactMayRun', WHERE WHAT IT READS IS OF BULK AT MOST 1048576: true; the input reads as it did. -/
def fnExactMayRunUptoRow : OpenClaim := { program := "ytcfiondggnbnoaa", sum := "57b3b24c1578c35f820846283b08bac6ba418083ffafd1b02b9d7fe88fca9422", func := "loop.example/signalgraph/laws.FnExactMayRun", spec := "fnExactMayRun", unfollowed := true, recurses := true, apart := false, narrowed := true }
def FnExactMayRunUptoSaid : Prop := fnExactMayRunUptoRow.holds Try.pinned (OpenSpec.upto fnExactMayRunSpec)

end Rows
end Go.Proofs.Ytcfiondggnbnoaa
