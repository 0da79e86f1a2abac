/-
  No cell of these rows narrows 'for every input' (looked for: loops, veiled, ifaces, maps, wideKeys, modest, calm, conditions, laid).
  DERIVED. THE GIVEN ROWS OF THIS SEAT. 3 by the template 'for every input the law returns true; each argument reads behind the call as it read before'; 0 by the template 'total and deterministic' (their statements: YtkmhpiojbocjkaaTotals.lean).
  GIVEN WITH THE SEED: the statements are not yours to turn. If you find one false, say at which input.
  Laid BY PROGRAM, IN A SANDBOX (cutbox-rows.mjs): the forced cells as the released guide's own fill.sh prints them over the translation dad2a49da785c950… (all of the seat's roots in one cut). By AI agents, Wed Nov 11 2026. No macro, syntax, notation, axiom, sorry.
-/
import Derived.Test.YtkmhpiojbocjkaaChecked
import GoSem.Claim
import GoSem.ClaimJoined
import GoSem.ClaimMapViews
import Derived.JoinedTies
import Derived.KernelRfl
namespace Go.Proofs.Ytkmhpiojbocjkaa
/- THE CELL 'sum', in the pinned program and in every row, IS THE sha256 OF THE DUMP (.gsa) THAT YtkmhpiojbocjkaaProg.lean LOADS. Nothing in Lean hashes anything: it is a label: what it is worth is what the hold of that sum in a sandbox is worth. -/
noncomputable def Try.pinned : Pinned := { name := "ytkmhpiojbocjkaa", sum := "dad2a49da785c95073f61956982b801a2bdc4a0f2ee880e6230507aa52378bd7", checked := Try.checked }
namespace Rows
def none {H : Type} : Left H := { results := [], args := [] }

/-- 'laws.FnExactValidActs': WHATEVER THE INPUT: true; the input reads as it did. -/
def fnExactValidActsSpec : ChangeSpec := { name := "fnExactValidActs", fn := fun _ => fun
  | [d1, d2] => { results := [.lit (.bool true)], args := [d1, d2] }
  | _ => none }
def fnExactValidActsRow : OpenClaim := { program := "ytkmhpiojbocjkaa", sum := "dad2a49da785c95073f61956982b801a2bdc4a0f2ee880e6230507aa52378bd7", func := "loop.example/signalgraph/laws.FnExactValidActs", spec := "fnExactValidActs", apart := false }
def FnExactValidActsSaid : Prop := fnExactValidActsRow.holds Try.pinned (OpenSpec.ofChange fnExactValidActsSpec)

/-- ITS FALSE NEIGHBOUR: 'it returns false'. Refute it at one input. -/
def fnExactValidActsWrong : ChangeSpec := { name := "fnExactValidActs", fn := fun _ => fun
  | [d1, d2] => { results := [.lit (.bool false)], args := [d1, d2] }
  | _ => none }
def FnExactValidActsWrongFalsely : Prop := fnExactValidActsRow.holds Try.pinned (OpenSpec.ofChange fnExactValidActsWrong)

/-- 'laws.FnExactFlushesIn': WHATEVER THE INPUT: true; the input reads as it did. -/
def fnExactFlushesInSpec : ChangeSpec := { name := "fnExactFlushesIn", fn := fun _ => fun
  | [d1, d2] => { results := [.lit (.bool true)], args := [d1, d2] }
  | _ => none }
def fnExactFlushesInRow : OpenClaim := { program := "ytkmhpiojbocjkaa", sum := "dad2a49da785c95073f61956982b801a2bdc4a0f2ee880e6230507aa52378bd7", func := "loop.example/signalgraph/laws.FnExactFlushesIn", spec := "fnExactFlushesIn", unfollowed := true, recurses := true, apart := false }
def FnExactFlushesInSaid : Prop := fnExactFlushesInRow.holds Try.pinned (OpenSpec.ofChange fnExactFlushesInSpec)

/-- ITS FALSE NEIGHBOUR: 'it returns false'. Refute it at one input. -/
def fnExactFlushesInWrong : ChangeSpec := { name := "fnExactFlushesIn", fn := fun _ => fun
  | [d1, d2] => { results := [.lit (.bool false)], args := [d1, d2] }
  | _ => none }
def FnExactFlushesInWrongFalsely : Prop := fnExactFlushesInRow.holds Try.pinned (OpenSpec.ofChange fnExactFlushesInWrong)

/-- 'laws.FnExactBatchAll': WHATEVER THE INPUT: true; the input reads as it did. -/
def fnExactBatchAllSpec : ChangeSpec := { name := "fnExactBatchAll", fn := fun _ => fun
  | [d1, d2] => { results := [.lit (.bool true)], args := [d1, d2] }
  | _ => none }
def fnExactBatchAllRow : OpenClaim := { program := "ytkmhpiojbocjkaa", sum := "dad2a49da785c95073f61956982b801a2bdc4a0f2ee880e6230507aa52378bd7", func := "loop.example/signalgraph/laws.FnExactBatchAll", spec := "fnExactBatchAll", apart := false }
def FnExactBatchAllSaid : Prop := fnExactBatchAllRow.holds Try.pinned (OpenSpec.ofChange fnExactBatchAllSpec)

/-- ITS FALSE NEIGHBOUR: 'it returns false'. Refute it at one input. -/
def fnExactBatchAllWrong : ChangeSpec := { name := "fnExactBatchAll", fn := fun _ => fun
  | [d1, d2] => { results := [.lit (.bool false)], args := [d1, d2] }
  | _ => none }
def FnExactBatchAllWrongFalsely : Prop := fnExactBatchAllRow.holds Try.pinned (OpenSpec.ofChange fnExactBatchAllWrong)

/- THE SECOND FORM. 'bulk': how many values and letters a reading holds, each counted each time it is reached (what is shared counts as often as it is met; a slice's spare places count too). A statement '..UptoSaid' is the law's where the arguments, and the package variables that the reading takes, are together of bulk at most 1048576: NARROWER than '..Said'. Prove '..Said' where nothing that the law and all that it calls make is longer than what came in: it says more and counts as full. Else prove '..UptoSaid'. A law counts once. -/
mutual
def uptoBulk {H : Type} : DataW H → Nat
  | .lit (.string bytes) => bytes.length + 1
  | .lit _ => 1
  | .nil => 1
  | .ptr d => uptoBulk d + 1
  | .slice elems spare => uptoBulkAll elems + uptoBulkAll spare + 1
  | .agg parts => uptoBulkAll parts + 1
  | .iface _ d => uptoBulk d + 1
  | .map entries => uptoBulkEntries entries + 1
  | .held _ => 1
def uptoBulkAll {H : Type} : List (DataW H) → Nat
  | [] => 0
  | d :: r => uptoBulk d + uptoBulkAll r
def uptoBulkEntries {H : Type} : List (Lit × DataW H) → Nat
  | [] => 0
  | x :: r => uptoBulkEntry x + uptoBulkEntries r
def uptoBulkEntry {H : Type} : Lit × DataW H → Nat
  | (.string bytes, d) => bytes.length + uptoBulk d + 1
  | (_, d) => uptoBulk d + 1
 end
def uptoSmall : (H : Type) → List (DataW H) → Bool := fun _ ds => decide (uptoBulkAll ds ≤ 1048576)
def OpenSpec.upto (s : _root_.Go.ChangeSpec) : _root_.Go.OpenSpec := { _root_.Go.OpenSpec.ofChange s with cond := some uptoSmall }

/-- 'laws.FnExactValidActs', WHERE WHAT IT READS IS OF BULK AT MOST 1048576: true; the input reads as it did. -/
def fnExactValidActsUptoRow : OpenClaim := { program := "ytkmhpiojbocjkaa", sum := "dad2a49da785c95073f61956982b801a2bdc4a0f2ee880e6230507aa52378bd7", func := "loop.example/signalgraph/laws.FnExactValidActs", spec := "fnExactValidActs", apart := false, narrowed := true }
def FnExactValidActsUptoSaid : Prop := fnExactValidActsUptoRow.holds Try.pinned (OpenSpec.upto fnExactValidActsSpec)

/-- 'laws.FnExactFlushesIn', WHERE WHAT IT READS IS OF BULK AT MOST 1048576: true; the input reads as it did. -/
def fnExactFlushesInUptoRow : OpenClaim := { program := "ytkmhpiojbocjkaa", sum := "dad2a49da785c95073f61956982b801a2bdc4a0f2ee880e6230507aa52378bd7", func := "loop.example/signalgraph/laws.FnExactFlushesIn", spec := "fnExactFlushesIn", unfollowed := true, recurses := true, apart := false, narrowed := true }
def FnExactFlushesInUptoSaid : Prop := fnExactFlushesInUptoRow.holds Try.pinned (OpenSpec.upto fnExactFlushesInSpec)

/-- 'laws.FnExactBatchAll', WHERE WHAT IT READS IS OF BULK AT MOST 1048576: true; the input reads as it did. -/
def fnExactBatchAllUptoRow : OpenClaim := { program := "ytkmhpiojbocjkaa", sum := "dad2a49da785c95073f61956982b801a2bdc4a0f2ee880e6230507aa52378bd7", func := "loop.example/signalgraph/laws.FnExactBatchAll", spec := "fnExactBatchAll", apart := false, narrowed := true }
def FnExactBatchAllUptoSaid : Prop := fnExactBatchAllUptoRow.holds Try.pinned (OpenSpec.upto fnExactBatchAllSpec)

end Rows
end Go.Proofs.Ytkmhpiojbocjkaa
