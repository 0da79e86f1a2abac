/-
  No cell of these rows narrows 'for every input' (looked for: loops, veiled, ifaces, maps, wideKeys, modest, calm, conditions, laid).
  DERIVED. THE GIVEN ROWS OF THIS SEAT. 5 by the template 'for every input the law returns true; each argument reads behind the call as it read before'; 0 by the template 'total and deterministic' (their statements: YtlcpgbbpjnkihaaGreatTotals.lean).
  GIVEN WITH THE SEED: the statements are not yours to turn. If you find one false, say at which input.
  Laid BY PROGRAM, IN A SANDBOX (cutbox-rows.mjs): the forced cells as the released guide's own fill.sh prints them over the translation fe0592847a360696… (all of the seat's roots in one cut). By AI agents, Wed Nov 11 2026. No macro, syntax, notation, axiom, sorry.
-/
import Derived.Test.YtlcpgbbpjnkihaaGreatChecked
import GoSem.Claim
import GoSem.ClaimJoined
import GoSem.ClaimMapViews
import Derived.JoinedTies
import Derived.KernelRfl
namespace Go.Proofs.YtlcpgbbpjnkihaaGreat
/- THE CELL 'sum', in the pinned program and in every row, IS THE sha256 OF THE DUMP (.gsa) THAT YtlcpgbbpjnkihaaGreatProg.lean LOADS. Nothing in Lean hashes anything: it is a label: what it is worth is what the hold of that sum in a sandbox is worth. -/
noncomputable def Tryz.pinned : Pinned := { name := "ytlcpgbbpjnkihaagreat", sum := "fe0592847a36069637c127d194b3ffe5e1fa4cbafc5e8f142a69b9485854ab01", checked := Tryz.checked }
namespace Rows
def none {H : Type} : Left H := { results := [], args := [] }

/-- 'laws.FnExactWriteLazy': WHATEVER THE INPUT: true; the input reads as it did. -/
def fnExactWriteLazySpec : ChangeSpec := { name := "fnExactWriteLazy", fn := fun _ => fun
  | [d1, d2, d3, d4] => { results := [.lit (.bool true)], args := [d1, d2, d3, d4] }
  | _ => none }
def fnExactWriteLazyRow : OpenClaim := { program := "ytlcpgbbpjnkihaagreat", sum := "fe0592847a36069637c127d194b3ffe5e1fa4cbafc5e8f142a69b9485854ab01", func := "loop.example/signalgraph/laws.FnExactWriteLazy", spec := "fnExactWriteLazy", unfollowed := true, recurses := true, apart := false }
def FnExactWriteLazySaid : Prop := fnExactWriteLazyRow.holds Tryz.pinned (OpenSpec.ofChange fnExactWriteLazySpec)

/-- ITS FALSE NEIGHBOUR: 'it returns false'. Refute it at one input. -/
def fnExactWriteLazyWrong : ChangeSpec := { name := "fnExactWriteLazy", fn := fun _ => fun
  | [d1, d2, d3, d4] => { results := [.lit (.bool false)], args := [d1, d2, d3, d4] }
  | _ => none }
def FnExactWriteLazyWrongFalsely : Prop := fnExactWriteLazyRow.holds Tryz.pinned (OpenSpec.ofChange fnExactWriteLazyWrong)

/-- 'laws.FnExactForgetNode': WHATEVER THE INPUT: true; the input reads as it did. -/
def fnExactForgetNodeSpec : ChangeSpec := { name := "fnExactForgetNode", fn := fun _ => fun
  | [d1, d2, d3] => { results := [.lit (.bool true)], args := [d1, d2, d3] }
  | _ => none }
def fnExactForgetNodeRow : OpenClaim := { program := "ytlcpgbbpjnkihaagreat", sum := "fe0592847a36069637c127d194b3ffe5e1fa4cbafc5e8f142a69b9485854ab01", func := "loop.example/signalgraph/laws.FnExactForgetNode", spec := "fnExactForgetNode", unfollowed := true, recurses := true, apart := false }
def FnExactForgetNodeSaid : Prop := fnExactForgetNodeRow.holds Tryz.pinned (OpenSpec.ofChange fnExactForgetNodeSpec)

/-- ITS FALSE NEIGHBOUR: 'it returns false'. Refute it at one input. -/
def fnExactForgetNodeWrong : ChangeSpec := { name := "fnExactForgetNode", fn := fun _ => fun
  | [d1, d2, d3] => { results := [.lit (.bool false)], args := [d1, d2, d3] }
  | _ => none }
def FnExactForgetNodeWrongFalsely : Prop := fnExactForgetNodeRow.holds Tryz.pinned (OpenSpec.ofChange fnExactForgetNodeWrong)

/-- 'laws.FnExactReadLazy': WHATEVER THE INPUT: true; the input reads as it did. -/
def fnExactReadLazySpec : ChangeSpec := { name := "fnExactReadLazy", fn := fun _ => fun
  | [d1, d2, d3] => { results := [.lit (.bool true)], args := [d1, d2, d3] }
  | _ => none }
def fnExactReadLazyRow : OpenClaim := { program := "ytlcpgbbpjnkihaagreat", sum := "fe0592847a36069637c127d194b3ffe5e1fa4cbafc5e8f142a69b9485854ab01", func := "loop.example/signalgraph/laws.FnExactReadLazy", spec := "fnExactReadLazy", unfollowed := true, recurses := true, apart := false }
def FnExactReadLazySaid : Prop := fnExactReadLazyRow.holds Tryz.pinned (OpenSpec.ofChange fnExactReadLazySpec)

/-- ITS FALSE NEIGHBOUR: 'it returns false'. Refute it at one input. -/
def fnExactReadLazyWrong : ChangeSpec := { name := "fnExactReadLazy", fn := fun _ => fun
  | [d1, d2, d3] => { results := [.lit (.bool false)], args := [d1, d2, d3] }
  | _ => none }
def FnExactReadLazyWrongFalsely : Prop := fnExactReadLazyRow.holds Tryz.pinned (OpenSpec.ofChange fnExactReadLazyWrong)

/-- 'laws.FnExactReadAll': WHATEVER THE INPUT: true; the input reads as it did. -/
def fnExactReadAllSpec : ChangeSpec := { name := "fnExactReadAll", fn := fun _ => fun
  | [d1, d2, d3] => { results := [.lit (.bool true)], args := [d1, d2, d3] }
  | _ => none }
def fnExactReadAllRow : OpenClaim := { program := "ytlcpgbbpjnkihaagreat", sum := "fe0592847a36069637c127d194b3ffe5e1fa4cbafc5e8f142a69b9485854ab01", func := "loop.example/signalgraph/laws.FnExactReadAll", spec := "fnExactReadAll", unfollowed := true, recurses := true, apart := false }
def FnExactReadAllSaid : Prop := fnExactReadAllRow.holds Tryz.pinned (OpenSpec.ofChange fnExactReadAllSpec)

/-- ITS FALSE NEIGHBOUR: 'it returns false'. Refute it at one input. -/
def fnExactReadAllWrong : ChangeSpec := { name := "fnExactReadAll", fn := fun _ => fun
  | [d1, d2, d3] => { results := [.lit (.bool false)], args := [d1, d2, d3] }
  | _ => none }
def FnExactReadAllWrongFalsely : Prop := fnExactReadAllRow.holds Tryz.pinned (OpenSpec.ofChange fnExactReadAllWrong)

/-- 'laws.FnExactSettleLazy': WHATEVER THE INPUT: true; the input reads as it did. -/
def fnExactSettleLazySpec : ChangeSpec := { name := "fnExactSettleLazy", fn := fun _ => fun
  | [d1, d2] => { results := [.lit (.bool true)], args := [d1, d2] }
  | _ => none }
def fnExactSettleLazyRow : OpenClaim := { program := "ytlcpgbbpjnkihaagreat", sum := "fe0592847a36069637c127d194b3ffe5e1fa4cbafc5e8f142a69b9485854ab01", func := "loop.example/signalgraph/laws.FnExactSettleLazy", spec := "fnExactSettleLazy", unfollowed := true, recurses := true, apart := false }
def FnExactSettleLazySaid : Prop := fnExactSettleLazyRow.holds Tryz.pinned (OpenSpec.ofChange fnExactSettleLazySpec)

/-- ITS FALSE NEIGHBOUR: 'it returns false'. Refute it at one input. -/
def fnExactSettleLazyWrong : ChangeSpec := { name := "fnExactSettleLazy", fn := fun _ => fun
  | [d1, d2] => { results := [.lit (.bool false)], args := [d1, d2] }
  | _ => none }
def FnExactSettleLazyWrongFalsely : Prop := fnExactSettleLazyRow.holds Tryz.pinned (OpenSpec.ofChange fnExactSettleLazyWrong)

/- THE SECOND FORM. 'bulk': how many values and letters a reading holds, each counted each time it is reached (what is shared counts as often as it is met; a slice's spare places count too). A statement '..UptoSaid' is the law's where the arguments, and the package variables that the reading takes, are together of bulk at most 1048576: NARROWER than '..Said'. Prove '..Said' where nothing that the law and all that it calls make is longer than what came in: it says more and counts as full. Else prove '..UptoSaid'. A law counts once. -/
mutual
def uptoBulk {H : Type} : DataW H → Nat
  | .lit (.string bytes) => bytes.length + 1
  | .lit _ => 1
  | .nil => 1
  | .ptr d => uptoBulk d + 1
  | .slice elems spare => uptoBulkAll elems + uptoBulkAll spare + 1
  | .agg parts => uptoBulkAll parts + 1
  | .iface _ d => uptoBulk d + 1
  | .map entries => uptoBulkEntries entries + 1
  | .held _ => 1
def uptoBulkAll {H : Type} : List (DataW H) → Nat
  | [] => 0
  | d :: r => uptoBulk d + uptoBulkAll r
def uptoBulkEntries {H : Type} : List (Lit × DataW H) → Nat
  | [] => 0
  | x :: r => uptoBulkEntry x + uptoBulkEntries r
def uptoBulkEntry {H : Type} : Lit × DataW H → Nat
  | (.string bytes, d) => bytes.length + uptoBulk d + 1
  | (_, d) => uptoBulk d + 1
 end
def uptoSmall : (H : Type) → List (DataW H) → Bool := fun _ ds => decide (uptoBulkAll ds ≤ 1048576)
def OpenSpec.upto (s : _root_.Go.ChangeSpec) : _root_.Go.OpenSpec := { _root_.Go.OpenSpec.ofChange s with cond := some uptoSmall }

/-- 'laws.FnExactWriteLazy', WHERE WHAT IT READS IS OF BULK AT MOST 1048576: true; the input reads as it did. -/
def fnExactWriteLazyUptoRow : OpenClaim := { program := "ytlcpgbbpjnkihaagreat", sum := "fe0592847a36069637c127d194b3ffe5e1fa4cbafc5e8f142a69b9485854ab01", func := "loop.example/signalgraph/laws.FnExactWriteLazy", spec := "fnExactWriteLazy", unfollowed := true, recurses := true, apart := false, narrowed := true }
def FnExactWriteLazyUptoSaid : Prop := fnExactWriteLazyUptoRow.holds Tryz.pinned (OpenSpec.upto fnExactWriteLazySpec)

/-- 'laws.FnExactForgetNode', WHERE WHAT IT READS IS OF BULK AT MOST 1048576: true; the input reads as it did. -/
def fnExactForgetNodeUptoRow : OpenClaim := { program := "ytlcpgbbpjnkihaagreat", sum := "fe0592847a36069637c127d194b3ffe5e1fa4cbafc5e8f142a69b9485854ab01", func := "loop.example/signalgraph/laws.FnExactForgetNode", spec := "fnExactForgetNode", unfollowed := true, recurses := true, apart := false, narrowed := true }
def FnExactForgetNodeUptoSaid : Prop := fnExactForgetNodeUptoRow.holds Tryz.pinned (OpenSpec.upto fnExactForgetNodeSpec)

/-- 'laws.FnExactReadLazy', WHERE WHAT IT READS IS OF BULK AT MOST 1048576: true; the input reads as it did. -/
def fnExactReadLazyUptoRow : OpenClaim := { program := "ytlcpgbbpjnkihaagreat", sum := "fe0592847a36069637c127d194b3ffe5e1fa4cbafc5e8f142a69b9485854ab01", func := "loop.example/signalgraph/laws.FnExactReadLazy", spec := "fnExactReadLazy", unfollowed := true, recurses := true, apart := false, narrowed := true }
def FnExactReadLazyUptoSaid : Prop := fnExactReadLazyUptoRow.holds Tryz.pinned (OpenSpec.upto fnExactReadLazySpec)

/-- 'laws.FnExactReadAll', WHERE WHAT IT READS IS OF BULK AT MOST 1048576: true; the input reads as it did. -/
def fnExactReadAllUptoRow : OpenClaim := { program := "ytlcpgbbpjnkihaagreat", sum := "fe0592847a36069637c127d194b3ffe5e1fa4cbafc5e8f142a69b9485854ab01", func := "loop.example/signalgraph/laws.FnExactReadAll", spec := "fnExactReadAll", unfollowed := true, recurses := true, apart := false, narrowed := true }
def FnExactReadAllUptoSaid : Prop := fnExactReadAllUptoRow.holds Tryz.pinned (OpenSpec.upto fnExactReadAllSpec)

/-- 'laws.FnExactSettleLazy', WHERE WHAT IT READS IS OF BULK AT MOST 1048576: true; the input reads as it did. -/
def fnExactSettleLazyUptoRow : OpenClaim := { program := "ytlcpgbbpjnkihaagreat", sum := "fe0592847a36069637c127d194b3ffe5e1fa4cbafc5e8f142a69b9485854ab01", func := "loop.example/signalgraph/laws.FnExactSettleLazy", spec := "fnExactSettleLazy", unfollowed := true, recurses := true, apart := false, narrowed := true }
def FnExactSettleLazyUptoSaid : Prop := fnExactSettleLazyUptoRow.holds Tryz.pinned (OpenSpec.upto fnExactSettleLazySpec)

end Rows
end Go.Proofs.YtlcpgbbpjnkihaaGreat
