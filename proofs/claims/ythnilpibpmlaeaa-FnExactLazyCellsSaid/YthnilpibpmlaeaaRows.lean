/-
  No cell of these rows narrows 'for every input' (looked for: loops, veiled, ifaces, maps, wideKeys, modest, calm, conditions, laid).
  DERIVED. THE GIVEN ROWS OF THIS SEAT. 4 by the template 'for every input the law returns true; each argument reads behind the call as it read before'; 0 by the template 'total and deterministic' (their statements: YthnilpibpmlaeaaTotals.lean).
  GIVEN WITH THE SEED: the statements are not yours to turn. If you find one false, say at which input.
  Laid BY PROGRAM, IN A SANDBOX (cutbox-rows.mjs): the forced cells as the released guide's own fill.sh prints them over the translation e66e1244c2859bd4… (all of the seat's roots in one cut). By AI agents, Wed Nov 11 2026. No macro, syntax, notation, axiom, sorry.
-/
import Derived.Test.YthnilpibpmlaeaaChecked
import GoSem.Claim
import GoSem.ClaimJoined
import GoSem.ClaimMapViews
import Derived.JoinedTies
import Derived.KernelRfl
namespace Go.Proofs.Ythnilpibpmlaeaa
/- THE CELL 'sum', in the pinned program and in every row, IS THE sha256 OF THE DUMP (.gsa) THAT YthnilpibpmlaeaaProg.lean LOADS. Nothing in Lean hashes anything: it is a label: what it is worth is what the hold of that sum in a sandbox is worth. -/
noncomputable def Try.pinned : Pinned := { name := "ythnilpibpmlaeaa", sum := "e66e1244c2859bd4432c9b935eb9ea483857fdcf1e93f64eeb311e8aa120cee4", checked := Try.checked }
namespace Rows
def none {H : Type} : Left H := { results := [], args := [] }

/-- 'laws.FnExactValidLazy': WHATEVER THE INPUT: true; the input reads as it did. -/
def fnExactValidLazySpec : ChangeSpec := { name := "fnExactValidLazy", fn := fun _ => fun
  | [d1, d2] => { results := [.lit (.bool true)], args := [d1, d2] }
  | _ => none }
def fnExactValidLazyRow : OpenClaim := { program := "ythnilpibpmlaeaa", sum := "e66e1244c2859bd4432c9b935eb9ea483857fdcf1e93f64eeb311e8aa120cee4", func := "loop.example/signalgraph/laws.FnExactValidLazy", spec := "fnExactValidLazy", unfollowed := true, recurses := true, apart := false }
def FnExactValidLazySaid : Prop := fnExactValidLazyRow.holds Try.pinned (OpenSpec.ofChange fnExactValidLazySpec)

/-- ITS FALSE NEIGHBOUR: 'it returns false'. Refute it at one input. -/
def fnExactValidLazyWrong : ChangeSpec := { name := "fnExactValidLazy", fn := fun _ => fun
  | [d1, d2] => { results := [.lit (.bool false)], args := [d1, d2] }
  | _ => none }
def FnExactValidLazyWrongFalsely : Prop := fnExactValidLazyRow.holds Try.pinned (OpenSpec.ofChange fnExactValidLazyWrong)

/-- 'laws.FnExactStartLazy': WHATEVER THE INPUT: true; the input reads as it did. -/
def fnExactStartLazySpec : ChangeSpec := { name := "fnExactStartLazy", fn := fun _ => fun
  | [d1, d2] => { results := [.lit (.bool true)], args := [d1, d2] }
  | _ => none }
def fnExactStartLazyRow : OpenClaim := { program := "ythnilpibpmlaeaa", sum := "e66e1244c2859bd4432c9b935eb9ea483857fdcf1e93f64eeb311e8aa120cee4", func := "loop.example/signalgraph/laws.FnExactStartLazy", spec := "fnExactStartLazy", apart := false }
def FnExactStartLazySaid : Prop := fnExactStartLazyRow.holds Try.pinned (OpenSpec.ofChange fnExactStartLazySpec)

/-- ITS FALSE NEIGHBOUR: 'it returns false'. Refute it at one input. -/
def fnExactStartLazyWrong : ChangeSpec := { name := "fnExactStartLazy", fn := fun _ => fun
  | [d1, d2] => { results := [.lit (.bool false)], args := [d1, d2] }
  | _ => none }
def FnExactStartLazyWrongFalsely : Prop := fnExactStartLazyRow.holds Try.pinned (OpenSpec.ofChange fnExactStartLazyWrong)

/-- 'laws.FnExactStaleOf': WHATEVER THE INPUT: true; the input reads as it did. -/
def fnExactStaleOfSpec : ChangeSpec := { name := "fnExactStaleOf", fn := fun _ => fun
  | [d1, d2] => { results := [.lit (.bool true)], args := [d1, d2] }
  | _ => none }
def fnExactStaleOfRow : OpenClaim := { program := "ythnilpibpmlaeaa", sum := "e66e1244c2859bd4432c9b935eb9ea483857fdcf1e93f64eeb311e8aa120cee4", func := "loop.example/signalgraph/laws.FnExactStaleOf", spec := "fnExactStaleOf", unfollowed := true, recurses := true, apart := false }
def FnExactStaleOfSaid : Prop := fnExactStaleOfRow.holds Try.pinned (OpenSpec.ofChange fnExactStaleOfSpec)

/-- ITS FALSE NEIGHBOUR: 'it returns false'. Refute it at one input. -/
def fnExactStaleOfWrong : ChangeSpec := { name := "fnExactStaleOf", fn := fun _ => fun
  | [d1, d2] => { results := [.lit (.bool false)], args := [d1, d2] }
  | _ => none }
def FnExactStaleOfWrongFalsely : Prop := fnExactStaleOfRow.holds Try.pinned (OpenSpec.ofChange fnExactStaleOfWrong)

/-- 'laws.FnExactLazyCells': WHATEVER THE INPUT: true; the input reads as it did. -/
def fnExactLazyCellsSpec : ChangeSpec := { name := "fnExactLazyCells", fn := fun _ => fun
  | [d1, d2] => { results := [.lit (.bool true)], args := [d1, d2] }
  | _ => none }
def fnExactLazyCellsRow : OpenClaim := { program := "ythnilpibpmlaeaa", sum := "e66e1244c2859bd4432c9b935eb9ea483857fdcf1e93f64eeb311e8aa120cee4", func := "loop.example/signalgraph/laws.FnExactLazyCells", spec := "fnExactLazyCells", unfollowed := true, recurses := true, apart := false }
def FnExactLazyCellsSaid : Prop := fnExactLazyCellsRow.holds Try.pinned (OpenSpec.ofChange fnExactLazyCellsSpec)

/-- ITS FALSE NEIGHBOUR: 'it returns false'. Refute it at one input. -/
def fnExactLazyCellsWrong : ChangeSpec := { name := "fnExactLazyCells", fn := fun _ => fun
  | [d1, d2] => { results := [.lit (.bool false)], args := [d1, d2] }
  | _ => none }
def FnExactLazyCellsWrongFalsely : Prop := fnExactLazyCellsRow.holds Try.pinned (OpenSpec.ofChange fnExactLazyCellsWrong)

/- THE SECOND FORM. 'bulk': how many values and letters a reading holds, each counted each time it is reached (what is shared counts as often as it is met; a slice's spare places count too). A statement '..UptoSaid' is the law's where the arguments, and the package variables that the reading takes, are together of bulk at most 1048576: NARROWER than '..Said'. Prove '..Said' where nothing that the law and all that it calls make is longer than what came in: it says more and counts as full. Else prove '..UptoSaid'. A law counts once. -/
mutual
def uptoBulk {H : Type} : DataW H → Nat
  | .lit (.string bytes) => bytes.length + 1
  | .lit _ => 1
  | .nil => 1
  | .ptr d => uptoBulk d + 1
  | .slice elems spare => uptoBulkAll elems + uptoBulkAll spare + 1
  | .agg parts => uptoBulkAll parts + 1
  | .iface _ d => uptoBulk d + 1
  | .map entries => uptoBulkEntries entries + 1
  | .held _ => 1
def uptoBulkAll {H : Type} : List (DataW H) → Nat
  | [] => 0
  | d :: r => uptoBulk d + uptoBulkAll r
def uptoBulkEntries {H : Type} : List (Lit × DataW H) → Nat
  | [] => 0
  | x :: r => uptoBulkEntry x + uptoBulkEntries r
def uptoBulkEntry {H : Type} : Lit × DataW H → Nat
  | (.string bytes, d) => bytes.length + uptoBulk d + 1
  | (_, d) => uptoBulk d + 1
 end
def uptoSmall : (H : Type) → List (DataW H) → Bool := fun _ ds => decide (uptoBulkAll ds ≤ 1048576)
def OpenSpec.upto (s : _root_.Go.ChangeSpec) : _root_.Go.OpenSpec := { _root_.Go.OpenSpec.ofChange s with cond := some uptoSmall }

/-- 'laws.FnExactValidLazy', WHERE WHAT IT READS IS OF BULK AT MOST 1048576: true; the input reads as it did. -/
def fnExactValidLazyUptoRow : OpenClaim := { program := "ythnilpibpmlaeaa", sum := "e66e1244c2859bd4432c9b935eb9ea483857fdcf1e93f64eeb311e8aa120cee4", func := "loop.example/signalgraph/laws.FnExactValidLazy", spec := "fnExactValidLazy", unfollowed := true, recurses := true, apart := false, narrowed := true }
def FnExactValidLazyUptoSaid : Prop := fnExactValidLazyUptoRow.holds Try.pinned (OpenSpec.upto fnExactValidLazySpec)

/-- 'laws.FnExactStartLazy', WHERE WHAT IT READS IS OF BULK AT MOST 1048576: true; the input reads as it did. -/
def fnExactStartLazyUptoRow : OpenClaim := { program := "ythnilpibpmlaeaa", sum := "e66e1244c2859bd4432c9b935eb9ea483857fdcf1e93f64eeb311e8aa120cee4", func := "loop.example/signalgraph/laws.FnExactStartLazy", spec := "fnExactStartLazy", apart := false, narrowed := true }
def FnExactStartLazyUptoSaid : Prop := fnExactStartLazyUptoRow.holds Try.pinned (OpenSpec.upto fnExactStartLazySpec)

/-- 'laws.FnExactStaleOf', WHERE WHAT IT READS IS OF BULK AT MOST 1048576: true; the input reads as it did. -/
def fnExactStaleOfUptoRow : OpenClaim := { program := "ythnilpibpmlaeaa", sum := "e66e1244c2859bd4432c9b935eb9ea483857fdcf1e93f64eeb311e8aa120cee4", func := "loop.example/signalgraph/laws.FnExactStaleOf", spec := "fnExactStaleOf", unfollowed := true, recurses := true, apart := false, narrowed := true }
def FnExactStaleOfUptoSaid : Prop := fnExactStaleOfUptoRow.holds Try.pinned (OpenSpec.upto fnExactStaleOfSpec)

/-- 'laws.FnExactLazyCells', WHERE WHAT IT READS IS OF BULK AT MOST 1048576: true; the input reads as it did. -/
def fnExactLazyCellsUptoRow : OpenClaim := { program := "ythnilpibpmlaeaa", sum := "e66e1244c2859bd4432c9b935eb9ea483857fdcf1e93f64eeb311e8aa120cee4", func := "loop.example/signalgraph/laws.FnExactLazyCells", spec := "fnExactLazyCells", unfollowed := true, recurses := true, apart := false, narrowed := true }
def FnExactLazyCellsUptoSaid : Prop := fnExactLazyCellsUptoRow.holds Try.pinned (OpenSpec.upto fnExactLazyCellsSpec)

end Rows
end Go.Proofs.Ythnilpibpmlaeaa
