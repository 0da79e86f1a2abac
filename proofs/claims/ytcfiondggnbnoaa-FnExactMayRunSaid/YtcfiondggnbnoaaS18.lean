/- Words and contracts for memory that the texts behind use. -/
import Derived.Test.YtcfiondggnbnoaaS0
import Derived.Test.YtcfiondggnbnoaaS1
import Derived.Test.YtcfiondggnbnoaaS2
import Derived.Test.YtcfiondggnbnoaaS3
import Derived.Test.YtcfiondggnbnoaaS4
import Derived.Test.YtcfiondggnbnoaaS5
import Derived.Test.YtcfiondggnbnoaaS6
import Derived.Test.YtcfiondggnbnoaaS7
import Derived.Test.YtcfiondggnbnoaaS8
import Derived.Test.YtcfiondggnbnoaaS9
import Derived.Test.YtcfiondggnbnoaaS10
import Derived.Test.YtcfiondggnbnoaaS11
import Derived.Test.YtcfiondggnbnoaaS12
import Derived.Test.YtcfiondggnbnoaaS13
import Derived.Test.YtcfiondggnbnoaaS14
import Derived.Test.YtcfiondggnbnoaaS15
import Derived.Test.YtcfiondggnbnoaaS16
import Derived.Test.YtcfiondggnbnoaaS17
import Derived.WalkKit
import Derived.Laws.OwnMore
import Derived.Deep.Draws
import Derived.Test.YtcfiondggnbnoaaProg
import Derived.WalkSpells
import Derived.WalkLawsBesides
import Derived.Outline
import Derived.Lib.Hide
import Derived.BigQuiet
import Derived.Deep.QuietTactic
import Derived.StillTailTactics
import Derived.Deep.LoopGhost
import Derived.Laws.MakeOwn
import Derived.WalkSmall
import Derived.RegionTactic
import Derived.BigRegion
import Derived.Deep.RegionWith
import Derived.Deep.RegionHeld3
import Derived.Maps.AppendAt
import Derived.Laws.CopyOwn
import Derived.ChangeAlike
import Derived.Laws.Entries
import Derived.Laws.Bits64
import Derived.IntWalk
import Derived.Deep.RegionLaw
import Derived.Deep.AppendLies
import Derived.Deep.Cut
import Derived.Deep.DeepCutAuto
import Derived.Test.YtcfiondggnbnoaaRows
import Derived.ProofKit
import Derived.OpenShut
import Derived.ShutString
import Derived.ChangeOld
import Derived.Below
import Derived.Deep.Slices
import Derived.Deep.Fields

namespace Go.Proofs.Ytcfiondggnbnoaa
set_option linter.unusedSimpArgs false
set_option linter.unusedVariables false
open Go.ChangeShapes Go.WideShapes Go.ChangeAt Go.RowKit Go.Deep
section
variable {H : Type} {enc : TypeId × Value → H} {w : World} {base : Nat} {spare : Nat → Bool} {held : Bool}
set_option maxRecDepth 100000 in
theorem open_list {r : Reach} {b0 : Nat} {v : Value} {d : DataW H} {p : List MemPlace} (hsp : ∀ b, spare b = true) (hv : Value.okWide Try.prog w r b0 26 v) (h : DataW.Trod enc Try.prog w base spare held 26 v d p) :
    ∃ (A : Option Addr) (n c : Nat) (xs : List Int), v = .slice A n c ∧ n = xs.length ∧ n ≤ 9223372036854775807 ∧ IS w w.heap.size A xs := by
  obtain ⟨a0, len0, cap0, rfl⟩ := okWide_slice Try.underlying26 hv
  obtain ⟨fuel, hf⟩ := h
  rcases open_ints Try.underlying26 Try.underlying3 cells_int hf with ⟨hcs, _⟩ | ⟨x, l, c, zs, hcs, _, hl, hm, hz, _, hcell, _⟩
  · simp [Value.cells] at hcs
    obtain ⟨rfl, rfl, rfl⟩ := hcs
    exact ⟨none, 0, 0, [], rfl, rfl, by omega, IS.nil _ _ _⟩
  · simp [Value.cells] at hcs
    obtain ⟨rfl, rfl, rfl⟩ := hcs
    have hzl : len0 ≤ zs.length := by rw [hz]; split <;> omega
    refine ⟨some x, len0, cap0, zs.take len0, rfl, by simp; omega, by unfold maxLen at hm; omega, fun hn => ?_⟩
    have hlen : (zs.take len0).length = len0 := by simp; omega
    have h0 := hcell 0 (by omega)
    obtain ⟨b, off, spot⟩ := x
    have hspot : spot = none := by
      have h1 : w.cell? ⟨b, off, spot⟩ = some (.int .i64 (zs.getD 0 0)) := by simpa [Addr.add] using h0
      exact World.cell?_spot h1
    subst hspot
    have hblk : b < w.heap.size := by
      have h1 : w.cell? ⟨b, off, none⟩ = some (.int .i64 (zs.getD 0 0)) := by simpa [Addr.add] using h0
      exact World.block_lt_of_cell? w _ h1
    refine ⟨b, off, rfl, hblk, fun j hj => ?_⟩
    have g := hcell j (by omega)
    rw [add_of] at g
    rw [g]
    congr 2
    simp only [List.getD, List.getElem?_take, if_pos (show j < len0 by omega)]
end
end Go.Proofs.Ytcfiondggnbnoaa
