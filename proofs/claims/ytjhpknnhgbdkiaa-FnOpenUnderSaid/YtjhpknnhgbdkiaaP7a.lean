/- Words and contracts for memory that the texts behind use. -/
import Derived.Test.YtjhpknnhgbdkiaaP0a
import Derived.Test.YtjhpknnhgbdkiaaP1a
import Derived.Test.YtjhpknnhgbdkiaaP2a
import Derived.Test.YtjhpknnhgbdkiaaP3a
import Derived.Test.YtjhpknnhgbdkiaaP4a
import Derived.Test.YtjhpknnhgbdkiaaP5a
import Derived.Test.YtjhpknnhgbdkiaaP6a
import Derived.WalkKit
import Derived.Laws.OwnMore
import Derived.Deep.Draws
import Derived.Test.YtjhpknnhgbdkiaaProg
import Derived.WalkSpells
import Derived.WalkLawsBesides
import Derived.Outline
import Derived.Lib.Hide
import Derived.BigQuiet
import Derived.Deep.QuietTactic
import Derived.StillTailTactics
import Derived.Deep.LoopGhost
import Derived.Laws.MakeOwn
import Derived.WalkSmall
import Derived.RegionTactic
import Derived.BigRegion
import Derived.Deep.RegionWith
import Derived.Deep.RegionHeld3
import Derived.Maps.AppendAt
import Derived.Laws.CopyOwn
import Derived.Deep.Cut
import Derived.Laws.Entries
import Derived.Laws.Bits64
import Derived.IntWalk
import Derived.Deep.RegionLaw
import Derived.Deep.AppendLies
import Derived.Deep.DeepCutAuto
import Derived.ArgAppend

namespace Go.Proofs.Ytjhpknnhgbdkiaa
set_option linter.unusedSimpArgs false
set_option linter.unusedVariables false
open Go.RowKit
section
variable {g s : Nat} {w w1 w' : World}
theorem Frd.tch (h : Frd g w.heap.size w w') : Tch g (g + 1) w w' := ⟨h.os, h.tape, h.output, h.size, fun k hk hr => h.block k hk (by omega)⟩
end
end Go.Proofs.Ytjhpknnhgbdkiaa

namespace Go.Proofs.Ytjhpknnhgbdkiaa
set_option linter.unusedSimpArgs false
set_option linter.unusedVariables false
open Go.RowKit
/-- Returns a fresh reader that has not picked yet. -/
def RdP (w : World) (e : Ending) (w' : World) : Prop :=
  ∃ (g : Nat) (A : Option Addr) (n c : Nat) (bs : List Int), e = .returned (.pointer (some ⟨g, 0, none⟩)) ∧ n = bs.length ∧ n ≤ 2000 ∧ BY bs ∧ Rdr g A n c bs 0 w' ∧ w.heap.size ≤ g ∧ Below w.heap.size w w'
set_option maxHeartbeats 800000 in
theorem spec_newReader (A : Option Addr) (n c : Nat) (bs : List Int) (w : World) (B : Nat) (hB : B ≤ w.heap.size) (hn : n = bs.length) (hnc : n ≤ c) (h : BS w B A bs) (hy : BY bs) (hs : n ≤ 1048576) :
    Calls Try.prog 34 #[.slice A n c] w fun e w' => RdP w e w' := by
  by_cases h2 : 2000 < n
  · have h3 : 2000 ≤ c := by omega
    obtain ⟨b, off, rfl, hb, hc⟩ := h (by omega)
    have H := Lib.hid (BS.take (w := w) (B := B) (A := some ⟨b, off, none⟩) (bs := bs) (fun _ => ⟨b, off, rfl, hb, hc⟩) 2000)
    have HY := Lib.hid (hy.take 2000)
    have HL : Hid ((bs.take 2000).length = 2000) := by show _ = _; rw [List.length_take]; omega
    generalize bs.take 2000 = ds at *
    clear h hy hn hc
    go_enter Try.func34, Try.ntmps34
    go_wp2
    go_ret
    refine ⟨w.heap.size, some ⟨b, off, none⟩, 2000, c, ds, rfl, HL.out.symm, by omega, HY.out, ⟨by simp, by go_simp, ⟨0, Nat.le_refl _, by go_simp⟩, by go_simp, ?_⟩, ?_, ?_⟩
    · exact (H.out.keep fun p hp => World.cell?_alloc_lt w _ p (by omega)).more hB
    · exact Nat.le_refl _
    · exact (Below.refl _ _).alloc (Nat.le_refl _) _
  · have H := Lib.hid h
    have HN := Lib.hid hn
    clear h hn
    go_enter Try.func34, Try.ntmps34
    go_wp2
    go_ret
    refine ⟨w.heap.size, A, n, c, bs, rfl, HN.out, by omega, hy, ⟨by simp, by go_simp, ⟨0, Nat.le_refl _, by go_simp⟩, by go_simp, ?_⟩, ?_, ?_⟩
    · exact (H.out.keep fun p hp => World.cell?_alloc_lt w _ p (by omega)).more hB
    · exact Nat.le_refl _
    · exact (Below.refl _ _).alloc (Nat.le_refl _) _
end Go.Proofs.Ytjhpknnhgbdkiaa
