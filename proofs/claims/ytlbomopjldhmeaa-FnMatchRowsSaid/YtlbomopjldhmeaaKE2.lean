/- The laws' helper on rows: equalRows of equal rows. -/
import Derived.Test.YtlbomopjldhmeaaB14a
import Derived.BigQuiet
import Derived.Deep.QuietTactic

namespace Go.Proofs.Ytlbomopjldhmeaa
set_option linter.unusedSimpArgs false
set_option linter.unusedVariables false
open Go.RowKit

set_option maxRecDepth 100000 in
set_option maxHeartbeats 1600000 in
theorem laws_equalRows (A A' : Option Addr) (n c c' : Nat) (ps : List Rk) (w : World) (B : Nat) (hB : B ≤ w.heap.size) (hn : n = ps.length) (h : WS w B A ps) (h' : WS w B A' ps) (hs : n ≤ 2000000) :
    Calls Try.prog 33 #[.slice A n c, .slice A' n c'] w fun e w' => e = .returned (.bool true) ∧ Below w.heap.size w w' := by
  have hne : ((n : Int) != (n : Int)) = false := by simp
  have HN := Lib.hid hn
  have H := Lib.hid h
  have H' := Lib.hid h'
  clear hn h h'
  go_enter Try.func33, Try.ntmps33
  go_wp2
  go_loopw [5] (fun i wr => ∃ k : Nat, k ≤ n ∧ i = .int .i64 k ∧ Hid (Below w.heap.size w wr)) (fun i _ => n - (intOf i).toNat)
  case atStart => exact ⟨0, Nat.zero_le _, rfl, Below.refl _ _⟩
  case round =>
    obtain ⟨k, hk, rfl, hb⟩ := hrel
    by_cases hlt : k < n
    · obtain ⟨b, off, rfl, hbB, hc⟩ := H.out (by have := HN.out; omega)
      obtain ⟨b', off', rfl, hbB', hc'⟩ := H'.out (by have := HN.out; omega)
      obtain ⟨c0, c1⟩ := hc k (by have := HN.out; omega)
      obtain ⟨d0, d1⟩ := hc' k (by have := HN.out; omega)
      clear hc hc' H H'
      have b0 := (hb.out.cell (p := ⟨b, off + k * 2, none⟩) (by simp; omega)).trans c0
      have b1 := (hb.out.cell (p := ⟨b, off + k * 2 + 1, none⟩) (by simp; omega)).trans c1
      have e0 := (hb.out.cell (p := ⟨b', off' + k * 2, none⟩) (by simp; omega)).trans d0
      have e1 := (hb.out.cell (p := ⟨b', off' + k * 2 + 1, none⟩) (by simp; omega)).trans d1
      clear c0 c1 d0 d1
      generalize hp : ps.getD k default = p at *
      obtain ⟨x, y⟩ := p
      dsimp only at *
      have HX := Lib.hid hb.out
      clear hp hb
      go_wp2
      go_region
      go_wp2
      go_roundw
      case rel => exact ⟨k + 1, by omega, by go_num, HX.out.drew⟩
      case measure => simp [intOf]; omega
    · go_wp2
      go_ret
      exact ⟨rfl, hb.out⟩
end Go.Proofs.Ytlbomopjldhmeaa
