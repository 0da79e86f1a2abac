/- Words and contracts for memory that the texts behind use. -/
import Derived.Test.YtlcpgbbpjnkihaaGreatL0
import Derived.Test.YtlcpgbbpjnkihaaGreatL1
import Derived.WalkKit
import Derived.Laws.OwnMore
import Derived.Deep.Draws
import Derived.Test.YtlcpgbbpjnkihaaGreatProg
import Derived.WalkSpells
import Derived.WalkLawsBesides
import Derived.Outline
import Derived.Lib.Hide
import Derived.BigQuiet
import Derived.Deep.QuietTactic
import Derived.StillTailTactics
import Derived.Deep.LoopGhost
import Derived.Laws.MakeOwn
import Derived.WalkSmall
import Derived.RegionTactic
import Derived.BigRegion
import Derived.Deep.RegionWith
import Derived.Deep.RegionHeld3
import Derived.Maps.AppendAt
import Derived.Laws.CopyOwn
import Derived.Deep.Cut

namespace Go.Proofs.YtlcpgbbpjnkihaaGreat
set_option linter.unusedSimpArgs false
set_option linter.unusedVariables false
open Go.RowKit
theorem ret_b {a b : Bool} (h : a = b) : Ending.returned (.bool a) = .returned (.bool b) := by rw [h]
theorem ret_i {a b : Int} (h : a = b) : Ending.returned (.int .i64 a) = .returned (.int .i64 b) := by rw [h]
end Go.Proofs.YtlcpgbbpjnkihaaGreat

namespace Go.Proofs.YtlcpgbbpjnkihaaGreat
set_option linter.unusedSimpArgs false
set_option linter.unusedVariables false
open Go.RowKit
theorem info_int : (Tryz.prog.info? 3).map (fun i => (i.zero, i.size, i.bytes)) = some (some (.int .i64 0), 1, 8) := by kernel_rfl
end Go.Proofs.YtlcpgbbpjnkihaaGreat

namespace Go.Proofs.YtlcpgbbpjnkihaaGreat
set_option linter.unusedSimpArgs false
set_option linter.unusedVariables false
open Go.RowKit
/-- The first index of a number, -1 if it is not there. -/
def plc (l : List Int) (x : Int) : Int := if x ∈ l then (l.idxOf x : Int) else -1
theorem plc_at (l : List Int) (x : Int) (k : Nat) (h : k < l.length) (hx : l.getD k 0 = x) (hn : ∀ j, j < k → l.getD j 0 ≠ x) : plc l x = k := by
  unfold plc
  have hm : x ∈ l := by rw [← hx]; simp [List.getD, h]
  rw [if_pos hm]
  congr 1
  apply Nat.le_antisymm
  · rcases Nat.lt_or_ge k (l.idxOf x) with h1 | h1
    · exfalso
      have h2 := List.not_of_lt_findIdx (p := (· == x)) (xs := l) (i := k) h1
      simp [List.getD, h] at hx
      simp [hx] at h2
    · exact h1
  · rcases Nat.lt_or_ge (l.idxOf x) k with h1 | h1
    · exfalso
      have h2 := List.getElem_idxOf (List.idxOf_lt_length_of_mem hm)
      have h3 := hn _ h1
      simp [List.getD, List.idxOf_lt_length_of_mem hm] at h3
    · exact h1
theorem plc_none (l : List Int) (x : Int) (hn : ∀ j, j < l.length → l.getD j 0 ≠ x) : plc l x = -1 := by
  unfold plc
  rw [if_neg]
  intro hm
  obtain ⟨k, hk, e⟩ := List.mem_iff_getElem.1 hm
  exact hn k hk (by simp [List.getD, hk, e])
set_option maxHeartbeats 400000 in
theorem spec_placeIn (A : Option Addr) (n c : Nat) (xs : List Int) (x : Int) (w : World) (B : Nat) (hB : B ≤ w.heap.size) (hn : n = xs.length) (h : IS w B A xs) (hs : n ≤ 2000000) :
    Calls Tryz.prog 72 #[.slice A n c, .int .i64 x] w fun e w' => e = .returned (.int .i64 (plc xs x)) ∧ w = w' := by
  have H := Lib.hid h
  have HN := Lib.hid hn
  clear hn h
  go_enter Tryz.func72, Tryz.ntmps72
  go_wp2
  go_loop [5] (fun i => ∃ k : Nat, k ≤ n ∧ i = .int .i64 k ∧ Hid (∀ j, j < k → xs.getD j 0 ≠ x)) (fun i => n - (intOf i).toNat)
  case atStart => exact ⟨0, Nat.zero_le _, rfl, fun j hj => by omega⟩
  case round =>
    obtain ⟨k, hk, rfl, HA⟩ := hrel
    by_cases hlt : k < n
    · obtain ⟨b, off, rfl, hbB, hc⟩ := H.out (by have := HN.out; omega)
      have c0 := hc k (by have := HN.out; omega)
      clear hc H
      generalize hp : xs.getD k 0 = p at *
      have HP := Lib.hid hp
      clear hp
      cases hr : (p == x)
      · have HR := Lib.hid hr
        go_wp2
        go_round
        case rel => exact ⟨k + 1, by omega, by go_num, fun j hj => by
          rcases Nat.lt_or_ge j k with h1 | h1
          · exact HA.out j h1
          · obtain rfl : j = k := by omega
            rw [HP.out]; simpa using HR.out⟩
        case measure => simp [intOf]; omega
      · have HR := Lib.hid hr
        go_wp2
        go_ret
        refine ⟨ret_i ?_, rfl⟩
        exact (plc_at xs x k (by have := HN.out; omega) (by rw [HP.out]; simpa using HR.out) HA.out).symm
    · go_wp2
      go_ret
      refine ⟨ret_i ?_, rfl⟩
      exact (plc_none xs x fun j hj => HA.out j (by have := HN.out; omega)).symm
end Go.Proofs.YtlcpgbbpjnkihaaGreat

namespace Go.Proofs.YtlcpgbbpjnkihaaGreat
set_option linter.unusedSimpArgs false
set_option linter.unusedVariables false
open Go.RowKit
theorem plc_ge (l : List Int) (x : Int) : decide (0 ≤ plc l x) = decide (x ∈ l) := by
  unfold plc
  by_cases h : x ∈ l
  · simp [h]
  · simp [h]
end Go.Proofs.YtlcpgbbpjnkihaaGreat

namespace Go.Proofs.YtlcpgbbpjnkihaaGreat
set_option linter.unusedSimpArgs false
set_option linter.unusedVariables false
open Go.RowKit
section
variable {b C g j : Nat} {vs : List Value} {w w' : World}
theorem Bx.drew (h : Bx b vs w) : Bx b vs w.drew := ⟨h.lt, h.c, h.f⟩
end
end Go.Proofs.YtlcpgbbpjnkihaaGreat

namespace Go.Proofs.YtlcpgbbpjnkihaaGreat
set_option linter.unusedSimpArgs false
set_option linter.unusedVariables false
open Go.RowKit
theorem meetB_bad (a b : List Int) (h : ∀ k, k < a.length → a.getD k 0 ∉ b) : meetB a b = false := by
  unfold meetB
  rw [List.any_eq_false]
  intro x hx
  obtain ⟨j, hj, he⟩ := List.mem_iff_getElem.1 hx
  have := h j hj
  simp only [decide_eq_true_eq]
  rw [show a.getD j 0 = x by simp [List.getD, hj, he]] at this
  exact this
theorem meetB_good (a b : List Int) (k : Nat) (hk : k < a.length) (h : a.getD k 0 ∈ b) : meetB a b = true := by
  unfold meetB
  rw [List.any_eq_true]
  exact ⟨a.getD k 0, by simp [List.getD, hk], decide_eq_true h⟩
set_option maxHeartbeats 800000 in
theorem spec_meets (A A' : Option Addr) (n n' c c' : Nat) (a b : List Int) (w : World) (B : Nat) (hB : B ≤ w.heap.size) (hn : n = a.length) (hn' : n' = b.length) (h : IS w B A a) (h' : IS w B A' b) (hs : n ≤ 2000000) (hs' : n' ≤ 2000000) :
    Calls Tryz.prog 51 #[.slice A n c, .slice A' n' c'] w fun e w' => e = .returned (.bool (meetB a b)) ∧ Below w.heap.size w w' := by
  have H := Lib.hid h
  have HN := Lib.hid hn
  have HPC := Lib.hid fun (x : Int) => spec_placeIn A' n' c' b x w B hB hn' h' hs'
  clear h h' hn hn'
  go_enter Tryz.func51, Tryz.ntmps51
  go_wp2
  go_loopw [5] (fun i wr => ∃ k : Nat, k ≤ n ∧ i = .int .i64 k ∧ Hid (∀ j, j < k → a.getD j 0 ∉ b) ∧ wr = w) (fun i _ => n - (intOf i).toNat)
  case atStart => exact ⟨0, Nat.zero_le _, rfl, fun j hj => by omega, rfl⟩
  case round =>
    obtain ⟨k, hk, rfl, HA, rfl⟩ := hrel
    by_cases hlt : k < n
    · obtain ⟨b1, off, rfl, hbB, hc⟩ := H.out (by have := HN.out; omega)
      have c0 := hc k (by have := HN.out; omega)
      have HG := Lib.hid (meetB_good a b k (by have := HN.out; omega))
      have HPX := Lib.hid (HPC.out (a.getD k 0))
      have HNX : Hid (a.getD k 0 ∉ b → ∀ j, j < k + 1 → a.getD j 0 ∉ b) := fun h j hj => by
        rcases Nat.lt_or_ge j k with h1 | h1
        · exact HA.out j h1
        · obtain rfl : j = k := by omega
          exact h
      clear hc H
      generalize a.getD k 0 = x at *
      by_cases hm : x ∈ b
      · have hge : decide (plc b x ≥ 0) = true := by unfold plc; rw [if_pos hm]; simp
        have HG2 := Lib.hid (HG.out hm)
        generalize plc b x = p at *
        clear hm
        go_wp2_with fail
        refine HPX.out.mono ?_
        rintro e w' ⟨rfl, rfl⟩
        go_wp2
        go_ret
        exact ⟨ret_b HG2.out.symm, Below.refl _ _⟩
      · have hge : decide (plc b x ≥ 0) = false := by unfold plc; rw [if_neg hm]; simp
        have HG2 := Lib.hid (HNX.out hm)
        generalize plc b x = p at *
        clear hm
        go_wp2_with fail
        refine HPX.out.mono ?_
        rintro e w' ⟨rfl, rfl⟩
        go_wp2
        go_roundw
        case rel => exact ⟨k + 1, by omega, by go_num, HG2.out, by first | rfl | trivial⟩
        case measure => simp [intOf]; omega
    · obtain rfl : k = n := by omega
      go_wp2
      go_ret
      exact ⟨ret_b (meetB_bad a b fun j hj => HA.out j (by have := HN.out; omega)).symm, Below.refl _ _⟩
end Go.Proofs.YtlcpgbbpjnkihaaGreat
