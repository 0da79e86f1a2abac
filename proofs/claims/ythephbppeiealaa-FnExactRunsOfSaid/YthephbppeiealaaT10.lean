/- The standing contracts of RunsOf. -/
import Derived.Test.YthephbppeiealaaA10
namespace Go.Proofs.Ythephbppeiealaa
set_option linter.unusedSimpArgs false
set_option linter.unusedVariables false
open Go.RowKit

/-- How often a number is in a list. -/
def cnt (xs : List Int) (y : Int) : Nat := xs.countP (fun x => x == y)
def runsF (xs : List Int) (y : Int) : Int := (cnt xs y : Int)

theorem cnt_le (xs : List Int) (y : Int) : cnt xs y ≤ xs.length := List.countP_le_length
theorem cnt_take_yes (xs : List Int) (y : Int) (k : Nat) (h : k < xs.length) (hy : (xs.getD k 0 == y) = true) : cnt (xs.take (k + 1)) y = cnt (xs.take k) y + 1 := by
  have hg : xs[k] = xs.getD k 0 := by simp [List.getD, h]
  unfold cnt
  rw [List.take_succ_eq_append_getElem h, List.countP_append, hg]
  simp only [List.countP_cons, List.countP_nil, hy]
  simp
theorem cnt_take_no (xs : List Int) (y : Int) (k : Nat) (h : k < xs.length) (hy : (xs.getD k 0 == y) = false) : cnt (xs.take (k + 1)) y = cnt (xs.take k) y := by
  have hg : xs[k] = xs.getD k 0 := by simp [List.getD, h]
  unfold cnt
  rw [List.take_succ_eq_append_getElem h, List.countP_append, hg]
  simp only [List.countP_cons, List.countP_nil, hy]
  simp

set_option maxHeartbeats 800000 in
theorem top_spec_RunsOf (xs : List Int) (y : Int) (hL : xs.length ≤ 1048576) : ∀ (A : Option Addr) (m c' : Nat) (w : World), m = xs.length → IS w w.heap.size A xs →
    Calls Try.prog 30 #[.slice A m c', .int .i64 y] w fun e w' => e = .returned (.int .i64 (runsF xs y)) ∧ Below w.heap.size w w' := by
  intro A m c' w hm h
  have H := Lib.hid h
  have HM := Lib.hid hm
  have hm1 : m ≤ 1048576 := by omega
  clear h hm hL
  go_enter Try.func30, Try.ntmps30
  go_wp2
  go_loopw [5, 6] (fun q i wr => ∃ k o : Nat, k ≤ m ∧ i = .int .i64 k ∧ q = .int .i64 o ∧ o ≤ k ∧ Hid (o = cnt (xs.take k) y) ∧ Below w.heap.size w wr) (fun _ i _ => m - (intOf i).toNat)
  case atStart => exact ⟨0, 0, Nat.zero_le _, rfl, rfl, Nat.le_refl _, by simp [Hid, cnt], Below.refl _ _⟩
  case round =>
    obtain ⟨k, o, hk, rfl, rfl, hok, HO, hb⟩ := hrel
    by_cases hlt : k < m
    · have hkx : k < xs.length := by have := HM.out; omega
      obtain ⟨b, off, rfl, hbB, hc⟩ := H.out (by omega)
      have c0 := hc k hkx
      have b0 := (hb.cell (p := ⟨b, off + k, none⟩) (by simp; omega)).trans c0
      have HY := Lib.hid (cnt_take_yes xs y k hkx)
      have HN := Lib.hid (cnt_take_no xs y k hkx)
      generalize xs.getD k 0 = x at *
      clear hc c0 H
      cases hxy : (x == y)
      · have HN2 := Lib.hid (HN.out hxy)
        go_wp2
        go_roundw
        case rel => exact ⟨k + 1, o, by omega, by go_num, rfl, by omega, by rw [HN2.out]; exact HO.out, hb⟩
        case measure => simp [intOf]; omega
      · have HY2 := Lib.hid (HY.out hxy)
        go_wp2
        go_roundw
        case rel => exact ⟨k + 1, o + 1, by omega, by go_num, by go_num, by omega, by rw [HY2.out]; have := HO.out; show o + 1 = _; omega, hb⟩
        case measure => simp [intOf]; omega
    · obtain rfl : k = m := by omega
      go_wp2
      go_ret
      refine ⟨ret_i ?_, hb⟩
      have := HO.out
      rw [HM.out, List.take_of_length_le (Nat.le_refl _)] at this
      unfold runsF
      omega

set_option maxHeartbeats 800000 in
theorem top_impl_RunsOf (xs : List Int) (y : Int) (hL : xs.length ≤ 1048576) : ∀ (A : Option Addr) (m c' : Nat) (w : World), m = xs.length → IS w w.heap.size A xs →
    Calls Try.prog 31 #[.slice A m c', .int .i64 y] w fun e w' => e = .returned (.int .i64 (runsF xs y)) ∧ Below w.heap.size w w' := by
  intro A m c' w hm h
  have H := Lib.hid h
  have HM := Lib.hid hm
  have hm1 : m ≤ 1048576 := by omega
  clear h hm hL
  go_enter Try.func31, Try.ntmps31
  go_wp2
  go_loopw [5, 10] (fun q i wr => ∃ k o : Nat, k ≤ m ∧ i = .int .i64 k ∧ q = .int .i64 o ∧ o ≤ k ∧ Hid (o = cnt (xs.take k) y) ∧ Below w.heap.size w wr) (fun _ i _ => m - (intOf i).toNat)
  case atStart => exact ⟨0, 0, Nat.zero_le _, rfl, rfl, Nat.le_refl _, by simp [Hid, cnt], Below.refl _ _⟩
  case round =>
    obtain ⟨k, o, hk, rfl, rfl, hok, HO, hb⟩ := hrel
    by_cases hlt : k < m
    · have hkx : k < xs.length := by have := HM.out; omega
      obtain ⟨b, off, rfl, hbB, hc⟩ := H.out (by omega)
      have c0 := hc k hkx
      have b0 := (hb.cell (p := ⟨b, off + k, none⟩) (by simp; omega)).trans c0
      have HY := Lib.hid (cnt_take_yes xs y k hkx)
      have HN := Lib.hid (cnt_take_no xs y k hkx)
      generalize xs.getD k 0 = x at *
      clear hc c0 H
      cases hxy : (x == y)
      · have HN2 := Lib.hid (HN.out hxy)
        go_wp2
        go_roundw
        case rel => exact ⟨k + 1, o, by omega, by go_num, rfl, by omega, by rw [HN2.out]; exact HO.out, hb⟩
        case measure => simp [intOf]; omega
      · have HY2 := Lib.hid (HY.out hxy)
        go_wp2
        go_roundw
        case rel => exact ⟨k + 1, o + 1, by omega, by go_num, by go_num, by omega, by rw [HY2.out]; have := HO.out; show o + 1 = _; omega, hb⟩
        case measure => simp [intOf]; omega
    · obtain rfl : k = m := by omega
      go_wp2
      go_ret
      refine ⟨ret_i ?_, hb⟩
      have := HO.out
      rw [HM.out, List.take_of_length_le (Nat.le_refl _)] at this
      unfold runsF
      omega
end Go.Proofs.Ythephbppeiealaa
