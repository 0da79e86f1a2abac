/- Keys: what ValidKeys asks; both sides. -/
import Derived.Test.YtjlfabfejnpaaaaS0
import Derived.BigQuiet
import Derived.Deep.QuietTactic

namespace Go.Proofs.Ytjlfabfejnpaaaa
set_option linter.unusedSimpArgs false
set_option linter.unusedVariables false
open Go.RowKit

/-- Different numbers, each in 0..m. -/
def difB (m : Int) (xs : List Int) : Bool := allR xs 0 m && decide xs.Nodup
/-- Keys are valid. -/
def validK (xs : List Int) : Bool := decide (xs.length ≤ 10) && difB 30 xs

theorem getD_take_lt (xs : List Int) (k j : Nat) (h : j < k) (hk : k ≤ xs.length) : (xs.take k).getD j 0 = xs.getD j 0 := by
  simp [List.getD, List.getElem?_take, h]

theorem IS.take_ {w : World} {B : Nat} {A : Option Addr} {xs : List Int} (h : IS w B A xs) (k : Nat) (hk : k ≤ xs.length) : IS w B A (xs.take k) := by
  intro hn
  have hk0 : 0 < k := by
    rcases Nat.eq_zero_or_pos k with rfl | h0
    · simp at hn
    · exact h0
  obtain ⟨b, off, e, hb, hc⟩ := h (by omega)
  refine ⟨b, off, e, hb, fun j hj => ?_⟩
  have hj' : j < k := by simp at hj; omega
  rw [hc j (by omega), getD_take_lt xs k j hj' hk]

theorem nodup_take_step (xs : List Int) (k : Nat) (h : k < xs.length) (hn : (xs.take k).Nodup) (hx : xs.getD k 0 ∉ xs.take k) : (xs.take (k + 1)).Nodup := by
  have hg : xs[k] = xs.getD k 0 := by simp [List.getD, h]
  rw [List.take_succ_eq_append_getElem h, hg, List.nodup_append]
  refine ⟨hn, by simp, ?_⟩
  intro a ha b hb e
  simp at hb
  subst hb; subst e
  exact hx ha

theorem nodup_take_no (xs : List Int) (k : Nat) (h : k < xs.length) (hx : xs.getD k 0 ∈ xs.take k) : ¬ xs.Nodup := by
  intro hn
  have h1 := (List.take_sublist (k + 1) xs).nodup hn
  have hg : xs[k] = xs.getD k 0 := by simp [List.getD, h]
  rw [List.take_succ_eq_append_getElem h, hg, List.nodup_append] at h1
  exact h1.2.2 _ hx _ (by simp) rfl

theorem difB_nodup_no (m : Int) (xs : List Int) (h : ¬ xs.Nodup) : difB m xs = false := by unfold difB; rw [decide_eq_false h]; simp
theorem difB_rng_no (m : Int) (xs : List Int) (h : allR xs 0 m = false) : difB m xs = false := by unfold difB; rw [h]; simp
theorem difB_yes (m : Int) (xs : List Int) (h : allR xs 0 m = true) (h2 : xs.Nodup) : difB m xs = true := by unfold difB; rw [h, decide_eq_true h2]; rfl

set_option maxRecDepth 100000 in
set_option maxHeartbeats 1600000 in
theorem spec_validKeys (A : Option Addr) (n c : Nat) (xs : List Int) (w : World) (B : Nat) (hB : B ≤ w.heap.size) (hn : n = xs.length) (hnc : n ≤ c) (h : IS w B A xs) (hs : n ≤ 2000000) :
    Calls Try.prog 41 #[.slice A n c] w fun e w' => e = .returned (.bool (validK xs)) ∧ Below w.heap.size w w' := by
  have H := Lib.hid h
  have HN := Lib.hid hn
  clear hn h
  go_enter Try.func41, Try.ntmps41
  go_wp2
  go_loopw [3] (fun i wr => ∃ k : Nat, k ≤ n ∧ i = .int .i64 k ∧ Hid ((xs.take k).Nodup) ∧ Below w.heap.size w wr) (fun i _ => n - (intOf i).toNat)
  case atStart => exact ⟨0, Nat.zero_le _, rfl, by simp [Hid], Below.refl _ _⟩
  case round =>
    obtain ⟨k, hk, rfl, HD, hb⟩ := hrel
    have hwr : w.heap.size ≤ wr.heap.size := hb.size
    by_cases hlt : k < n
    · have hkx : k < xs.length := by have := HN.out; omega
      have hlti : (k : Int) < (n : Int) := by omega
      have hkc : k ≤ c := by omega
      have HT := Lib.hid (((H.out.take_ k (by omega)).below hb (by omega)))
      obtain ⟨b, off, rfl, hbB, hc⟩ := H.out (by omega)
      have c0 := (hb.cell (p := ⟨b, off + k, none⟩) (by simp; omega)).trans (hc k hkx)
      clear hc H
      have HP := Lib.hid fun (q : Nat) => spec_placeIn (some ⟨b, off, none⟩) k c (xs.take k) (xs.getD k 0) (wr.drewN q) B (by show B ≤ wr.heap.size; omega) (by simp; omega) HT.out (by omega)
      have HY := Lib.hid (nodup_take_step xs k hkx)
      have HNO := Lib.hid (nodup_take_no xs k hkx)
      have hpl := plc_ge (xs.take k) (xs.getD k 0)
      generalize xs.getD k 0 = x at *
      by_cases hm : x ∈ xs.take k
      · rw [decide_eq_true hm] at hpl
        have hge : 0 ≤ plc (xs.take k) x := by simpa using hpl
        have HF := Lib.hid (HNO.out hm)
        clear hm hpl HT HY HNO
        generalize plc (xs.take k) x = p at *
        go_wp2
        go_quiet (first | (go_at_call 67; exact Calls.quiet_of_same ((HP.out _).mono fun e w' h => ⟨h.1, h.2.symm⟩)))
        go_wp2
        go_ret
        refine ⟨ret_b ?_, ?_⟩
        · unfold validK
          rw [difB_nodup_no _ _ HF.out]; simp
        · exact ⟨hb.os, hb.tape, hb.output, hb.size, hb.block⟩
      · rw [decide_eq_false hm] at hpl
        have hge : plc (xs.take k) x < 0 := by simpa using hpl
        have HT2 := Lib.hid (HY.out HD.out hm)
        clear hm hpl HT HY HNO
        generalize plc (xs.take k) x = p at *
        go_wp2
        go_quiet (first | (go_at_call 67; exact Calls.quiet_of_same ((HP.out _).mono fun e w' h => ⟨h.1, h.2.symm⟩)))
        go_wp2
        go_roundw
        case rel => exact ⟨k + 1, by omega, by go_num, HT2.out, ⟨hb.os, hb.tape, hb.output, hb.size, hb.block⟩⟩
        case measure => simp [intOf]; omega
    · obtain rfl : k = n := by omega
      have hnd : xs.Nodup := by have := HD.out; rwa [HN.out, List.take_of_length_le (Nat.le_refl _)] at this
      have hva : validK xs = (decide (k ≤ 10) && allR xs 0 30) := by unfold validK difB; rw [decide_eq_true hnd, HN.out]; simp
      have HVA := Lib.hid hva
      have HA := Lib.hid (spec_allIn A k c xs 0 30 wr B (by omega) HN.out (H.out.below hb (by omega)) hs)
      generalize allR xs 0 30 = r at *
      clear hnd hva H
      by_cases h10 : k ≤ 10
      · go_wp2_with fail
        refine HA.out.mono ?_
        rintro e w2 ⟨rfl, rfl⟩
        go_wp2
        go_ret
        exact ⟨ret_b (by rw [HVA.out, decide_eq_true h10]; simp), hb⟩
      · go_wp2
        go_ret
        exact ⟨ret_b (by rw [HVA.out, decide_eq_false h10]; simp), hb⟩

set_option maxHeartbeats 800000 in
theorem top_spec_ValidKeys (xs : List Int) (hL : xs.length ≤ 1048576) : ∀ (A : Option Addr) (m c' : Nat) (w : World), m = xs.length → m ≤ c' → IS w w.heap.size A xs →
    Calls Try.prog 11 #[.slice A m c'] w fun e w' => e = .returned (.bool (validK xs)) ∧ Below w.heap.size w w' := by
  intro A m c' w hm hmc h
  have HC := Lib.hid (spec_validKeys A m c' xs w w.heap.size (Nat.le_refl _) hm hmc h (by omega))
  generalize validK xs = r at *
  clear hm h
  go_enter Try.func11, Try.ntmps11
  go_wp2_with fail
  refine HC.out.mono ?_
  rintro e w1 ⟨rfl, hb⟩
  go_wp2
  go_ret
  exact ⟨rfl, hb⟩

set_option maxRecDepth 100000 in
set_option maxHeartbeats 1600000 in
theorem impl_areDifferentUpTo (m : Int) (A : Option Addr) (n c : Nat) (xs : List Int) (w : World) (B : Nat) (hB : B ≤ w.heap.size) (hn : n = xs.length) (hnc : n ≤ c) (h : IS w B A xs) (hs : n ≤ 2000000) :
    Calls Try.prog 42 #[.int .i64 m, .slice A n c] w fun e w' => e = .returned (.bool (difB m xs)) ∧ Below w.heap.size w w' := by
  have H := Lib.hid h
  have HN := Lib.hid hn
  clear hn h
  go_enter Try.func42, Try.ntmps42
  go_wp2
  go_loopw [9] (fun i wr => ∃ k : Nat, k ≤ n ∧ i = .int .i64 k ∧ Hid ((xs.take k).Nodup) ∧ Hid (∀ j, j < k → rng (xs.getD j 0) 0 m = true) ∧ Below w.heap.size w wr) (fun i _ => n - (intOf i).toNat)
  case atStart => exact ⟨0, Nat.zero_le _, rfl, by simp [Hid], fun j hj => by omega, Below.refl _ _⟩
  case round =>
    obtain ⟨k, hk, rfl, HD, HA, hb⟩ := hrel
    have hwr : w.heap.size ≤ wr.heap.size := hb.size
    by_cases hlt : k < n
    · have hkx : k < xs.length := by have := HN.out; omega
      have hkc : k ≤ c := by omega
      have HT := Lib.hid (((H.out.take_ k (by omega)).below hb (by omega)))
      obtain ⟨b, off, rfl, hbB, hc⟩ := H.out (by omega)
      have c0 := (hb.cell (p := ⟨b, off + k, none⟩) (by simp; omega)).trans (hc k hkx)
      clear hc H
      have HP := Lib.hid (slices_Contains (some ⟨b, off, none⟩) k c (xs.take k) (xs.getD k 0) wr B (by omega) (by simp; omega) HT.out (by omega))
      have HY := Lib.hid (nodup_take_step xs k hkx)
      have HNO := Lib.hid (nodup_take_no xs k hkx)
      have HAR : Hid (rng (xs.getD k 0) 0 m = false → allR xs 0 m = false) := allR_false xs 0 m k hkx
      have HAS : Hid (rng (xs.getD k 0) 0 m = true → ∀ j, j < k + 1 → rng (xs.getD j 0) 0 m = true) := fun h j hj => by
        rcases Nat.lt_or_ge j k with h1 | h1
        · exact HA.out j h1
        · obtain rfl : j = k := by omega
          exact h
      generalize xs.getD k 0 = x at *
      have HR := Lib.hid (impl_inRange x m wr)
      generalize hr : rng x 0 m = r at *
      clear hr
      cases r
      · have HF := Lib.hid (difB_rng_no m xs (HAR.out rfl))
        clear HAR HAS HY HNO
        go_wp2_with fail
        refine HR.out.mono ?_
        rintro e w2 ⟨rfl, rfl⟩
        go_wp2
        go_ret
        exact ⟨ret_b HF.out.symm, hb⟩
      · have HAS2 := Lib.hid (HAS.out rfl)
        by_cases hm : x ∈ xs.take k
        · rw [decide_eq_true hm] at HP
          have HF := Lib.hid (difB_nodup_no m xs (HNO.out hm))
          clear hm HT HY HNO HAR HAS
          go_wp2_with fail
          refine HR.out.mono ?_
          rintro e w2 ⟨rfl, rfl⟩
          go_wp2_with fail
          refine HP.out.mono ?_
          rintro e w3 ⟨rfl, rfl⟩
          go_wp2
          go_ret
          exact ⟨ret_b HF.out.symm, hb⟩
        · rw [decide_eq_false hm] at HP
          have HT2 := Lib.hid (HY.out HD.out hm)
          clear hm HT HY HNO HAR HAS
          go_wp2_with fail
          refine HR.out.mono ?_
          rintro e w2 ⟨rfl, rfl⟩
          go_wp2_with fail
          refine HP.out.mono ?_
          rintro e w3 ⟨rfl, rfl⟩
          go_wp2
          go_roundw
          case rel => exact ⟨k + 1, by omega, by go_num, HT2.out, HAS2.out, hb⟩
          case measure => simp [intOf]; omega
    · obtain rfl : k = n := by omega
      have hnd : xs.Nodup := by have := HD.out; rwa [HN.out, List.take_of_length_le (Nat.le_refl _)] at this
      have hva : difB m xs = true := difB_yes m xs (allR_true xs 0 m fun j hj => HA.out j (by have := HN.out; omega)) hnd
      have HVA := Lib.hid hva
      clear hnd hva H
      go_wp2
      go_ret
      exact ⟨ret_b HVA.out.symm, hb⟩

set_option maxHeartbeats 800000 in
theorem impl_ValidKeys (A : Option Addr) (n c : Nat) (xs : List Int) (w : World) (B : Nat) (hB : B ≤ w.heap.size) (hn : n = xs.length) (hnc : n ≤ c) (h : IS w B A xs) (hs : n ≤ 2000000) :
    Calls Try.prog 13 #[.slice A n c] w fun e w' => e = .returned (.bool (validK xs)) ∧ Below w.heap.size w w' := by
  have HC := Lib.hid (impl_areDifferentUpTo 30 A n c xs w B hB hn hnc h hs)
  have hva : validK xs = (decide (n ≤ 10) && difB 30 xs) := by unfold validK; rw [hn]
  rw [hva]
  generalize difB 30 xs = r at *
  clear hn h hva
  by_cases h10 : n ≤ 10
  · rw [decide_eq_true h10]
    go_enter Try.func13, Try.ntmps13
    go_wp2_with fail
    refine HC.out.mono ?_
    rintro e w1 ⟨rfl, hb⟩
    go_wp2
    go_ret
    exact ⟨ret_b (by simp), hb⟩
  · rw [decide_eq_false h10]
    go_enter Try.func13, Try.ntmps13
    go_wp2
    go_ret
    exact ⟨ret_b (by simp), Below.refl _ _⟩

theorem top_impl_ValidKeys (xs : List Int) (hL : xs.length ≤ 1048576) : ∀ (A : Option Addr) (m c' : Nat) (w : World), m = xs.length → m ≤ c' → IS w w.heap.size A xs →
    Calls Try.prog 13 #[.slice A m c'] w fun e w' => e = .returned (.bool (validK xs)) ∧ Below w.heap.size w w' :=
  fun A m c' w hm hmc h => impl_ValidKeys A m c' xs w w.heap.size (Nat.le_refl _) hm hmc h (by omega)
end Go.Proofs.Ytjlfabfejnpaaaa
