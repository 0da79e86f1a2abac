/- laws.FnRunsOf returns true for all bytes, and writes nothing that was there. -/
import Derived.Test.YtdakeegeleegiaaR0
import Derived.Test.YtdakeegeleegiaaR1
namespace Go.Proofs.Ytdakeegeleegiaa
set_option linter.unusedSimpArgs false
set_option linter.unusedVariables false
open Go.RowKit

set_option maxHeartbeats 800000 in
theorem laws_place (A : Option Addr) (n c : Nat) (xs : List Int) (x : Int) (w : World) (B : Nat) (hB : B ≤ w.heap.size) (hn : n = xs.length) (h : IS w B A xs) (hs : n ≤ 2000000) :
    Calls Try.prog 7 #[.slice A n c, .int .i64 x] w fun e w' => e = .returned (.int .i64 (plc xs x)) ∧ w = w' := by
  have H := Lib.hid h
  have HN := Lib.hid hn
  clear hn h
  go_enter Try.func7, Try.ntmps7
  go_wp2
  go_loop [5] (fun i => ∃ k : Nat, k ≤ n ∧ i = .int .i64 k ∧ Hid (∀ j, j < k → xs.getD j 0 ≠ x)) (fun i => n - (intOf i).toNat)
  case atStart => exact ⟨0, Nat.zero_le _, rfl, fun j hj => by omega⟩
  case round =>
    obtain ⟨k, hk, rfl, HA⟩ := hrel
    by_cases hlt : k < n
    · obtain ⟨b, off, rfl, hbB, hc⟩ := H.out (by have := HN.out; omega)
      have c0 := hc k (by have := HN.out; omega)
      clear hc H
      generalize hp : xs.getD k 0 = p at *
      have HP := Lib.hid hp
      clear hp
      cases hr : (p == x)
      · have HR := Lib.hid hr
        go_wp2
        go_round
        case rel => exact ⟨k + 1, by omega, by go_num, fun j hj => by
          rcases Nat.lt_or_ge j k with h1 | h1
          · exact HA.out j h1
          · obtain rfl : j = k := by omega
            rw [HP.out]; simpa using HR.out⟩
        case measure => simp [intOf]; omega
      · have HR := Lib.hid hr
        go_wp2
        go_ret
        refine ⟨ret_i ?_, rfl⟩
        exact (plc_at xs x k (by have := HN.out; omega) (by rw [HP.out]; simpa using HR.out) HA.out).symm
    · go_wp2
      go_ret
      refine ⟨ret_i ?_, rfl⟩
      exact (plc_none xs x fun j hj => HA.out j (by have := HN.out; omega)).symm

set_option maxHeartbeats 800000 in
theorem laws_isIn (A : Option Addr) (n c : Nat) (xs : List Int) (x : Int) (w : World) (B : Nat) (hB : B ≤ w.heap.size) (hn : n = xs.length) (h : IS w B A xs) (hs : n ≤ 2000000) :
    Calls Try.prog 8 #[.slice A n c, .int .i64 x] w fun e w' => e = .returned (.bool (decide (x ∈ xs))) ∧ w = w' := by
  have H := Lib.hid h
  have HN := Lib.hid hn
  clear hn h
  go_enter Try.func8, Try.ntmps8
  go_wp2
  go_loop [5] (fun i => ∃ k : Nat, k ≤ n ∧ i = .int .i64 k ∧ Hid (∀ j, j < k → xs.getD j 0 ≠ x)) (fun i => n - (intOf i).toNat)
  case atStart => exact ⟨0, Nat.zero_le _, rfl, fun j hj => by omega⟩
  case round =>
    obtain ⟨k, hk, rfl, HA⟩ := hrel
    by_cases hlt : k < n
    · obtain ⟨b, off, rfl, hbB, hc⟩ := H.out (by have := HN.out; omega)
      have c0 := hc k (by have := HN.out; omega)
      clear hc H
      generalize hp : xs.getD k 0 = p at *
      have HP := Lib.hid hp
      clear hp
      cases hr : (p == x)
      · have HR := Lib.hid hr
        go_wp2
        go_round
        case rel => exact ⟨k + 1, by omega, by go_num, fun j hj => by
          rcases Nat.lt_or_ge j k with h1 | h1
          · exact HA.out j h1
          · obtain rfl : j = k := by omega
            rw [HP.out]; simpa using HR.out⟩
        case measure => simp [intOf]; omega
      · have HR := Lib.hid hr
        go_wp2
        go_ret
        refine ⟨ret_b ?_, rfl⟩
        symm
        apply decide_eq_true
        have h1 : k < xs.length := by have := HN.out; omega
        have h2 := HP.out
        have h3 : p = x := by simpa using HR.out
        rw [← h3, ← h2]
        simp [List.getD, h1]
    · go_wp2
      go_ret
      refine ⟨ret_b ?_, rfl⟩
      symm
      apply decide_eq_false
      intro hm
      obtain ⟨j, hj, he⟩ := List.mem_iff_getElem.1 hm
      exact HA.out j (by have := HN.out; omega) (by simp [List.getD, hj, he])

set_option maxRecDepth 100000 in
set_option maxHeartbeats 3200000 in
theorem law_RunsOf (A : Option Addr) (n c : Nat) (bs : List Int) (w : World) (hn : n = bs.length) (hnc : n ≤ c) (h : BS w w.heap.size A bs) (hy : BY bs) (hm : n ≤ 9223372036854775807) :
    Calls Try.prog 3 #[.slice A n c] w fun e w' => e = .returned (.bool true) ∧ Below w.heap.size w w' := by
  by_cases hs : 1048576 < n
  · clear hn hnc h hy
    go_enter Try.func3, Try.ntmps3
    go_wp2
    go_ret
    exact ⟨rfl, Below.refl _ _⟩
  have HC := Lib.hid (spec_DrawRunsOf A n c bs w w.heap.size (Nat.le_refl _) hn hnc h hy (by omega))
  clear hn hnc h hy
  go_enter Try.func3, Try.ntmps3
  go_wp2_with fail
  refine HC.out.mono ?_
  rintro e w1 ⟨A1, c1, xs, x, rfl, hx9, hI, hb⟩
  obtain ⟨l, hl⟩ : ∃ l : Nat, l = xs.length := ⟨_, rfl⟩
  have HL := Lib.hid hl
  have HI := Lib.hid hI
  have HB := Lib.hid hb
  have hl9 : l ≤ 9 := by omega
  have HIM := Lib.hid fun (y : Int) (w' : World) (h : IS w' w'.heap.size A1 xs) => top_impl_RunsOf xs y (by omega) A1 l c1 w' hl h
  have HSP := Lib.hid fun (y : Int) (w' : World) (h : IS w' w'.heap.size A1 xs) => top_spec_RunsOf xs y (by omega) A1 l c1 w' hl h
  have hrb : ∀ y, 0 ≤ runsF xs y ∧ runsF xs y ≤ 9 := fun y => by unfold runsF; have := cnt_le xs y; omega
  have HRB := Lib.hid hrb
  have HPOS := Lib.hid (runs_pos xs x)
  rw [← hl]
  clear hl hI hb HC hrb
  have hr0 := HRB.out x
  go_wp2_with fail
  refine (HIM.out x _ HI.out).mono ?_
  rintro e w2 ⟨rfl, hb2⟩
  have HI2 := Lib.hid (HI.out.step hb2)
  have HB2 := Lib.hid (HB.out.trans (hb2.mono HB.out.size))
  have hne : (runsF xs x != runsF xs x) = false := by simp
  clear hb2
  go_wp2_with fail
  refine (HSP.out x _ HI2.out).mono ?_
  rintro e w3 ⟨rfl, hb3⟩
  have HI3 := Lib.hid (HI2.out.step hb3)
  have HB3 := Lib.hid (HB2.out.trans (hb3.mono HB2.out.size))
  clear hb3 HI HI2
  obtain ⟨r, hr⟩ : ∃ r : Int, r = runsF xs x := ⟨_, rfl⟩
  have HR := Lib.hid hr
  rw [← hr] at hr0 HPOS hne
  rw [← hr]
  clear hr
  go_wp2
  go_loopw [6, 7] (fun q u wr => ∃ (k o : Nat), k ≤ l ∧ u = .int .i64 k ∧ q = .int .i64 o ∧ o ≤ 9 ∧ Hid (o = sumF xs k) ∧ Hid (Below w3.heap.size w3 wr)) (fun _ u _ => l - (intOf u).toNat)
  case atStart => exact ⟨0, 0, Nat.zero_le _, rfl, rfl, by omega, rfl, Below.refl _ _⟩
  case round =>
    obtain ⟨k, o, hk, rfl, rfl, ho9, HO, HBR⟩ := hrel
    by_cases hlt : k < l
    · have hkx : k < xs.length := by have := HL.out; omega
      have HIR := Lib.hid ((HI3.out.below HBR.out (Nat.le_refl _)).more (B' := wr.heap.size) HBR.out.size)
      obtain ⟨b, off, hA, hbB, hc⟩ := HIR.out (by omega)
      have c0 := hc k hkx
      have HSU : Hid (sumF xs (k + 1) = if plc xs (xs.getD k 0) == (k : Int) then sumF xs k + cnt xs (xs.getD k 0) else sumF xs k) := rfl
      have HSL := Lib.hid (sumF_le xs (k + 1) (by omega))
      generalize xs.getD k 0 = y at *
      have HPL := Lib.hid (laws_place A1 l c1 xs y wr wr.heap.size (Nat.le_refl _) HL.out HIR.out (by omega))
      have HIY := Lib.hid (HIM.out y wr HIR.out)
      have hry := HRB.out y
      have hru : runsF xs y = (cnt xs y : Int) := rfl
      have HRU := Lib.hid hru
      clear hru
      generalize runsF xs y = ry at *
      clear hc
      subst hA
      cases hp : (plc xs y == (k : Int))
      · rw [hp] at HSU
        generalize plc xs y = pl at *
        go_wp2_with fail
        refine HPL.out.mono ?_
        rintro e w4 ⟨rfl, rfl⟩
        go_wp2
        go_roundw
        case rel => exact ⟨k + 1, o, by omega, by go_num, rfl, ho9, by rw [HSU.out]; exact HO.out, HBR.out⟩
        case measure => simp [intOf]; omega
      · rw [hp] at HSU
        generalize plc xs y = pl at *
        have hob : (o : Int) + ry ≤ 9 := by
          have h1 := HSU.out
          have h2 := HSL.out
          have h3 := HO.out
          have h4 := HRU.out
          have h5 := HL.out
          simp only [if_true] at h1
          omega
        go_wp2_with fail
        refine HPL.out.mono ?_
        rintro e w4 ⟨rfl, rfl⟩
        go_wp2_with fail
        refine HIY.out.mono ?_
        rintro e w5 ⟨rfl, hb5⟩
        go_wp2
        go_roundw
        case rel =>
          have h1 := HSU.out
          have h3 := HO.out
          have h4 := HRU.out
          simp only [if_true] at h1
          exact ⟨k + 1, (o + ry).toNat, by omega, by go_num, by rw [Int.toNat_of_nonneg (by omega)], by omega, by show (o + ry).toNat = _; omega, HBR.out.trans (hb5.mono HBR.out.size)⟩
        case measure => simp [intOf]; omega
    · obtain rfl : k = l := by omega
      have hok : o = k := by
        have h1 := HO.out
        rw [HL.out, sumF_all] at h1
        have := HL.out
        omega
      subst hok
      have HIR := Lib.hid ((HI3.out.below HBR.out (Nat.le_refl _)).more (B' := wr.heap.size) HBR.out.size)
      have HIN := Lib.hid (laws_isIn A1 o c1 xs x wr wr.heap.size (Nat.le_refl _) HL.out HIR.out (by omega))
      rw [← HPOS.out] at HIN
      have hoo : ((o : Int) == (o : Int)) = true := by simp
      have HBE := Lib.hid (HB3.out.trans (HBR.out.mono HB3.out.size))
      clear HPOS HO
      go_wp2_with fail
      refine HIN.out.mono ?_
      rintro e w4 ⟨rfl, rfl⟩
      go_wp2
      go_ret
      exact ⟨ret_b (by simp), HBE.out⟩
end Go.Proofs.Ytdakeegeleegiaa
