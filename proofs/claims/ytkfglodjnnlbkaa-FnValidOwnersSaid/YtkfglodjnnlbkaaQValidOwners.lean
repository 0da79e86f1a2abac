/- laws.FnValidOwners returns true for all bytes, and writes nothing that was there. (Made by genpl.py.) -/
import Derived.Test.YtkfglodjnnlbkaaT22a
import Derived.Test.YtkfglodjnnlbkaaR25
import Derived.Test.YtkfglodjnnlbkaaM43
import Derived.Test.YtkfglodjnnlbkaaV33
import Derived.Test.YtkfglodjnnlbkaaJG
import Derived.Deep.RegionHeld3
import Derived.BigQuiet
import Derived.Deep.QuietTactic

namespace Go.Proofs.Ytkfglodjnnlbkaa
set_option linter.unusedSimpArgs false
set_option linter.unusedVariables false
open Go.RowKit

set_option maxRecDepth 100000 in
set_option maxHeartbeats 6400000 in
theorem plaw_ValidOwners (A : Option Addr) (n c : Nat) (bs : List Int) (w : World) (hn : n = bs.length) (hnc : n ≤ c) (h : BS w w.heap.size A bs) (hy : BY bs) (hm : n ≤ 9223372036854775807) :
    Calls Try.prog 3 #[.slice A n c] w fun e w' => e = .returned (.bool true) ∧ Below w.heap.size w w' := by
  by_cases hs : 1048576 < n
  · clear hn hnc h hy
    go_enter Try.func3, Try.ntmps3
    go_wp2
    go_ret
    exact ⟨rfl, Below.refl _ _⟩
  have HC := Lib.hid (spec_DrawValidOwners A n c bs w hn hnc h hy (by omega))
  clear hn hnc h hy
  go_enter Try.func3, Try.ntmps3
  go_wp2_with fail
  refine HC.out.mono ?_
  rintro e w1 ⟨A1, n1, c1, ds, rfl, hp1, hn1, hn12, hnc1, hOB, hlens, hP, hb⟩
  have HN1 := Lib.hid hp1
  have HOB := Lib.hid hOB
  have HLE := Lib.hid hlens
  have P_1 := Lib.hid (hP)
  have B_1 := Lib.hid (hb)
  clear hP hp1 hb HC hOB hlens
  have HVO := Lib.hid fun (w' : World) (h : OS w' w'.heap.size A1 ds) =>  top_impl_ValidOwners ds HOB.out A1 n1 c1 w' HN1.out hnc1 h
  have HVS := Lib.hid fun (w' : World) (h : OS w' w'.heap.size A1 ds) =>  top_spec_ValidOwners ds HOB.out A1 n1 c1 w' HN1.out hnc1 h
  have HIM := Lib.hid fun (o : Int) (w' : World) (h : OS w' w'.heap.size A1 ds) => top_impl_DisposeOwner ds o HOB.out A1 n1 c1 w' HN1.out hnc1 h
  have HF := Lib.hid (disp_valid (ds := ds))
  generalize validO ds = v at *
  have hvv : (v != v) = false := by simp
  go_wp2_with fail
  refine (HVO.out w1 P_1.out).mono ?_
  rintro e w2 ⟨rfl, hb⟩
  have P_2 := Lib.hid (P_1.out.step hb)
  clear P_1
  have B_2 := Lib.hid (B_1.out.trans (hb.mono B_1.out.size))
  clear B_1
  clear hb
  go_wp2_with fail
  refine (HVS.out w2 P_2.out).mono ?_
  rintro e w3 ⟨rfl, hb⟩
  have P_3 := Lib.hid (P_2.out.step hb)
  clear P_2
  have B_3 := Lib.hid (B_2.out.trans (hb.mono B_2.out.size))
  clear B_2
  clear hb
  cases v
  · skip
    go_wp2_with fail
    refine (HVS.out w3 P_3.out).mono ?_
    rintro e w4 ⟨rfl, hb⟩
    have P_4 := Lib.hid (P_3.out.step hb)
    clear P_3
    have B_4 := Lib.hid (B_3.out.trans (hb.mono B_3.out.size))
    clear B_3
    clear hb
    go_wp2
    go_ret
    exact ⟨rfl, B_4.out⟩
  · skip
    go_wp2
    go_loopw [5] (fun u wr => ∃ k : Nat, 1 ≤ k ∧ k ≤ n1 ∧ u = .int .i64 k ∧ Hid (Below w3.heap.size w3 wr) ∧ w3.heap.size ≤ wr.heap.size) (fun u _ => n1 - (intOf u).toNat)
    case atStart => exact ⟨1, Nat.le_refl _, by omega, rfl, Below.refl _ _, Nat.le_refl _⟩
    case round =>
      obtain ⟨k, hk1, hk, rfl, HB, hwr⟩ := hrel
      obtain ⟨w4, hwK⟩ : ∃ W, W = wr := ⟨_, rfl⟩
      rw [← hwK]
      rw [← hwK] at HB hwr
      clear hwK
      have P_4 := Lib.hid (P_3.out.step HB.out)
      have B_4 := Lib.hid (B_3.out.trans (HB.out.mono B_3.out.size))
      have BK_4 := HB
      clear HB
      by_cases hlt : k < n1
      · have hF := fun h => HF.out (by first | rfl | trivial) k hk1 (by have := HN1.out; omega) h
        have HOR := Lib.hid (dispF_OB ds (k : Int))
        have HI := Lib.hid (HIM.out (k : Int))
        generalize dispF ds (k : Int) = R at *
        generalize dispL ds (k : Int) = L at *
        have HFF := Lib.hid hF
        clear hF
        go_wp2_with fail
        refine (HI.out w4 P_4.out).mono ?_
        rintro e w5 ⟨v9, u9, mid, rfl, ho, ho2, hm1, hm2, hb⟩
        obtain ⟨A3, c3, rfl⟩ := OwO.form ho
        have hnc9 := own_ncapP ho
        have hI9 := ho.owners
        have hJ8 : OwnI w5 w4.heap.size _ (L) := ho2.1
        obtain ⟨A5, c5, rfl, hJ9⟩ := OwnI.form hJ8
        clear hJ8
        have P_5 := Lib.hid (P_4.out.step hb)
        clear P_4
        have B_5 := Lib.hid (B_4.out.trans (hb.mono B_4.out.size))
        clear B_4
        have BK_5 := Lib.hid (BK_4.out.trans (hb.mono BK_4.out.size))
        clear BK_4
        clear hb
        obtain ⟨rl, hl2⟩ : ∃ l, l = R.length := ⟨_, rfl⟩
        have HRL := Lib.hid hl2
        rw [← hl2]
        rw [← hl2] at hnc9
        have R_5 := Lib.hid (hI9)
        clear ho ho2 hI9 hJ9 hl2 hm1 hm2 HI
        obtain ⟨b, off, rfl, hbB, d0, d1, ⟨A6, n6, c6, d2, hn6, i6⟩, A7, n7, c7, d3, hn7, i7⟩ := P_5.out.at_ k (by have := HN1.out; omega)
        clear d0 d2 hn6 i6 d3 hn7 i7
        have HVR := Lib.hid fun (w' : World) (h : OS w' w'.heap.size A3 R) => top_impl_ValidOwners R HOR.out A3 rl c3 w' HRL.out hnc9 h
        have hkn : (k : Int) < (n1 : Int) := by omega
        have HFG : Hid ((ds.getD k default).o = true → validO R = true) := HFF.out
        clear HFF
        generalize (ds.getD k default).o = po at *
        cases po
        · clear HFG
          go_wp2
          go_roundw
          case rel => exact ⟨k + 1, by omega, by omega, by go_num, BK_5.out, BK_5.out.size⟩
          case measure => simp [intOf]; omega
        · rw [HFG.out rfl] at HVR
          clear HFG
          go_wp2_with fail
          refine (HVR.out w5 R_5.out).mono ?_
          rintro e w6 ⟨rfl, hb⟩
          have P_6 := Lib.hid (P_5.out.step hb)
          clear P_5
          have B_6 := Lib.hid (B_5.out.trans (hb.mono B_5.out.size))
          clear B_5
          have BK_6 := Lib.hid (BK_5.out.trans (hb.mono BK_5.out.size))
          clear BK_5
          have R_6 := Lib.hid (R_5.out.step hb)
          clear R_5
          clear hb
          go_wp2
          go_roundw
          case rel => exact ⟨k + 1, by omega, by omega, by go_num, BK_6.out, BK_6.out.size⟩
          case measure => simp [intOf]; omega
      · obtain rfl : k = n1 := by omega
        go_wp2
        go_ret
        exact ⟨rfl, B_4.out⟩
end Go.Proofs.Ytkfglodjnnlbkaa
