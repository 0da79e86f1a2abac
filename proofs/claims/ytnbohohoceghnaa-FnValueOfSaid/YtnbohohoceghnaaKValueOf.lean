/- For all bytes the law FnValueOf holds: a value does not hang on nodes that are not read, and lies among the values; and the bytes stay as they were. Conditions: none. -/
import Derived.Test.YtnbohohoceghnaaZ07
import Derived.Deep.RegionWith
import Derived.Deep.RegionHeld3
/- laws.FnReadsOf returns true for all bytes, and writes nothing that was there. (Made by genpl.py.) -/
namespace Go.Proofs.Ytnbohohoceghnaa
set_option linter.unusedSimpArgs false
set_option linter.unusedVariables false
open Go.RowKit

theorem readP_len (ps : List Pt) (vs : List Int) : (readF ps vs).length ≤ 1000000 := by
  unfold readF
  cases hc : canEv ps vs
  · simp
  · obtain ⟨hv, _⟩ := canEv_parts ps vs hc
    obtain ⟨hg, h1, h12⟩ := validF_good ps hv
    exact Nat.le_trans (firsts_len _) (by have := rds_whole ps vs h12; omega)
theorem mayP_len (ps : List Pt) : (mayF ps).length ≤ 10 := by
  unfold mayF
  split
  · exact mayR_len _ 10
  · exact Nat.zero_le _

set_option maxRecDepth 100000 in
set_option maxHeartbeats 6400000 in
theorem plaw_ReadsOf (A : Option Addr) (n c : Nat) (bs : List Int) (w : World) (hn : n = bs.length) (hnc : n ≤ c) (h : BS w w.heap.size A bs) (hy : BY bs) (hm : n ≤ 9223372036854775807) :
    Calls Try.prog 3 #[.slice A n c] w fun e w' => e = .returned (.bool true) ∧ Below w.heap.size w w' := by
  by_cases hs : 1048576 < n
  · clear hn hnc h hy
    go_enter Try.func3, Try.ntmps3
    go_wp2
    go_ret
    exact ⟨rfl, Below.refl _ _⟩
  have HC := Lib.hid (spec_DrawReadsOf A n c bs w hn hnc h hy (by omega))
  clear hn hnc h hy
  go_enter Try.func3, Try.ntmps3
  go_wp2_with fail
  refine HC.out.mono ?_
  rintro e w1 ⟨A1, n1, c1, ps, E1, m1, d1, xs, rfl, hp1, hp2, hp3, hm1, hx3, hx10, hP, hI, _, _, hb⟩
  have HN1 := Lib.hid hp1
  have P_1 := Lib.hid (hP)
  have HM1 := Lib.hid hm1
  have I_1 := Lib.hid (hI)
  have B_1 := Lib.hid (hb)
  clear hP hp1 hb HC hI hm1
  go_wp2_with fail
  obtain ⟨w2, hw2⟩ : ∃ W, W = w1.alloc (.cells #[.slice A1 n1 c1] 25) := ⟨_, rfl⟩
  have hb : Below w1.heap.size w1 w2 := by rw [hw2]; exact (Below.refl _ _).alloc (Nat.le_refl _) _
  have P_2 := Lib.hid (P_1.out.step hb)
  clear P_1
  have I_2 := Lib.hid (I_1.out.step hb)
  clear I_1
  have B_2 := Lib.hid (B_1.out.trans (hb.mono B_1.out.size))
  clear B_1
  have F_2 : Hid (As w1.heap.size (w1.heap.size + 1) (fun w' => w'.cell? ⟨w1.heap.size, 0, none⟩ = some (.slice A1 n1 c1)) w2) := by rw [hw2]; exact box_new _ _ _
  clear hb
  rw [← hw2]
  clear hw2
  have HIM := Lib.hid fun (w' : World) (h : PS w' w'.heap.size A1 ps) (h' : IS w' w'.heap.size E1 xs) => impl_ReadsOf A1 E1 n1 c1 m1 d1 ps xs _ HN1.out HM1.out (by omega) (by omega) w' (Nat.le_refl _) h h'
  have HSP := Lib.hid fun (w' : World) (h : PS w' w'.heap.size A1 ps) (h' : IS w' w'.heap.size E1 xs) => spec_ReadsOf A1 E1 n1 c1 m1 d1 ps xs _ HN1.out HM1.out (by omega) (by omega) w' (Nat.le_refl _) h h'
  have HMA := Lib.hid fun (w' : World) (h : PS w' w'.heap.size A1 ps) => impl_MayRead A1 n1 c1 ps w' _ (Nat.le_refl _) HN1.out h (by omega)
  have hrl := readP_len ps xs
  have hml := mayP_len ps
  have HF := Lib.hid (readF_may ps xs)
  generalize readF ps xs = R at *
  generalize mayF ps = M at *
  have q0 := F_2.out.it
  go_wp2_with fail
  refine (HIM.out w2 P_2.out I_2.out).mono ?_
  rintro e w3 ⟨v, rfl, ho, hb⟩
  obtain ⟨A3, c3, rfl, hI9⟩ := OwnI.form ho
  have P_3 := Lib.hid (P_2.out.step hb)
  clear P_2
  have I_3 := Lib.hid (I_2.out.step hb)
  clear I_2
  have B_3 := Lib.hid (B_2.out.trans (hb.mono B_2.out.size))
  clear B_2
  have F_3 := Lib.hid (F_2.out.step hb)
  clear F_2
  clear hb
  clear q0
  obtain ⟨rl, hrl2⟩ : ∃ l, l = R.length := ⟨_, rfl⟩
  have HRL := Lib.hid hrl2
  have R_3 := Lib.hid (hI9)
  clear ho hI9
  rw [← hrl2] at hrl
  rw [← hrl2]
  clear hrl2
  have q0 := F_3.out.it
  go_wp2_with fail
  refine (HSP.out w3 P_3.out I_3.out).mono ?_
  rintro e w4 ⟨v, rfl, ho, hb⟩
  obtain ⟨A4, c4, rfl, hI9⟩ := OwnI.form ho
  have P_4 := Lib.hid (P_3.out.step hb)
  clear P_3
  have I_4 := Lib.hid (I_3.out.step hb)
  clear I_3
  have B_4 := Lib.hid (B_3.out.trans (hb.mono B_3.out.size))
  clear B_3
  have F_4 := Lib.hid (F_3.out.step hb)
  clear F_3
  have R_4 := Lib.hid (R_3.out.step hb)
  clear R_3
  clear hb
  clear q0
  rw [← HRL.out]
  have HEQ := Lib.hid (laws_equalInts A3 A4 rl rl c3 c4 R R w4 w4.heap.size (Nat.le_refl _) HRL.out HRL.out R_4.out hI9 (by omega) (by omega))
  rw [show decide (R = R) = true from decide_eq_true rfl] at HEQ
  clear ho hI9
  have q0 := F_4.out.it
  go_wp2_with fail
  refine (HEQ.out).mono ?_
  rintro e w5 ⟨rfl, hb⟩
  have P_5 := Lib.hid (P_4.out.step hb)
  clear P_4
  have I_5 := Lib.hid (I_4.out.step hb)
  clear I_4
  have B_5 := Lib.hid (B_4.out.trans (hb.mono B_4.out.size))
  clear B_4
  have F_5 := Lib.hid (F_4.out.step hb)
  clear F_4
  have R_5 := Lib.hid (R_4.out.step hb)
  clear R_4
  clear hb
  clear q0
  clear HEQ
  by_cases h0 : rl = 0
  · have hz : ((rl : Int) == 0) = true := by simp [h0]
    clear h0
    have q0 := F_5.out.it
    go_wp2_with fail
    refine (HSP.out w5 P_5.out I_5.out).mono ?_
    rintro e w6 ⟨v, rfl, ho, hb⟩
    obtain ⟨A4, c4, rfl, hI9⟩ := OwnI.form ho
    have P_6 := Lib.hid (P_5.out.step hb)
    clear P_5
    have I_6 := Lib.hid (I_5.out.step hb)
    clear I_5
    have B_6 := Lib.hid (B_5.out.trans (hb.mono B_5.out.size))
    clear B_5
    have F_6 := Lib.hid (F_5.out.step hb)
    clear F_5
    have R_6 := Lib.hid (R_5.out.step hb)
    clear R_5
    clear hb
    clear q0
    rw [← HRL.out]
    have HEQ := Lib.hid (laws_equalInts A3 A4 rl rl c3 c4 R R w6 w6.heap.size (Nat.le_refl _) HRL.out HRL.out R_6.out hI9 (by omega) (by omega))
    rw [show decide (R = R) = true from decide_eq_true rfl] at HEQ
    clear ho hI9
    have q0 := F_6.out.it
    go_wp2_with fail
    refine (HEQ.out).mono ?_
    rintro e w7 ⟨rfl, hb⟩
    have P_7 := Lib.hid (P_6.out.step hb)
    clear P_6
    have I_7 := Lib.hid (I_6.out.step hb)
    clear I_6
    have B_7 := Lib.hid (B_6.out.trans (hb.mono B_6.out.size))
    clear B_6
    have F_7 := Lib.hid (F_6.out.step hb)
    clear F_6
    have R_7 := Lib.hid (R_6.out.step hb)
    clear R_6
    clear hb
    clear q0
    clear HEQ
    go_wp2
    go_ret
    exact ⟨rfl, B_7.out⟩
  · have hz : ((rl : Int) == 0) = false := by simp; omega
    clear h0
    have q0 := F_5.out.it
    go_wp2_with fail
    refine (laws_noTwice A3 rl c3 R w5 w5.heap.size (Nat.le_refl _) HRL.out R_5.out (by omega) HF.out.1).mono ?_
    rintro e w9 ⟨rfl, rfl⟩
    clear q0
    have q0 := F_5.out.it
    go_wp2_with fail
    refine (HMA.out w5 P_5.out).mono ?_
    rintro e w6 ⟨v, rfl, ho, hb⟩
    obtain ⟨A5, c5, rfl, hI9⟩ := OwnI.form ho
    have P_6 := Lib.hid (P_5.out.step hb)
    clear P_5
    have I_6 := Lib.hid (I_5.out.step hb)
    clear I_5
    have B_6 := Lib.hid (B_5.out.trans (hb.mono B_5.out.size))
    clear B_5
    have F_6 := Lib.hid (F_5.out.step hb)
    clear F_5
    have R_6 := Lib.hid (R_5.out.step hb)
    clear R_5
    clear hb
    clear q0
    obtain ⟨ml, hml2⟩ : ∃ l, l = M.length := ⟨_, rfl⟩
    have HML := Lib.hid hml2
    rw [← hml2] at hml
    rw [← hml2]
    clear hml2
    have M_6 := Lib.hid (hI9)
    clear ho hI9
    have q0 := F_6.out.it
    go_wp2_with fail
    refine (laws_within A3 A5 rl c3 ml c5 R M w6 w6.heap.size (Nat.le_refl _) HRL.out R_6.out (by omega) HML.out M_6.out (by omega) HF.out.2).mono ?_
    rintro e w9 ⟨rfl, rfl⟩
    clear q0
    go_wp2
    go_ret
    exact ⟨rfl, B_6.out⟩
end Go.Proofs.Ytnbohohoceghnaa

/- laws.FnValueOf returns true for all bytes, and writes nothing that was there. (Made by genpl.py.) -/
namespace Go.Proofs.Ytnbohohoceghnaa
set_option linter.unusedSimpArgs false
set_option linter.unusedVariables false
open Go.RowKit

theorem pnews_of_ints {w : World} {b off n : Nat} {xs : List Int} (hc : ∀ j, j < xs.length → w.cell? ⟨b, off + j, none⟩ = some (.int .i64 (xs.getD j 0))) : ∀ j u, (xs.map (Value.int .i64))[j]? = some u → w.cell? ((⟨b, off, none⟩ : Addr).add j) = some u := by
  intro j u hu
  have hj : j < xs.length := by
    rcases Nat.lt_or_ge j xs.length with h1 | h1
    · exact h1
    · rw [List.getElem?_eq_none (by simpa using h1)] at hu; cases hu
  have hadd : (⟨b, off, none⟩ : Addr).add j = ⟨b, off + j, none⟩ := by unfold Addr.add; split <;> simp_all
  rw [hadd, hc j hj, ← hu]
  simp [List.getD, hj]
theorem pints_one (xs : List Int) : ∀ u ∈ xs.map (Value.int .i64), u.oneCell' = true := by
  intro u hu
  obtain ⟨x, _, rfl⟩ := List.mem_map.1 hu
  rfl

set_option maxRecDepth 100000 in
set_option maxHeartbeats 6400000 in
theorem plaw_ValueOf (A : Option Addr) (n c : Nat) (bs : List Int) (w : World) (hn : n = bs.length) (hnc : n ≤ c) (h : BS w w.heap.size A bs) (hy : BY bs) (hm : n ≤ 9223372036854775807) :
    Calls Try.prog 5 #[.slice A n c] w fun e w' => e = .returned (.bool true) ∧ Below w.heap.size w w' := by
  by_cases hs : 1048576 < n
  · clear hn hnc h hy
    go_enter Try.func5, Try.ntmps5
    go_wp2
    go_ret
    exact ⟨rfl, Below.refl _ _⟩
  have HC := Lib.hid (spec_DrawValueOf A n c bs w _ (Nat.le_refl _) hn hnc h hy (by omega))
  clear hn hnc h hy
  go_enter Try.func5, Try.ntmps5
  go_wp2_with fail
  refine HC.out.mono ?_
  rintro e w1 ⟨A1, n1, c1, ps, E1, m1, d1, xs, rfl, hp1, hp2, hp3, hm1, hx3, hx10, hP, hI, _, _, hb⟩
  have HN1 := Lib.hid hp1
  have P_1 := Lib.hid (hP)
  have HM1 := Lib.hid hm1
  have I_1 := Lib.hid (hI)
  have B_1 := Lib.hid (hb)
  clear hP hp1 hb HC hI hm1
  go_wp2_with fail
  obtain ⟨w2, hw2⟩ : ∃ W, W = w1.alloc (.cells #[.slice A1 n1 c1] 25) := ⟨_, rfl⟩
  have hb : Below w1.heap.size w1 w2 := by rw [hw2]; exact (Below.refl _ _).alloc (Nat.le_refl _) _
  have P_2 := Lib.hid (P_1.out.step hb)
  clear P_1
  have I_2 := Lib.hid (I_1.out.step hb)
  clear I_1
  have B_2 := Lib.hid (B_1.out.trans (hb.mono B_1.out.size))
  clear B_1
  have F_2 : Hid (As w1.heap.size (w1.heap.size + 1) (fun w' => w'.cell? ⟨w1.heap.size, 0, none⟩ = some (.slice A1 n1 c1)) w2) := by rw [hw2]; exact box_new _ _ _
  clear hb
  rw [← hw2]
  clear hw2
  obtain ⟨i0, hi, hz0, hz1, hz2⟩ := info_parts info_int
  have HIM := Lib.hid fun (w' : World) (h : PS w' w'.heap.size A1 ps) (h' : IS w' w'.heap.size E1 xs) => impl_ValueOf A1 E1 n1 c1 m1 d1 ps xs _ HN1.out HM1.out (by omega) (by omega) w' (Nat.le_refl _) h h'
  have HSP := Lib.hid fun (w' : World) (h : PS w' w'.heap.size A1 ps) (h' : IS w' w'.heap.size E1 xs) => spec_ValueOf A1 E1 n1 c1 m1 d1 ps xs _ HN1.out HM1.out (by omega) (by omega) w' (Nat.le_refl _) h h'
  have HRO := Lib.hid fun (w' : World) (h : PS w' w'.heap.size A1 ps) (h' : IS w' w'.heap.size E1 xs) => impl_ReadsOf A1 E1 n1 c1 m1 d1 ps xs _ HN1.out HM1.out (by omega) (by omega) w' (Nat.le_refl _) h h'
  have HIY := Lib.hid fun (E : Option Addr) (d : Nat) (ys : List Int) (hl : m1 = ys.length) (w' : World) (h : PS w' w'.heap.size A1 ps) (h' : IS w' w'.heap.size E ys) => impl_ValueOf A1 E n1 c1 m1 d ps ys _ HN1.out hl (by omega) (by omega) w' (Nat.le_refl _) h h'
  have HRY := Lib.hid fun (E : Option Addr) (d : Nat) (ys : List Int) (hl : m1 = ys.length) (w' : World) (h : PS w' w'.heap.size A1 ps) (h' : IS w' w'.heap.size E ys) => impl_ReadsOf A1 E n1 c1 m1 d ps ys _ HN1.out hl (by omega) (by omega) w' (Nat.le_refl _) h h'
  have hrl := readP_len ps xs
  have HUN := Lib.hid fun (k : Nat) (y : Int) (h : canEv ps xs = true) (h0 : 0 ≤ y) (h9 : y ≤ 999) (hk : (k : Int) ∉ readF ps xs) => unread ps xs k y h h0 h9 hk
  have HVB := Lib.hid fun (h : canEv ps xs = true) => valF_bd ps xs h
  have HVK := Lib.hid fun (h : canEv ps xs = true) => (canEv_parts ps xs h).2.1
  obtain ⟨cv, hcv⟩ : ∃ cv, cv = canEv ps xs := ⟨_, rfl⟩
  rw [← hcv] at HIM HSP HUN HVB HVK
  clear hcv
  obtain ⟨vl, hvl⟩ : ∃ vl, vl = valF ps xs := ⟨_, rfl⟩
  rw [← hvl] at HIM HSP HUN HVB
  clear hvl
  obtain ⟨R, hR⟩ : ∃ R, R = readF ps xs := ⟨_, rfl⟩
  rw [← hR] at HRO hrl HUN
  clear hR
  have q0 := F_2.out.it
  go_wp2_with fail
  refine (HIM.out w2 P_2.out I_2.out).mono ?_
  rintro e w3 ⟨rfl, hb⟩
  have P_3 := Lib.hid (P_2.out.step hb)
  clear P_2
  have I_3 := Lib.hid (I_2.out.step hb)
  clear I_2
  have B_3 := Lib.hid (B_2.out.trans (hb.mono B_2.out.size))
  clear B_2
  have F_3 := Lib.hid (F_2.out.step hb)
  clear F_2
  clear hb
  clear q0
  have q0 := F_3.out.it
  go_wp2_with fail
  refine (HSP.out w3 P_3.out I_3.out).mono ?_
  rintro e w4 ⟨rfl, hb⟩
  have P_4 := Lib.hid (P_3.out.step hb)
  clear P_3
  have I_4 := Lib.hid (I_3.out.step hb)
  clear I_3
  have B_4 := Lib.hid (B_3.out.trans (hb.mono B_3.out.size))
  clear B_3
  have F_4 := Lib.hid (F_3.out.step hb)
  clear F_3
  clear hb
  clear q0
  have hv0 : (vl != vl) = false := by simp
  have hv1 : (vl == vl) = true := by simp
  cases cv
  · skip
    go_wp2
    go_ret
    exact ⟨rfl, B_4.out⟩
  · obtain ⟨hvb1, hvb2⟩ := HVB.out (by first | rfl | trivial)
    have HVO := Lib.hid (HVK.out (by first | rfl | trivial))
    have HUN2 := Lib.hid fun (k : Nat) (y : Int) (h0 : 0 ≤ y) (h9 : y ≤ 999) (hk : (k : Int) ∉ R) => HUN.out k y (by first | rfl | trivial) h0 h9 hk
    clear HUN HVB HVK HIM HSP
    have q0 := F_4.out.it
    go_wp2_with fail
    refine (HRO.out w4 P_4.out I_4.out).mono ?_
    rintro e w5 ⟨v, rfl, ho, hb⟩
    obtain ⟨A3, c3, rfl, hI9⟩ := OwnI.form ho
    have P_5 := Lib.hid (P_4.out.step hb)
    clear P_4
    have I_5 := Lib.hid (I_4.out.step hb)
    clear I_4
    have B_5 := Lib.hid (B_4.out.trans (hb.mono B_4.out.size))
    clear B_4
    have F_5 := Lib.hid (F_4.out.step hb)
    clear F_4
    clear hb
    clear q0
    obtain ⟨rl, hrl2⟩ : ∃ l, l = R.length := ⟨_, rfl⟩
    have HRL := Lib.hid hrl2
    have R_5 := Lib.hid (hI9)
    clear ho hI9
    rw [← hrl2] at hrl
    rw [← hrl2]
    clear hrl2
    go_wp2
    go_loopw [10] (fun u wr => ∃ k : Nat, k ≤ m1 ∧ u = .int .i64 k ∧ Hid (Below w5.heap.size w5 wr) ∧ w5.heap.size ≤ wr.heap.size) (fun u _ => m1 - (intOf u).toNat)
    case atStart => exact ⟨0, Nat.zero_le _, rfl, Below.refl _ _, Nat.le_refl _⟩
    case round =>
      obtain ⟨k, hk, rfl, HB, hwr⟩ := hrel
      obtain ⟨w6, hwK⟩ : ∃ W, W = wr := ⟨_, rfl⟩
      rw [← hwK]
      rw [← hwK] at HB hwr
      clear hwK
      have P_6 := Lib.hid (P_5.out.step HB.out)
      have I_6 := Lib.hid (I_5.out.step HB.out)
      have B_6 := Lib.hid (B_5.out.trans (HB.out.mono B_5.out.size))
      have F_6 := Lib.hid (F_5.out.step HB.out)
      have R_6 := Lib.hid (R_5.out.step HB.out)
      by_cases hlt : k < m1
      · skip
        have hkx : k < xs.length := by have := HM1.out; omega
        have HIN := Lib.hid (laws_isIn A3 rl c3 R k w6 w6.heap.size (Nat.le_refl _) HRL.out R_6.out (by omega))
        cases hin : decide ((k : Int) ∈ R)
        case true =>
          rw [hin] at HIN
          clear hin
          go_wp2_with fail
          refine HIN.out.mono ?_
          rintro e w9 ⟨rfl, rfl⟩
          go_wp2
          go_roundw
          case rel => exact ⟨k + 1, by omega, by go_num, HB.out, hwr⟩
          case measure => simp [intOf]; omega
        case false =>
          rw [hin] at HIN
          have hnin : ¬ (k : Int) ∈ R := of_decide_eq_false hin
          obtain ⟨b, off, hE, hbB, hc⟩ := I_6.out (by omega)
          have hxk := HVO.out k hkx
          have hy0 : 0 ≤ (xs.getD k 0 + 17) % 1000 := Int.emod_nonneg _ (by decide)
          have hy1 : (xs.getD k 0 + 17) % 1000 ≤ 999 := by have := Int.emod_lt_of_pos (xs.getD k 0 + 17) (show (0 : Int) < 1000 by decide); omega
          obtain ⟨hu1, hu2, hu3⟩ := HUN2.out k ((xs.getD k 0 + 17) % 1000) hy0 hy1 hnin
          have c0 := hc k hkx
          have hnew := World.ownsRow_lit (e := 3) (size := 1) (base := w6.heap.size) w6 #[] 0 (Nat.le_refl _) (by unfold maxLen; omega) (by simp)
          have hnews := pnews_of_ints (n := m1) (xs := xs) (fun j hj => (World.cell?_alloc_lt w6 (.cells #[] 3) ⟨b, off + j, none⟩ (show b < w6.heap.size by omega)).trans (hc j (by have := HM1.out; omega)))
          have HNEW := Lib.hid hnew
          have HNS := Lib.hid hnews
          generalize hyy : (xs.getD k 0 + 17) % 1000 = y at *
          have HYL : Hid (m1 = (xs.set k y).length) := by show m1 = _; rw [List.length_set]; exact HM1.out
          have HIV := Lib.hid fun (E : Option Addr) (d : Nat) => HIY.out E d (xs.set k y) HYL.out
          have HRV := Lib.hid fun (E : Option Addr) (d : Nat) => HRY.out E d (xs.set k y) HYL.out
          rw [hu1, hu2] at HIV
          rw [hu3] at HRV
          have HYY := Lib.hid hyy
          generalize xs.getD k 0 = x at *
          clear hnew hnews hc hin hu1 hu2 hu3 hnin hyy
          subst hE
          go_wp2_with fail
          refine HIN.out.mono ?_
          rintro e w9 ⟨rfl, rfl⟩
          go_wp2_with (at_builtin; refine wpList_append_own_at _ rfl _ _ 26 rfl w6.heap.size 3 i0 (.int .i64 0) 1 8 Try.underlying26 hi hz0 hz1 hz2 rfl (by decide) _ _ _ rfl HNEW.out ⟨b, off, none⟩ m1 d1 (xs.map (Value.int .i64)) rfl ?d1 HNS.out (pints_one xs) ?d3 ?d4 ?d5 ?_)
          case d1 => have := HM1.out; first | omega | (simp; omega)
          case d3 => unfold maxLen; omega
          case d4 => omega
          case d5 => simp
          intro v' w3 hown' hgrow _ _
          have hown'' : w3.ownsRow w6.heap.size 3 1 v' m1 (xs.map (Value.int .i64)) := by simpa using hown'
          obtain ⟨g, cap, rfl⟩ : ∃ g cap, v' = .slice (some ⟨g, 0, none⟩) m1 cap := by
            rcases hown''.2 with ⟨_, h0⟩ | ⟨g, cap, cur, hv, _⟩
            · omega
            · exact ⟨g, cap, hv⟩
          have hb3 : Below w6.heap.size w6 w3 := ((Below.refl _ _).alloc (Nat.le_refl _) (.cells #[] 3)).grown hgrow (by simp) (fun k hk => by simp [Value.ownBlock] at hk; omega)
          have u0 := hown''.cellAt k (by omega)
          rw [List.getElem?_eq_getElem (by rw [List.length_map]; omega)] at u0
          have f0 := hown''.frozenAt k
          have hst := (hown''.stored k (.int .i64 y)).1
          rw [← List.map_set] at hst
          have hgg := (hown''.lt g rfl).1
          have hb4 : Below w6.heap.size w6 (w3.setCell ⟨g, k, none⟩ (.int .i64 y)) := hb3.setCell hgg _
          have hb := hb4
          have e9 := (hb3.cell (p := ⟨b, off + k, none⟩) (by show b < w6.heap.size; omega)).trans c0
          generalize (xs.map (Value.int .i64))[k]'_ = vv at u0
          have HST := Lib.hid hst
          clear hown' hown'' hgrow c0 hst hb3 hb4
          obtain ⟨w7, hw4⟩ : ∃ W, W = w3.setCell ⟨g, k, none⟩ (.int .i64 y) := ⟨_, rfl⟩
          rw [← hw4] at hb HST
          have P_7 := Lib.hid (P_6.out.step hb)
          have I_7 := Lib.hid (I_6.out.step hb)
          have B_7 := Lib.hid (B_6.out.trans (hb.mono B_6.out.size))
          have F_7 := Lib.hid (F_6.out.step hb)
          have R_7 := Lib.hid (R_6.out.step hb)
          have HBL := Lib.hid (HB.out.trans (hb.mono hwr))
          have q0 := F_7.out.it
          have hrem : (x + 17).tmod 1000 = y := by rw [Int.tmod_eq_emod_of_nonneg (by omega)]; exact HYY.out
          have hrem2 : (x + 17) % 1000 = y := HYY.out
          have HYI := Lib.hid (show IS w7 w7.heap.size (some ⟨g, 0, none⟩) (xs.set k y) from IS.of_own (n := m1) (c := cap) HST.out)
          have Y_7 := HYI
          clear HYI
          have q1 : (w3.setCell ⟨g, k, none⟩ (.int .i64 y)).cell? ⟨w1.heap.size, 0, none⟩ = some (.slice A1 n1 c1) := by rw [← hw4]; exact q0
          go_wp2_with fail
          rw [← hw4]
          clear hw4 q1 hb hrem hrem2 u0 f0 e9
          refine (HIV.out _ _ w7 P_7.out Y_7.out).mono ?_
          rintro e w8 ⟨rfl, hb⟩
          have HBL2 := Lib.hid (HBL.out.trans (hb.mono HBL.out.size))
          have P_8 := Lib.hid (P_7.out.step hb)
          clear P_7
          have I_8 := Lib.hid (I_7.out.step hb)
          clear I_7
          have B_8 := Lib.hid (B_7.out.trans (hb.mono B_7.out.size))
          clear B_7
          have F_8 := Lib.hid (F_7.out.step hb)
          clear F_7
          have R_8 := Lib.hid (R_7.out.step hb)
          clear R_7
          have Y_8 := Lib.hid (Y_7.out.step hb)
          clear Y_7
          clear hb q0
          have q0 := F_8.out.it
          go_wp2_with fail
          refine (HRV.out _ _ w8 P_8.out Y_8.out).mono ?_
          rintro e w9 ⟨v, rfl, ho, hb⟩
          obtain ⟨A4, c4, rfl, hI9⟩ := OwnI.form ho
          have HBL3 := Lib.hid (HBL2.out.trans (hb.mono HBL2.out.size))
          have P_9 := Lib.hid (P_8.out.step hb)
          clear P_8
          have I_9 := Lib.hid (I_8.out.step hb)
          clear I_8
          have B_9 := Lib.hid (B_8.out.trans (hb.mono B_8.out.size))
          clear B_8
          have F_9 := Lib.hid (F_8.out.step hb)
          clear F_8
          have R_9 := Lib.hid (R_8.out.step hb)
          clear R_8
          have Y_9 := Lib.hid (Y_8.out.step hb)
          clear Y_8
          clear hb
          clear q0
          rw [← HRL.out]
          have HEQ := Lib.hid (laws_equalInts A4 A3 rl rl c4 c3 R R w9 w9.heap.size (Nat.le_refl _) HRL.out HRL.out hI9 R_9.out (by omega) (by omega))
          rw [show decide (R = R) = true from decide_eq_true rfl] at HEQ
          clear ho hI9
          have q0 := F_9.out.it
          go_wp2_with fail
          refine (HEQ.out).mono ?_
          rintro e w10 ⟨rfl, hb⟩
          have HBL4 := Lib.hid (HBL3.out.trans (hb.mono HBL3.out.size))
          have P_10 := Lib.hid (P_9.out.step hb)
          clear P_9
          have I_10 := Lib.hid (I_9.out.step hb)
          clear I_9
          have B_10 := Lib.hid (B_9.out.trans (hb.mono B_9.out.size))
          clear B_9
          have F_10 := Lib.hid (F_9.out.step hb)
          clear F_9
          have R_10 := Lib.hid (R_9.out.step hb)
          clear R_9
          have Y_10 := Lib.hid (Y_9.out.step hb)
          clear Y_9
          clear hb
          clear q0
          go_wp2
          go_roundw
          case rel => exact ⟨k + 1, by omega, by go_num, HBL4.out, HBL4.out.size⟩
          case measure => simp [intOf]; omega
      · skip
        have g0 : 0 ≤ vl := hvb1
        go_wp2
        go_ret
        exact ⟨ret_b (by simp; try omega), B_6.out⟩
end Go.Proofs.Ytnbohohoceghnaa


namespace Go.Proofs.Ytnbohohoceghnaa
set_option linter.unusedSimpArgs false
set_option linter.unusedVariables false
open Go.ChangeShapes Go.WideShapes Go.ChangeAt Go.RowKit

set_option maxRecDepth 100000 in
theorem plifted_ValueOf (os : Os) (started : os.Started) (H : Type) (enc : TypeId × Value → H) :
    ReturnsInHanded {} Try.checked os 5 .any (Rows.fnValueOfSpec.pre6 enc Try.prog Try.f5 Rows.fnValueOfRow.domain false) (Rows.fnValueOfSpec.post enc Try.prog Try.f5 false true false false) := by
  refine returnsInHanded_of_change (C := Try.checked) own started (by kernel_rfl) Try.func5
    (ChangeSpec.witness6 (enc := enc) (C := Try.checked) false ⟨#[], #[.slice none 0 0], []⟩ 8 (by kernel_rfl) (by kernel_rfl) (by kernel_rfl) (by kernel_rfl)) ?_
  intro W base args ds gs before hval0 hW hcnd _
  have hval : ∀ (j : Nat) t v, Try.f5.params[j]? = some t → args[j]? = some v → Value.okWide Try.prog W .any base t v := hval0
  have hW' := hW
  obtain ⟨p, q, hA0, hV, rfl, hfz, hnd⟩ := hW
  have hA : DataW.TrodAll enc Try.prog W 0 (fun _ => true) true Try.f5.params.toList args.toList ds p := hA0
  rw [Try.params5] at hA hval
  obtain ⟨v0, vs0, d0, ds0, p0, q0, hargs, rfl, rfl, h0, r0⟩ := trodAll_cons hA
  obtain ⟨rfl, rfl, rfl⟩ := trodAll_nil r0
  obtain rfl : args = #[v0] := by cases args; simp_all
  obtain ⟨rfl, rfl⟩ := trodVars_none hV
  have k0 := h0
  have lt0 : ∀ x ∈ p0, x.block < W.heap.size := by obtain ⟨m, hm⟩ := k0; exact DataW.trod_lt m _ _ _ hm
  obtain ⟨A, n, c, bs, rfl, hn, hnc, hm, hy, hbs⟩ := open_code (hval 0 22 v0 rfl rfl) h0
  clear hA0 hval0
  refine (plaw_ValueOf A n c bs W hn hnc hbs hy hm).mono fun e W' ⟨he, bel⟩ => ?_
  subst he
  exact ⟨_, rfl, _, _, _, [], _, [], hW', trodAll_mk1 (shut_bool Try.underlying4 _), (trodAll_cons_mk (Below.trod laidOut (by kernel_rfl) (of_decide_eq_true (by kernel_rfl)) k0 bel lt0) trodAll_mk0), rfl, bel.frame _, fun h => by cases h⟩

theorem pproved_ValueOf : Rows.FnValueOfSaid :=
  OpenClaim.holds_of_wide 5 Try.f5 rfl rfl rfl rfl rfl rfl rfl ⟨rfl, rfl, rfl, rfl, rfl⟩ rfl rfl rfl rfl rfl (by kernel_rfl) Try.func5 (by kernel_rfl)
    (of_decide_eq_true (by kernel_rfl)) (by unfold Func.isWrapper; first | (rw [if_pos (by decide +kernel)]; kernel_rfl) | (rw [if_neg (by decide +kernel)]; exact ⟨rfl, rfl⟩))
    (fun os started H enc _ => plifted_ValueOf os started H enc)
#print axioms pproved_ValueOf
end Go.Proofs.Ytnbohohoceghnaa
