/- laws.FnMeaningOfFar returns true for all bytes, and writes nothing that was there. (Made by genpl.py.) -/
import Derived.Test.YtdhjflhpenkchaaR18
import Derived.Test.YtdhjflhpenkchaaR19
import Derived.Test.YtdhjflhpenkchaaH17
import Derived.Test.YtdhjflhpenkchaaM26
import Derived.Deep.RegionHeld3
import Derived.Test.YtdhjflhpenkchaaM31
import Derived.Test.YtdhjflhpenkchaaR8

namespace Go.Proofs.Ytdhjflhpenkchaa
set_option linter.unusedSimpArgs false
set_option linter.unusedVariables false
open Go.RowKit

set_option maxRecDepth 100000 in
set_option maxHeartbeats 6400000 in
theorem plaw_MeaningOfFar (A : Option Addr) (n c : Nat) (bs : List Int) (w : World) (hn : n = bs.length) (hnc : n ≤ c) (h : BS w w.heap.size A bs) (hy : BY bs) (hm : n ≤ 9223372036854775807) :
    Calls Try.prog 10 #[.slice A n c] w fun e w' => e = .returned (.bool true) ∧ Below w.heap.size w w' := by
  by_cases hs : 1048576 < n
  · clear hn hnc h hy
    go_enter Try.func10, Try.ntmps10
    go_wp2
    go_ret
    exact ⟨rfl, Below.refl _ _⟩
  have HC := Lib.hid (spec_DrawMeaningOf A n c bs w hn hnc h hy (by omega))
  clear hn hnc h hy
  go_enter Try.func10, Try.ntmps10
  go_wp2_with fail
  refine HC.out.mono ?_
  rintro e w1 ⟨A1, n1, c1, gs, E1, m1, d1, xs, rfl, hp1, hp2, hp3, hnc1, hsm, hm1, hx1, hx2, hmd, hP, hI, hb⟩
  have HN1 := Lib.hid hp1
  have HG := Lib.hid (GB.of_drawn (by omega) hsm)
  have P_1 := Lib.hid (hP)
  have HM1 := Lib.hid hm1
  have I_1 := Lib.hid (hI)
  have B_1 := Lib.hid (hb)
  clear hP hp1 hb HC hsm hI hm1
  go_wp2_with fail
  obtain ⟨w2, hw2⟩ : ∃ W, W = w1.alloc (.cells #[.slice A1 n1 c1] 25) := ⟨_, rfl⟩
  have hb : Below w1.heap.size w1 w2 := by rw [hw2]; exact (Below.refl _ _).alloc (Nat.le_refl _) _
  have P_2 := Lib.hid (P_1.out.step hb)
  clear P_1
  have I_2 := Lib.hid (I_1.out.step hb)
  clear I_1
  have B_2 := Lib.hid (B_1.out.trans (hb.mono B_1.out.size))
  clear B_1
  have F_2 : Hid (As w1.heap.size (w1.heap.size + 1) (fun w' => w'.cell? ⟨w1.heap.size, 0, none⟩ = some (.slice A1 n1 c1)) w2) := by rw [hw2]; exact box_new _ _ _
  clear hb
  rw [← hw2]
  clear hw2
  have HIM := Lib.hid fun (w' : World) (h : GS w' w'.heap.size A1 gs) (h' : IS w' w'.heap.size E1 xs) => top_impl_MeaningOf gs xs HG.out (by have := HM1.out; omega) A1 n1 c1 E1 m1 d1 w' HN1.out hnc1 h HM1.out h'
  have HSP := Lib.hid fun (w' : World) (h : GS w' w'.heap.size A1 gs) (h' : IS w' w'.heap.size E1 xs) => top_spec_MeaningOf gs xs HG.out (by have := HM1.out; omega) A1 n1 c1 E1 m1 d1 w' HN1.out hnc1 h HM1.out h'
  have HVC := Lib.hid fun (w' : World) (h : GS w' w'.heap.size A1 gs) (h' : IS w' w'.heap.size E1 xs) => top_impl_ValidCells gs xs HG.out (by have := HM1.out; omega) A1 n1 c1 E1 m1 d1 w' HN1.out hnc1 h HM1.out h'
  have hml := meanF_len gs xs
  obtain ⟨R, hR⟩ : ∃ R, R = meanF gs xs := ⟨_, rfl⟩
  have HR := Lib.hid hR
  rw [← hR] at HIM HSP hml
  clear hR
  have q0 := F_2.out.it
  go_wp2_with fail
  refine (HIM.out w2 P_2.out I_2.out).mono ?_
  rintro e w3 ⟨v, rfl, ho, hb⟩
  have P_3 := Lib.hid (P_2.out.step hb)
  clear P_2
  have I_3 := Lib.hid (I_2.out.step hb)
  clear I_2
  have B_3 := Lib.hid (B_2.out.trans (hb.mono B_2.out.size))
  clear B_2
  have F_3 := Lib.hid (F_2.out.step hb)
  clear F_2
  clear hb
  clear q0
  obtain ⟨A3, c3, rfl, hI9⟩ := OwnI.form ho
  obtain ⟨rl, hl2⟩ : ∃ l, l = R.length := ⟨_, rfl⟩
  have HRL := Lib.hid hl2
  rw [← hl2]
  have R_3 := Lib.hid (hI9)
  clear ho hI9 hl2
  rw [← HRL.out] at hml
  clear HIM
  have q0 := F_3.out.it
  go_wp2_with fail
  refine (HSP.out w3 P_3.out I_3.out).mono ?_
  rintro e w4 ⟨v, rfl, ho, hb⟩
  obtain ⟨A4, c4, rfl, hI9⟩ := OwnI.form ho
  have P_4 := Lib.hid (P_3.out.step hb)
  clear P_3
  have I_4 := Lib.hid (I_3.out.step hb)
  clear I_3
  have B_4 := Lib.hid (B_3.out.trans (hb.mono B_3.out.size))
  clear B_3
  have F_4 := Lib.hid (F_3.out.step hb)
  clear F_3
  have R_4 := Lib.hid (R_3.out.step hb)
  clear R_3
  clear hb
  clear q0
  rw [← HRL.out]
  have HEQ := Lib.hid (laws_equalInts A3 A4 rl rl c3 c4 R R w4 w4.heap.size (Nat.le_refl _) HRL.out HRL.out R_4.out hI9 (by omega) (by omega))
  rw [show decide (R = R) = true from decide_eq_true rfl] at HEQ
  clear ho hI9
  have q0 := F_4.out.it
  go_wp2_with fail
  refine (HEQ.out).mono ?_
  rintro e w5 ⟨rfl, hb⟩
  have P_5 := Lib.hid (P_4.out.step hb)
  clear P_4
  have I_5 := Lib.hid (I_4.out.step hb)
  clear I_4
  have B_5 := Lib.hid (B_4.out.trans (hb.mono B_4.out.size))
  clear B_4
  have F_5 := Lib.hid (F_4.out.step hb)
  clear F_4
  have R_5 := Lib.hid (R_4.out.step hb)
  clear R_4
  clear hb
  clear q0
  clear HEQ
  obtain ⟨v, hv⟩ : ∃ v, v = okC gs xs := ⟨_, rfl⟩
  rw [← hv] at HVC
  have q0 := F_5.out.it
  go_wp2_with fail
  refine (HVC.out w5 P_5.out I_5.out).mono ?_
  rintro e w6 ⟨rfl, hb⟩
  have P_6 := Lib.hid (P_5.out.step hb)
  clear P_5
  have I_6 := Lib.hid (I_5.out.step hb)
  clear I_5
  have B_6 := Lib.hid (B_5.out.trans (hb.mono B_5.out.size))
  clear B_5
  have F_6 := Lib.hid (F_5.out.step hb)
  clear F_5
  have R_6 := Lib.hid (R_5.out.step hb)
  clear R_5
  clear hb
  clear q0
  clear HVC
  cases v
  · skip
    clear hv
    have q0 := F_6.out.it
    go_wp2_with fail
    refine (HSP.out w6 P_6.out I_6.out).mono ?_
    rintro e w7 ⟨v, rfl, ho, hb⟩
    obtain ⟨A4, c4, rfl, hI9⟩ := OwnI.form ho
    have P_7 := Lib.hid (P_6.out.step hb)
    clear P_6
    have I_7 := Lib.hid (I_6.out.step hb)
    clear I_6
    have B_7 := Lib.hid (B_6.out.trans (hb.mono B_6.out.size))
    clear B_6
    have F_7 := Lib.hid (F_6.out.step hb)
    clear F_6
    have R_7 := Lib.hid (R_6.out.step hb)
    clear R_6
    clear hb
    clear q0
    rw [← HRL.out]
    have HEQ := Lib.hid (laws_equalInts A3 A4 rl rl c3 c4 R R w7 w7.heap.size (Nat.le_refl _) HRL.out HRL.out R_7.out hI9 (by omega) (by omega))
    rw [show decide (R = R) = true from decide_eq_true rfl] at HEQ
    clear ho hI9
    have q0 := F_7.out.it
    go_wp2_with fail
    refine (HEQ.out).mono ?_
    rintro e w8 ⟨rfl, hb⟩
    have P_8 := Lib.hid (P_7.out.step hb)
    clear P_7
    have I_8 := Lib.hid (I_7.out.step hb)
    clear I_7
    have B_8 := Lib.hid (B_7.out.trans (hb.mono B_7.out.size))
    clear B_7
    have F_8 := Lib.hid (F_7.out.step hb)
    clear F_7
    have R_8 := Lib.hid (R_7.out.step hb)
    clear R_7
    clear hb
    clear q0
    clear HEQ
    go_wp2
    go_ret
    exact ⟨rfl, B_8.out⟩
  · have HV := Lib.hid hv.symm
    clear hv HSP
    have hlx := (validC_parts gs xs (okC_parts gs xs HV.out).2).1
    obtain rfl : n1 = m1 := by have := HM1.out; have := HN1.out; omega
    obtain rfl : n1 = rl := by rw [HRL.out, HR.out]; unfold meanF mean; rw [HV.out, if_pos rfl, meanTo_len]; exact HN1.out
    clear hlx
    have q0 := F_6.out.it
    go_wp2
    go_loopw [6] (fun u wr => ∃ k : Nat, k ≤ n1 ∧ u = .int .i64 k ∧ Hid (Below w6.heap.size w6 wr) ∧ w6.heap.size ≤ wr.heap.size) (fun u _ => n1 - (intOf u).toNat)
    case atStart => exact ⟨0, Nat.zero_le _, rfl, Below.refl _ _, Nat.le_refl _⟩
    case round =>
      obtain ⟨k, hk, rfl, HB, hwr⟩ := hrel
      obtain ⟨w7, hwK⟩ : ∃ W, W = wr := ⟨_, rfl⟩
      rw [← hwK]
      rw [← hwK] at HB hwr
      clear hwK
      have P_7 := Lib.hid (P_6.out.step HB.out)
      have I_7 := Lib.hid (I_6.out.step HB.out)
      have B_7 := Lib.hid (B_6.out.trans (HB.out.mono B_6.out.size))
      have F_7 := Lib.hid (F_6.out.step HB.out)
      have R_7 := Lib.hid (R_6.out.step HB.out)
      have BK_7 := HB
      clear HB
      clear q0
      have q1 := F_7.out.it
      by_cases hlt : k < n1
      · skip
        have hkg : k < gs.length := by have := HN1.out; omega
        have HND := Lib.hid fun (w' : World) (h : GS w' w'.heap.size A1 gs) => top_impl_NeedOf gs (k : Int) HG.out A1 n1 c1 w' HN1.out hnc1 h
        have hnl := needF_len gs (k : Int)
        have hfm := far_mean gs xs HV.out k hkg n1
        rw [← HR.out] at hfm
        obtain ⟨N, hN⟩ : ∃ N, N = needF gs (k : Int) := ⟨_, rfl⟩
        rw [← hN] at HND hnl hfm
        clear hN
        have HMO := Lib.hid fun (E : Option Addr) (d : Nat) (w' : World) (h : GS w' w'.heap.size A1 gs) (h' : IS w' w'.heap.size E (farTo gs N xs n1)) => top_impl_MeaningOf gs (farTo gs N xs n1) HG.out (by rw [farTo_len]; have := HM1.out; omega) A1 n1 c1 E n1 d w' HN1.out hnc1 h (by rw [farTo_len]; exact HM1.out) h'
        have hm2 := meanF_len gs (farTo gs N xs n1)
        have hml2 : (meanF gs (farTo gs N xs n1)).length = n1 := by unfold meanF mean; rw [far_ok gs N xs HV.out, if_pos rfl, meanTo_len]; exact HN1.out.symm
        generalize meanF gs (farTo gs N xs n1) = M2 at *
        have HFM := Lib.hid hfm
        have HM2 := Lib.hid hml2.symm
        clear hfm hml2 hm2
        go_wp2_with fail
        refine (HND.out w7 P_7.out).mono ?_
        rintro e w8 ⟨v7, rfl, ho, hb⟩
        have P_8 := Lib.hid (P_7.out.step hb)
        clear P_7
        have I_8 := Lib.hid (I_7.out.step hb)
        clear I_7
        have B_8 := Lib.hid (B_7.out.trans (hb.mono B_7.out.size))
        clear B_7
        have F_8 := Lib.hid (F_7.out.step hb)
        clear F_7
        have R_8 := Lib.hid (R_7.out.step hb)
        clear R_7
        have BK_8 := Lib.hid (BK_7.out.trans (hb.mono BK_7.out.size))
        clear BK_7
        clear hb
        obtain ⟨A7, c7, rfl, hI9⟩ := OwnI.form ho
        obtain ⟨nl, hl2⟩ : ∃ l, l = N.length := ⟨_, rfl⟩
        have HNL := Lib.hid hl2
        rw [← hl2]
        have N_8 := Lib.hid (hI9)
        clear ho hI9 hl2
        rw [← HNL.out] at hnl
        clear HND q1
        obtain ⟨i0, hi, hz0, hz1, hz2⟩ := info_parts info_int
        obtain ⟨b6, o6, rfl, hb6, e6⟩ := I_8.out (by have := HM1.out; omega)
        have hnew := World.ownsRow_lit (e := 3) (size := 1) (base := w8.heap.size) w8 #[] 0 (Nat.le_refl _) (by unfold maxLen; omega) (by simp)
        have hnews := pnews_of_ints (n := n1) (xs := xs) (fun j hj => (World.cell?_alloc_lt w8 (.cells #[] 3) ⟨b6, o6 + j, none⟩ (show b6 < w8.heap.size by omega)).trans (e6 j (by have := HM1.out; omega)))
        have HNEW := Lib.hid hnew
        have HNS := Lib.hid hnews
        clear hnew hnews e6
        go_wp2_with (at_builtin; refine wpList_append_own_at _ rfl _ _ 28 rfl w8.heap.size 3 i0 (.int .i64 0) 1 8 Try.underlying28 hi hz0 hz1 hz2 rfl (by decide) _ _ _ rfl HNEW.out ⟨b6, o6, none⟩ n1 d1 (xs.map (Value.int .i64)) rfl ?d1 HNS.out (pints_one xs) ?d3 ?d4 ?d5 ?_)
        case d1 => have := HM1.out; first | omega | (simp; omega)
        case d3 => unfold maxLen; omega
        case d4 => omega
        case d5 => simp
        intro v' wa hown' hgrow _ _
        have hown'' : wa.ownsRow w8.heap.size 3 1 v' n1 (xs.map (Value.int .i64)) := by simpa using hown'
        obtain ⟨g, cap, rfl⟩ : ∃ g cap, v' = .slice (some ⟨g, 0, none⟩) n1 cap := by
          rcases hown''.2 with ⟨_, h0⟩ | ⟨g, cap, cur, hv, _⟩
          · omega
          · exact ⟨g, cap, hv⟩
        have hba : Below w8.heap.size w8 wa := ((Below.refl _ _).alloc (Nat.le_refl _) (.cells #[] 3)).grown hgrow (by simp) (fun k hk => by simp [Value.ownBlock] at hk; omega)
        rw [← farTo_zero gs N xs] at hown''
        have HO0 := Lib.hid hown''
        have HBA := Lib.hid hba
        clear hown' hown'' hgrow hba HNEW HNS
        have q1 : wa.cell? ⟨w1.heap.size, 0, none⟩ = some (.slice A1 n1 c1) := (HBA.out.cell (p := ⟨w1.heap.size, 0, none⟩) (by have := F_8.out.le; show w1.heap.size < _; omega)).trans F_8.out.it
        go_wp2
        go_loopw [9] (fun u wr => ∃ j : Nat, j ≤ n1 ∧ u = .int .i64 j ∧ Hid (wr.ownsRow w8.heap.size 3 1 (.slice (some ⟨g, 0, none⟩) n1 cap) n1 ((farTo gs N xs j).map (Value.int .i64))) ∧ Hid (Below w8.heap.size w8 wr) ∧ w8.heap.size ≤ wr.heap.size) (fun u _ => n1 - (intOf u).toNat)
        case atStart => exact ⟨0, Nat.zero_le _, rfl, HO0, HBA, HBA.out.size⟩
        case round =>
          obtain ⟨j, hj, rfl, HO, HB, hwr⟩ := hrel
          obtain ⟨w9, hwK⟩ : ∃ W, W = wr := ⟨_, rfl⟩
          rw [← hwK]
          rw [← hwK] at HB hwr HO
          clear hwK HO0 HBA q1
          have P_9 := Lib.hid (P_8.out.step HB.out)
          have I_9 := Lib.hid (I_8.out.step HB.out)
          have B_9 := Lib.hid (B_8.out.trans (HB.out.mono B_8.out.size))
          have F_9 := Lib.hid (F_8.out.step HB.out)
          have R_9 := Lib.hid (R_8.out.step HB.out)
          have BK_9 := Lib.hid (BK_8.out.trans (HB.out.mono BK_8.out.size))
          have N_9 := Lib.hid (N_8.out.step HB.out)
          have q1 := F_9.out.it
          by_cases hjl : j < n1
          · skip
            have hst := farTo_step gs N xs j (by have := HM1.out; omega)
            have HIN := Lib.hid (laws_isIn A7 nl c7 N (j : Int) w9 w9.heap.size (Nat.le_refl _) HNL.out N_9.out (by omega))
            obtain ⟨b6', o6', eq6, hb6', e6⟩ := I_9.out (by have := HM1.out; omega)
            cases eq6
            have x6 := e6 j (by have := HM1.out; omega)
            clear e6
            have hx0 : 0 ≤ xs.getD j 0 := (validC_VOK gs xs (okC_parts gs xs HV.out).2 j (by have := HM1.out; omega)).1
            have hx1 : xs.getD j 0 ≤ 999 := (validC_VOK gs xs (okC_parts gs xs HV.out).2 j (by have := HM1.out; omega)).2
            obtain ⟨b, off, rfl, hbB, d0, A6, n6, c6, d1, hn6, hps⟩ := P_9.out.at_ j (by have := HN1.out; omega)
            clear d1 hn6 hps
            have hjn : (j : Int) < (n1 : Int) := by omega
            generalize (gs.getD j default).k = kd at *
            cases hk0 : (kd == 0)
            · have HST : Hid (farTo gs N xs (j + 1) = farTo gs N xs j) := by show _ = _; rw [hst, if_neg (by rw [hk0]; simp)]
              clear hst
              go_wp2
              go_roundw
              case rel => exact ⟨j + 1, by omega, by go_num, by rw [HST.out]; exact HO, HB, HB.out.size⟩
              case measure => simp [intOf]; omega
            · cases hin : decide ((j : Int) ∈ N)
              case' true =>
                have HST : Hid (farTo gs N xs (j + 1) = farTo gs N xs j) := by show _ = _; rw [hst, if_neg (fun h => h.2 (of_decide_eq_true hin))]
                clear hst
                rw [hin] at HIN
                clear hin
                go_wp2_with fail
                refine (HIN.out).mono ?_
                rintro e w9 ⟨rfl, rfl⟩
                go_wp2
                go_roundw
                case rel => exact ⟨j + 1, by omega, by go_num, by rw [HST.out]; exact HO, HB, HB.out.size⟩
                case measure => simp [intOf]; omega
              case false =>
                have hst2 : farTo gs N xs (j + 1) = (farTo gs N xs j).set j ((xs.getD j 0 + 31) % 1000) := by rw [hst, if_pos ⟨hk0, of_decide_eq_false hin⟩]
                have HST := Lib.hid hst2
                rw [hin] at HIN
                clear hst hst2 hin
                generalize hyy : (xs.getD j 0 + 31) % 1000 = y at *
                generalize xs.getD j 0 = x at *
                have hrem : (x + 31).tmod 1000 = y := by rw [Int.tmod_eq_emod_of_nonneg (by omega)]; exact hyy
                have u0 := HO.out.cellAt j (by omega)
                rw [List.getElem?_eq_getElem (by rw [List.length_map, farTo_len]; have := HM1.out; omega)] at u0
                have f0 := HO.out.frozenAt j
                have hs2 := (HO.out.stored j (.int .i64 y)).1
                rw [← List.map_set, ← HST.out] at hs2
                have HS2 := Lib.hid hs2
                have hgg := (HO.out.lt g rfl).1
                have HB4 := Lib.hid (HB.out.setCell (p := ⟨g, j, none⟩) hgg (.int .i64 y))
                generalize ((farTo gs N xs j).map (Value.int .i64))[j]'_ = vv at u0
                clear hs2
                go_wp2_with fail
                refine (HIN.out).mono ?_
                rintro e w9 ⟨rfl, rfl⟩
                go_wp2
                go_roundw
                case rel => exact ⟨j + 1, by omega, by go_num, HS2, HB4, HB4.out.size⟩
                case measure => simp [intOf]; omega
          · obtain rfl : n1 = j := by omega
            have hio : IS w9 w9.heap.size (some ⟨g, 0, none⟩) (farTo gs N xs n1) := IS.of_own (n := n1) (c := cap) HO.out
            have O_9 := Lib.hid (hio)
            clear hio HO
            obtain ⟨b3, o3, rfl, hb3, e3⟩ := R_9.out (by have := HRL.out; omega)
            have x3 := e3 k (by have := HRL.out; omega)
            clear e3
            have hfk := HFM.out
            generalize R.getD k 0 = y at *
            have HFK := Lib.hid hfk
            clear hfk HFM
            have x3_9 : Hid (C1 b3 (o3 + k) (.int .i64 y) w9) := ⟨hb3, x3⟩
            clear x3
            have hkn : (k : Int) < (n1 : Int) := by omega
            have hyy : (y != y) = false := by simp
            go_wp2
            clear q1
            refine wp_region_held_drew (S := fun w' => w'.cell? ⟨w1.heap.size, 0, none⟩ = some (.slice A1 n1 c1) ∧ w'.cell? ⟨b3, o3 + k, none⟩ = some (.int .i64 y)) (by kernel_rfl) ⟨F_9.out.it, x3_9.out.2⟩ (fun hHeld => ?_)
            refine wpAnyH_take (i := 0) (oi := ⟨some 80, _, _, _, _, _⟩) (v := ?_) rfl (by kernel_rfl) (by kernel_rfl) (by kernel_rfl) (fun _ _ _ h => h) (Or.inl ⟨by rfl, ?_⟩) (by assumption) ?_; rotate_left; (focus (intro w hSw; (try dsimp only at hSw); go_simp; (try with_reducible rfl))); (try simp only [Act.put, List.setIfInBounds_toArray, List.set_cons_zero, List.set_cons_succ])
            refine wpAnyH_take (i := 1) (oi := ⟨some 81, _, _, _, _, _⟩) (v := ?_) rfl (by kernel_rfl) (by kernel_rfl) (by kernel_rfl) (fun _ _ _ h => h) (Or.inl ⟨by rfl, ?_⟩) (by assumption) ?_; rotate_left; (focus (intro w hSw; (try dsimp only at hSw); go_simp; (try with_reducible rfl))); (try simp only [Act.put, List.setIfInBounds_toArray, List.set_cons_zero, List.set_cons_succ])
            refine wpAnyH_take (i := 3) (oi := ⟨some 83, _, _, _, _, _⟩) (v := ?_) rfl (by kernel_rfl) (by kernel_rfl) (by kernel_rfl) (fun _ _ _ h => h) (Or.inl ⟨by rfl, ?_⟩) (by assumption) ?_; rotate_left; (focus (intro w hSw; (try dsimp only at hSw); go_simp; (try with_reducible rfl))); (try simp only [Act.put, List.setIfInBounds_toArray, List.set_cons_zero, List.set_cons_succ])
            refine wpAnyH_take (i := 6) (oi := ⟨some 86, _, _, _, _, _⟩) (v := ?_) rfl (by kernel_rfl) (by kernel_rfl) (by kernel_rfl) (fun _ _ _ h => h) (Or.inl ⟨by rfl, ?_⟩) (by assumption) ?_; rotate_left; (focus (intro w hSw; (try dsimp only at hSw); go_simp; (try with_reducible rfl))); (try simp only [Act.put, List.setIfInBounds_toArray, List.set_cons_zero, List.set_cons_succ])
            refine wpAnyH_take (i := 7) (oi := ⟨some 87, _, _, _, _, _⟩) (v := ?_) rfl (by kernel_rfl) (by kernel_rfl) (by kernel_rfl) (fun _ _ _ h => h) (Or.inl ⟨by rfl, ?_⟩) (by assumption) ?_; rotate_left; (focus (intro w hSw; (try dsimp only at hSw); go_simp; (try with_reducible rfl))); (try simp only [Act.put, List.setIfInBounds_toArray, List.set_cons_zero, List.set_cons_succ])
            refine wpAnyH_take (i := 8) (oi := ⟨some 88, _, _, _, _, _⟩) (v := ?_) rfl (by kernel_rfl) (by kernel_rfl) (by kernel_rfl) (fun _ _ _ h => h) (Or.inl ⟨by rfl, ?_⟩) (by assumption) ?_; rotate_left; (focus (intro w hSw; (try dsimp only at hSw); go_simp; (try with_reducible rfl))); (try simp only [Act.put, List.setIfInBounds_toArray, List.set_cons_zero, List.set_cons_succ])
            refine wpAnyH_take (i := 9) (oi := ⟨some 89, _, _, _, _, _⟩) (v := ?_) rfl (by kernel_rfl) (by kernel_rfl) (by kernel_rfl) (fun _ _ _ h => h) (Or.inl ⟨by rfl, ?_⟩) (by assumption) ?_; rotate_left; (focus (intro w hSw; (try dsimp only at hSw); go_simp; (try with_reducible rfl))); (try simp only [Act.put, List.setIfInBounds_toArray, List.set_cons_zero, List.set_cons_succ])
            refine wpAnyH_ready (rs := [2]) (by kernel_rfl) (by simp) ?_; refine AllReadyH.cons (o := ⟨some 82, _, _, _, _, _⟩) rfl (fun K hK => ?_) AllReadyH.nil; go_simp
            go_at_call 39
            refine (HMO.out (some ⟨g, 0, none⟩) cap w9.drew P_9.out O_9.out).mono ?_
            rintro e w10 ⟨v8, rfl, ho, hb'⟩
            have hb : Below w9.heap.size w9 w10 := below_of_drew hb'
            obtain ⟨A8, c8, rfl, hI9⟩ := OwnI.form ho
            rw [← HM2.out]
            obtain ⟨b8, o8, rfl, hb8, e8⟩ := hI9 (by have := HM2.out; omega)
            have x9 := e8 k (by have := HM2.out; omega)
            rw [HFK.out] at x9
            clear e8
            have P_10 := Lib.hid (P_9.out.step hb)
            clear P_9
            have I_10 := Lib.hid (I_9.out.step hb)
            clear I_9
            have B_10 := Lib.hid (B_9.out.trans (hb.mono B_9.out.size))
            clear B_9
            have F_10 := Lib.hid (F_9.out.step hb)
            clear F_9
            have R_10 := Lib.hid (R_9.out.step hb)
            clear R_9
            have BK_10 := Lib.hid (BK_9.out.trans (hb.mono BK_9.out.size))
            clear BK_9
            have N_10 := Lib.hid (N_9.out.step hb)
            clear N_9
            have O_10 := Lib.hid (O_9.out.step hb)
            clear O_9
            have x3_10 := Lib.hid (x3_9.out.step hb)
            clear x3_9
            clear hb hb'
            refine hK.out _ _ ⟨F_10.out.it, x3_10.out.2⟩ (fun hHeld => ?_); clear hK K; (try simp only [Act.put, List.setIfInBounds_toArray, List.set_cons_zero, List.set_cons_succ])
            refine wpAnyH_take (i := 4) (oi := ⟨some 84, _, _, _, _, _⟩) (v := ?_) rfl (by kernel_rfl) (by kernel_rfl) (by kernel_rfl) (fun _ _ _ h => h) (Or.inl ⟨by rfl, ?_⟩) (by assumption) ?_; rotate_left; (focus (intro w hSw; (try dsimp only at hSw); go_simp; (try with_reducible rfl))); (try simp only [Act.put, List.setIfInBounds_toArray, List.set_cons_zero, List.set_cons_succ])
            refine wpAnyH_ready (rs := [5]) (by kernel_rfl) (by simp) ?_; refine AllReadyH.cons (o := ⟨some 85, _, _, _, _, _⟩) rfl (fun K hK => ?_) AllReadyH.nil; go_simp
            refine hK.out _ _ ⟨F_10.out.it, x3_10.out.2⟩ (fun hHeld => ?_); clear hK K; (try simp only [Act.put, List.setIfInBounds_toArray, List.set_cons_zero, List.set_cons_succ])
            refine wpAnyH_take (i := 10) (oi := ⟨some 90, _, _, _, _, _⟩) (v := ?_) rfl (by kernel_rfl) (by kernel_rfl) (by kernel_rfl) (fun _ _ _ h => h) (Or.inl ⟨by rfl, ?_⟩) (by assumption) ?_; rotate_left; (focus (intro w hSw; (try dsimp only at hSw); go_simp; (try with_reducible rfl))); (try simp only [Act.put, List.setIfInBounds_toArray, List.set_cons_zero, List.set_cons_succ])
            refine wpAnyH_done (by kernel_rfl) ?_ _
            go_wp2
            go_roundw
            case rel => exact ⟨k + 1, by omega, by go_num, BK_10.out, BK_10.out.size⟩
            case measure => simp [intOf]; omega
      · obtain rfl : n1 = k := by omega
        go_wp2
        go_ret
        exact ⟨rfl, B_7.out⟩
end Go.Proofs.Ytdhjflhpenkchaa
