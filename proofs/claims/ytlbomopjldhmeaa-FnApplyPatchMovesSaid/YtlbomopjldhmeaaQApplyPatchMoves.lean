/- laws.FnApplyPatchMoves returns true for all bytes, and writes nothing that was there. (Made by genpl.py.) -/
import Derived.Test.YtlbomopjldhmeaaB13a
import Derived.BigQuiet
import Derived.Deep.QuietTactic
import Derived.Test.YtlbomopjldhmeaaKD9
import Derived.Test.YtlbomopjldhmeaaM34
import Derived.Test.YtlbomopjldhmeaaK20

namespace Go.Proofs.Ytlbomopjldhmeaa
set_option linter.unusedSimpArgs false
set_option linter.unusedVariables false
open Go.RowKit

theorem cntA_le (l : List Ac) (k : Int) : cntA l k ≤ l.length := List.length_filter_le _ _
theorem map_take_step (ac : List Ac) (k : Nat) (h : k < ac.length) : (ac.take (k + 1)).map (·.a) = (ac.take k).map (·.a) ++ [(ac.getD k default).a] := by
  have hg : ac[k] = ac.getD k default := by simp [List.getD, h]
  rw [List.take_succ_eq_append_getElem h, hg]; simp

set_option maxRecDepth 100000 in
set_option maxHeartbeats 6400000 in
theorem plaw_ApplyPatchMoves (A : Option Addr) (n c : Nat) (bs : List Int) (w : World) (hn : n = bs.length) (hnc : n ≤ c) (h : BS w w.heap.size A bs) (hy : BY bs) (hm : n ≤ 9223372036854775807) :
    Calls Try.prog 6 #[.slice A n c] w fun e w' => e = .returned (.bool true) ∧ Below w.heap.size w w' := by
  by_cases hs : 1048576 < n
  · clear hn hnc h hy
    go_enter Try.func6, Try.ntmps6
    go_wp2
    go_ret
    exact ⟨rfl, Below.refl _ _⟩
  have HC := Lib.hid (spec_DrawApplyPatch A n c bs w hn hnc h hy (by omega))
  clear hn hnc h hy
  go_enter Try.func6, Try.ntmps6
  go_wp2_with fail
  refine HC.out.mono ?_
  rintro e w1 ⟨A1, n1, c1, xs, A2, n2, c2, ac, rfl, h1, hn11, hnc1, h4, hn21, hnc2, hI1, hI2, hb⟩
  have HN1 := Lib.hid h1
  have HM1 := Lib.hid h4
  have P_1 := Lib.hid (hI1)
  have I_1 := Lib.hid (hI2)
  have B_1 := Lib.hid (hb)
  clear h1 h4 hI1 hI2 hb HC
  have HIM := Lib.hid fun (w' : World) (h : IS w' w'.heap.size A1 xs) (h' : CS w' w'.heap.size A2 ac) => top_impl_ApplyPatch xs ac (by have := HN1.out; omega) (by have := HM1.out; omega) A1 n1 c1 A2 n2 c2 w' HN1.out hnc1 h HM1.out hnc2 h'
  have HSP := Lib.hid fun (w' : World) (h : IS w' w'.heap.size A1 xs) (h' : CS w' w'.heap.size A2 ac) => top_spec_ApplyPatch xs ac (by have := HN1.out; omega) (by have := HM1.out; omega) A1 n1 c1 A2 n2 c2 w' HN1.out hnc1 h HM1.out hnc2 h'
  have hrl := applyF_len xs ac
  have HB0 : Hid (∀ b, applyB xs ac = b → b = applyB xs ac) := fun _ h => h.symm
  generalize hF : applyF xs ac = R at *
  generalize hB : applyB xs ac = ok at *
  have HFE := Lib.hid hF
  have HBE := Lib.hid hB
  clear HB0 hF hB
  go_wp2_with fail
  refine (HIM.out w1 P_1.out I_1.out).mono ?_
  rintro e w2 ⟨v, rfl, ho, hb⟩
  obtain ⟨A3, c3, rfl⟩ := own_form ho
  have hI9 := IS.of_own ho
  have hnc9 := own_ncap ho
  have P_2 := Lib.hid (P_1.out.step hb)
  clear P_1
  have I_2 := Lib.hid (I_1.out.step hb)
  clear I_1
  have B_2 := Lib.hid (B_1.out.trans (hb.mono B_1.out.size))
  clear B_1
  clear hb
  obtain ⟨rl, hrl2⟩ : ∃ l, l = R.length := ⟨_, rfl⟩
  have HRL := Lib.hid hrl2
  have R_2 := Lib.hid (hI9)
  rw [← hrl2] at hrl hnc9
  rw [← hrl2]
  clear ho hI9 hrl2
  go_wp2_with fail
  refine (HSP.out w2 P_2.out I_2.out).mono ?_
  rintro e w3 ⟨v, rfl, ho, hb⟩
  obtain ⟨A4, c4, rfl⟩ := own_form ho
  have hI9 := IS.of_own ho
  have hnc8 := own_ncap ho
  have P_3 := Lib.hid (P_2.out.step hb)
  clear P_2
  have I_3 := Lib.hid (I_2.out.step hb)
  clear I_2
  have B_3 := Lib.hid (B_2.out.trans (hb.mono B_2.out.size))
  clear B_2
  have R_3 := Lib.hid (R_2.out.step hb)
  clear R_2
  clear hb
  clear hnc8
  rw [← HRL.out]
  have S_3 := Lib.hid (hI9)
  clear ho hI9
  have HEQ := Lib.hid (laws_equalInts A3 A4 rl rl c3 c4 R R w3 w3.heap.size (Nat.le_refl _) HRL.out HRL.out R_3.out S_3.out (by omega) (by omega))
  rw [show decide (R = R) = true from decide_eq_true rfl] at HEQ
  go_wp2_with fail
  refine (HEQ.out).mono ?_
  rintro e w4 ⟨rfl, hb⟩
  have P_4 := Lib.hid (P_3.out.step hb)
  clear P_3
  have I_4 := Lib.hid (I_3.out.step hb)
  clear I_3
  have B_4 := Lib.hid (B_3.out.trans (hb.mono B_3.out.size))
  clear B_3
  have R_4 := Lib.hid (R_3.out.step hb)
  clear R_3
  have S_4 := Lib.hid (S_3.out.step hb)
  clear S_3
  clear hb
  clear HEQ
  cases ok
  · skip
    have HEQ := Lib.hid (laws_equalInts A3 A4 rl rl c3 c4 R R w4 w4.heap.size (Nat.le_refl _) HRL.out HRL.out R_4.out S_4.out (by omega) (by omega))
    rw [show decide (R = R) = true from decide_eq_true rfl] at HEQ
    go_wp2_with fail
    refine (HEQ.out).mono ?_
    rintro e w5 ⟨rfl, hb⟩
    have P_5 := Lib.hid (P_4.out.step hb)
    clear P_4
    have I_5 := Lib.hid (I_4.out.step hb)
    clear I_4
    have B_5 := Lib.hid (B_4.out.trans (hb.mono B_4.out.size))
    clear B_4
    have R_5 := Lib.hid (R_4.out.step hb)
    clear R_4
    have S_5 := Lib.hid (S_4.out.step hb)
    clear S_4
    clear hb
    clear HEQ
    go_wp2
    go_ret
    exact ⟨rfl, B_5.out⟩
  obtain ⟨i0, hi, hz0, hz1, hz2⟩ := info_parts info_int
  have HCT := Lib.hid (apply_count HBE.out)
  have HMV := Lib.hid (apply_moves HBE.out)
  rw [HFE.out] at HCT HMV
  rw [← HRL.out, ← HN1.out] at HCT
  rw [← HM1.out, ← HRL.out, ← HN1.out] at HMV
  have HC2 := Lib.hid fun (w' : World) (h : CS w' w'.heap.size A2 ac) => laws_countChanges A2 n2 c2 ac 2 w' w'.heap.size (Nat.le_refl _) HM1.out h (by omega)
  have hq2 : cntA ac 2 ≤ 30 := by have := cntA_le ac 2; have := HM1.out; omega
  have HC1 := Lib.hid fun (w' : World) (h : CS w' w'.heap.size A2 ac) => laws_countChanges A2 n2 c2 ac 1 w' w'.heap.size (Nat.le_refl _) HM1.out h (by omega)
  have hq1 : cntA ac 1 ≤ 30 := by have := cntA_le ac 1; have := HM1.out; omega
  have HC0 := Lib.hid fun (w' : World) (h : CS w' w'.heap.size A2 ac) => laws_countChanges A2 n2 c2 ac 0 w' w'.heap.size (Nat.le_refl _) HM1.out h (by omega)
  have hq0 : cntA ac 0 ≤ 30 := by have := cntA_le ac 0; have := HM1.out; omega
  generalize cntA ac 2 = q2 at *
  generalize cntA ac 1 = q1 at *
  generalize cntA ac 0 = q0 at *
  go_wp2_with fail
  refine (HC2.out w4 I_4.out).mono ?_
  rintro e w9 ⟨rfl, rfl⟩
  by_cases hlt2 : q2 < n2
  · have hl2 : (q2 : Int) < (n2 : Int) := by omega
    go_wp2_with fail
    refine (HC1.out w4 I_4.out).mono ?_
    rintro e w9 ⟨rfl, rfl⟩
    have hw1 : IntKind.i64.wrap ((n1 : Int) + (q1 : Int)) = (n1 : Int) + (q1 : Int) := by rw [IntKind.wrap_i64] <;> omega
    go_wp2_with fail
    refine (HC0.out w4 I_4.out).mono ?_
    rintro e w9 ⟨rfl, rfl⟩
    have hw2 : IntKind.i64.wrap ((n1 : Int) + (q1 : Int) - (q0 : Int)) = (rl : Int) := by have := HCT.out; rw [IntKind.wrap_i64] <;> omega
    have hee : ((rl : Int) == (rl : Int)) = true := by simp
    go_wp2
    go_ret
    exact ⟨ret_b (by first | rfl | simp), B_4.out⟩
  have hl2 : ¬ (q2 : Int) < (n2 : Int) := by omega
  obtain ⟨hrn, hm1, hm2, hm3⟩ := HMV.out hlt2
  have HMI := Lib.hid hm1
  have HMP := Lib.hid hm2
  have HMR := Lib.hid hm3
  have HRN := Lib.hid hrn
  clear HMV HCT HC0 HC1 HC2 hrn hm1 hm2 hm3 hq0 hq1 hq2
  go_wp2
  clear hl2 hlt2
  go_loopw [9, 10] (fun v u wr => ∃ (k : Nat), k ≤ n2 ∧ u = .int .i64 k ∧ Hid (OwnI wr w4.heap.size v ((ac.take k).map (·.a))) ∧ Hid (Below w4.heap.size w4 wr)) (fun _ u _ => n2 - (intOf u).toNat)
  case atStart => exact ⟨0, Nat.zero_le _, rfl, World.ownsRow_lit (e := 3) (size := 1) w4 #[] 0 (Nat.le_refl _) (by unfold maxLen; omega) rfl, (Below.refl _ _).alloc (Nat.le_refl _) _⟩
  case round =>
    obtain ⟨k, hk, rfl, HO, HBr⟩ := hrel
    have hwr : w4.heap.size ≤ wr.heap.size := HBr.out.size
    by_cases hlt : k < n2
    · obtain ⟨b, off, hA2, hbw, hc⟩ := I_4.out (by have := HM1.out; omega)
      subst hA2
      have c1 := (HBr.out.cell (p := ⟨b, off + k * 3 + 1, none⟩) hbw).trans (hc k (by have := HM1.out; omega)).2.1
      have hbr : b < wr.heap.size := by omega
      have HST := Lib.hid (map_take_step ac k (by have := HM1.out; omega))
      clear hc
      have hfl : ((ac.take k).map (·.a)).length ≤ k := by rw [List.length_map]; exact List.length_take_le _ _
      generalize (ac.getD k default).a = y at *
      generalize (ac.take k).map (·.a) = F at *
      go_wp2_with (at_builtin; refine wpList_append_own _ rfl _ _ 22 rfl w4.heap.size 3 i0 (.int .i64 0) 1 8 Try.underlying22 hi hz0 hz1 hz2 rfl (by decide) _ _ _ rfl (HO.out.alloc _) ⟨_, 0, none⟩ 1 1 [.int .i64 y] rfl rfl (cell_one_new _ _ _) ?c2 ?c3 ?c4 ?c5 ?_)
      case c2 => first | rfl | (intro u hu; simp at hu; subst hu; rfl)
      case c3 => unfold maxLen; omega
      case c4 => omega
      case c5 => first | omega | (simp; omega)
      intro v' w9 hown' hgrow _
      have hpos := (HO.out.alloc (.cells #[.int .i64 y] 3)).lt
      have HO' : Hid (OwnI w9 w4.heap.size v' ((ac.take (k + 1)).map (·.a))) := by
        rw [HST.out]
        simpa [OwnI, Hid] using hown'
      have HB' := Lib.hid ((HBr.out.alloc hwr (.cells #[.int .i64 y] 3)).grown hgrow (by first | (simp; omega) | omega) (fun q hq => (hpos q hq).1))
      clear hown' hgrow hpos
      go_wp2
      go_roundw
      case rel => exact ⟨k + 1, by omega, by go_num, HO'.out, HB'.out⟩
      case measure => simp [intOf]; omega
    · obtain rfl : k = n2 := by omega
      have hmq : (ac.take k).map (·.a) = ac.map (·.a) := by rw [List.take_of_length_le (by have := HM1.out; omega)]
      rw [hmq] at HO
      obtain ⟨w5, hwK⟩ : ∃ W, W = wr := ⟨_, rfl⟩
      rw [← hwK]
      rw [← hwK] at HO HBr hwr
      clear hwK hmq
      have P_5 := Lib.hid (P_4.out.step HBr.out)
      clear P_4
      have I_5 := Lib.hid (I_4.out.step HBr.out)
      clear I_4
      have B_5 := Lib.hid (B_4.out.trans (HBr.out.mono B_4.out.size))
      clear B_4
      have R_5 := Lib.hid (R_4.out.step HBr.out)
      clear R_4
      have S_5 := Lib.hid (S_4.out.step HBr.out)
      clear S_4
      have ho := HO.out
      have hml : (ac.map (·.a)).length = k := by rw [List.length_map]; exact HM1.out.symm
      generalize ac.map (·.a) = M at *
      obtain ⟨A5, c5, rfl, hI9⟩ := OwnI.form ho
      have HML := Lib.hid hml.symm
      rw [hml]
      have M_5 := Lib.hid (hI9)
      clear ho hI9 HO HBr hlt hml
      go_wp2
      go_loopw [11, 12] (fun v u wr => ∃ (j : Nat), j ≤ n1 ∧ u = .int .i64 j ∧ Hid (OwnI wr w5.heap.size v (notK (xs.take j) M)) ∧ Hid (Below w5.heap.size w5 wr)) (fun _ u _ => n1 - (intOf u).toNat)
      case atStart => exact ⟨0, Nat.zero_le _, rfl, World.ownsRow_lit (e := 3) (size := 1) w5 #[] 0 (Nat.le_refl _) (by unfold maxLen; omega) rfl, (Below.refl _ _).alloc (Nat.le_refl _) _⟩
      case round =>
        obtain ⟨j, hj, rfl, HO, HBr⟩ := hrel
        have hwr : w5.heap.size ≤ wr.heap.size := HBr.out.size
        by_cases hlt : j < n1
        · obtain ⟨b, off, hA1, hbw, hc⟩ := P_5.out (by have := HN1.out; omega)
          subst hA1
          have c0 := (HBr.out.cell (p := ⟨b, off + j, none⟩) hbw).trans (hc j (by have := HN1.out; omega))
          have hbr : b < wr.heap.size := by omega
          have HST := Lib.hid (notK_step xs M j (by have := HN1.out; omega))
          have hfl := notK_len (xs.take j) M
          have hfk : (xs.take j).length ≤ j := List.length_take_le _ _
          clear hc
          generalize xs.getD j 0 = y at *
          generalize notK (xs.take j) M = F at *
          have HII := Lib.hid (laws_isIn A5 k c5 M y wr w5.heap.size hwr HML.out (M_5.out.below HBr.out (Nat.le_refl _)) (by omega))
          by_cases hy : y ∈ M
          · rw [decide_eq_true hy] at HII
            have HS2 := Lib.hid (HST.out.trans (if_neg (not_not_intro hy)))
            clear hy HST
            go_wp2_with fail
            refine HII.out.mono ?_
            rintro e w9 ⟨rfl, rfl⟩
            go_wp2
            go_roundw
            case rel => exact ⟨j + 1, by omega, by go_num, by rw [HS2.out]; exact HO.out, HBr.out⟩
            case measure => simp [intOf]; omega
          · rw [decide_eq_false hy] at HII
            have HS2 := Lib.hid (HST.out.trans (if_pos hy))
            clear hy HST
            go_wp2_with fail
            refine HII.out.mono ?_
            rintro e w8 ⟨rfl, rfl⟩
            clear HII
            go_wp2_with (at_builtin; refine wpList_append_own _ rfl _ _ 22 rfl w5.heap.size 3 i0 (.int .i64 0) 1 8 Try.underlying22 hi hz0 hz1 hz2 rfl (by decide) _ _ _ rfl (HO.out.alloc _) ⟨_, 0, none⟩ 1 1 [.int .i64 y] rfl rfl (cell_one_new _ _ _) ?c2 ?c3 ?c4 ?c5 ?_)
            case c2 => first | rfl | (intro u hu; simp at hu; subst hu; rfl)
            case c3 => unfold maxLen; omega
            case c4 => omega
            case c5 => first | omega | (simp; omega)
            intro v' w9 hown' hgrow _
            have hpos := (HO.out.alloc (.cells #[.int .i64 y] 3)).lt
            have HO' : Hid (OwnI w9 w5.heap.size v' (notK (xs.take (j + 1)) M)) := by
              rw [HS2.out]
              simpa [OwnI, Hid] using hown'
            have HB' := Lib.hid ((HBr.out.alloc hwr (.cells #[.int .i64 y] 3)).grown hgrow (by first | (simp; omega) | omega) (fun q hq => (hpos q hq).1))
            clear hown' hgrow hpos
            go_wp2
            go_roundw
            case rel => exact ⟨j + 1, by omega, by go_num, HO'.out, HB'.out⟩
            case measure => simp [intOf]; omega
        · obtain rfl : j = n1 := by omega
          have hmq : xs.take j = xs := by rw [List.take_of_length_le (by have := HN1.out; omega)]
          rw [hmq] at HO
          obtain ⟨w6, hwK⟩ : ∃ W, W = wr := ⟨_, rfl⟩
          rw [← hwK]
          rw [← hwK] at HO HBr hwr
          clear hwK hmq
          have P_6 := Lib.hid (P_5.out.step HBr.out)
          clear P_5
          have I_6 := Lib.hid (I_5.out.step HBr.out)
          clear I_5
          have B_6 := Lib.hid (B_5.out.trans (HBr.out.mono B_5.out.size))
          clear B_5
          have R_6 := Lib.hid (R_5.out.step HBr.out)
          clear R_5
          have S_6 := Lib.hid (S_5.out.step HBr.out)
          clear S_5
          have M_6 := Lib.hid (M_5.out.step HBr.out)
          clear M_5
          have ho := HO.out
          have hsl := notK_len xs M
          rw [← HN1.out] at hsl
          generalize notK xs M = T at *
          obtain ⟨A6, c6, rfl, hI9⟩ := OwnI.form ho
          obtain ⟨tl, htl⟩ : ∃ l, l = T.length := ⟨_, rfl⟩
          have HTL := Lib.hid htl
          rw [← htl] at hsl ⊢
          clear htl
          have T_6 := Lib.hid (hI9)
          clear ho hI9 HO HBr hlt
          go_wp2
          go_loopw [13, 14] (fun v u wr => ∃ (i : Nat) (a : Int), i ≤ tl ∧ u = .int .i64 i ∧ v = .int .i64 a ∧ Hid (i < tl → a < plc R (T.getD i 0)) ∧ Hid (Below w6.heap.size w6 wr)) (fun _ u _ => tl - (intOf u).toNat)
          case atStart => exact ⟨0, -1, Nat.zero_le _, rfl, rfl, fun h => by have := HMP.out 0 (by rw [← HTL.out]; exact h); omega, Below.refl _ _⟩
          case round =>
            obtain ⟨i, a, hi9, rfl, rfl, HLT, HBr⟩ := hrel
            obtain ⟨w7, hwK⟩ : ∃ W, W = wr := ⟨_, rfl⟩
            rw [← hwK]
            rw [← hwK] at HBr
            clear hwK
            have P_7 := Lib.hid (P_6.out.step HBr.out)
            clear P_6
            have I_7 := Lib.hid (I_6.out.step HBr.out)
            clear I_6
            have B_7 := Lib.hid (B_6.out.trans (HBr.out.mono B_6.out.size))
            clear B_6
            have R_7 := Lib.hid (R_6.out.step HBr.out)
            clear R_6
            have S_7 := Lib.hid (S_6.out.step HBr.out)
            clear S_6
            have M_7 := Lib.hid (M_6.out.step HBr.out)
            clear M_6
            have T_7 := Lib.hid (T_6.out.step HBr.out)
            clear T_6
            by_cases hlt : i < tl
            · obtain ⟨b, off, hA6, hbw, hc⟩ := T_7.out (by have := HTL.out; omega)
              subst hA6
              have c0 := hc i (by have := HTL.out; omega)
              have hap := HLT.out hlt
              have HNX : Hid (i + 1 < tl → plc R (T.getD i 0) < plc R (T.getD (i + 1) 0)) := fun h => HMR.out i (by rw [← HTL.out]; exact h)
              have HPL := Lib.hid (laws_place A3 rl c3 R (T.getD i 0) w7 w7.heap.size (Nat.le_refl _) HRL.out R_7.out (by omega))
              clear hc HLT
              generalize T.getD i 0 = y at *
              generalize plc R y = py at *
              have hnle : ¬ py ≤ a := by omega
              go_wp2_with fail
              refine HPL.out.mono ?_
              rintro e w9 ⟨rfl, rfl⟩
              go_wp2_with fail
              refine HPL.out.mono ?_
              rintro e w9 ⟨rfl, rfl⟩
              go_wp2
              go_roundw
              case rel => exact ⟨i + 1, py, by omega, by go_num, rfl, HNX.out, HBr.out⟩
              case measure => simp [intOf]; omega
            · obtain rfl : i = tl := by omega
              have hrn := HRN.out
              have hre : ((rl : Int) == (j : Int)) = true := by rw [hrn]; simp
              clear hrn
              go_wp2_with fail
              refine (laws_within A3 A1 rl c3 j c1 R xs w7 w7.heap.size (Nat.le_refl _) HRL.out R_7.out (by omega) HN1.out P_7.out (by omega) HMI.out).mono ?_
              rintro e w9 ⟨rfl, rfl⟩
              go_wp2
              go_ret
              exact ⟨rfl, B_7.out⟩
end Go.Proofs.Ytlbomopjldhmeaa
