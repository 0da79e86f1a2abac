/- laws.FnMatchRows returns true for all bytes, and writes nothing that was there. (Made by genpl.py.) -/
import Derived.Test.YtlbomopjldhmeaaB16a
import Derived.BigQuiet
import Derived.Deep.QuietTactic
import Derived.Test.YtlbomopjldhmeaaKD10
import Derived.Test.YtlbomopjldhmeaaKE2
import Derived.Test.YtlbomopjldhmeaaM35

namespace Go.Proofs.Ytlbomopjldhmeaa
set_option linter.unusedSimpArgs false
set_option linter.unusedVariables false
open Go.RowKit

set_option maxRecDepth 100000 in
set_option maxHeartbeats 6400000 in
theorem plaw_MatchRows (A : Option Addr) (n c : Nat) (bs : List Int) (w : World) (hn : n = bs.length) (hnc : n ≤ c) (h : BS w w.heap.size A bs) (hy : BY bs) (hm : n ≤ 9223372036854775807) :
    Calls Try.prog 7 #[.slice A n c] w fun e w' => e = .returned (.bool true) ∧ Below w.heap.size w w' := by
  by_cases hs : 1048576 < n
  · clear hn hnc h hy
    go_enter Try.func7, Try.ntmps7
    go_wp2
    go_ret
    exact ⟨rfl, Below.refl _ _⟩
  have HC := Lib.hid (spec_DrawMatchRows A n c bs w hn hnc h hy (by omega))
  clear hn hnc h hy
  go_enter Try.func7, Try.ntmps7
  go_wp2_with fail
  refine HC.out.mono ?_
  rintro e w1 ⟨A1, n1, c1, rs, nx, A2, n2, c2, ys, rfl, h1, hn11, hnc1, h4, hn21, hnc2, hnx0, hnx1, hI1, hI2, hb⟩
  have HN1 := Lib.hid h1
  have HM1 := Lib.hid h4
  have P_1 := Lib.hid (hI1)
  have I_1 := Lib.hid (hI2)
  have B_1 := Lib.hid (hb)
  clear h1 h4 hI1 hI2 hb HC
  have HIM := Lib.hid fun (w' : World) (h : WS w' w'.heap.size A1 rs) (h' : IS w' w'.heap.size A2 ys) => top_impl_MatchRows rs nx ys (by have := HN1.out; omega) (by have := HM1.out; omega) A1 n1 c1 A2 n2 c2 w' HN1.out hnc1 h HM1.out hnc2 h'
  have HSP := Lib.hid fun (w' : World) (h : WS w' w'.heap.size A1 rs) (h' : IS w' w'.heap.size A2 ys) => top_spec_MatchRows rs nx ys (by have := HN1.out; omega) (by have := HM1.out; omega) A1 n1 c1 A2 n2 c2 w' HN1.out hnc1 h HM1.out hnc2 h'
  have hrl := matchF_len rs nx ys
  have HNG := Lib.hid (matchN_neg (rs := rs) (nx := nx) (ys := ys))
  have HMF := Lib.hid (match_facts (rs := rs) (nx := nx) (ys := ys))
  have HMA := Lib.hid (match_again (rs := rs) (nx := nx) (ys := ys))
  generalize matchF rs nx ys = R at *
  generalize matchN rs nx ys = f at *
  generalize matchB rs nx ys = ok at *
  go_wp2_with fail
  refine (HIM.out w1 P_1.out I_1.out).mono ?_
  rintro e w2 ⟨v, rfl, ho, hb⟩
  obtain ⟨A3, c3, rfl⟩ := own_form ho
  have hI9 := WS.of_own ho
  have hnc9 := own_ncap ho
  have P_2 := Lib.hid (P_1.out.step hb)
  clear P_1
  have I_2 := Lib.hid (I_1.out.step hb)
  clear I_1
  have B_2 := Lib.hid (B_1.out.trans (hb.mono B_1.out.size))
  clear B_1
  clear hb
  obtain ⟨rl, hrl2⟩ : ∃ l, l = R.length := ⟨_, rfl⟩
  have HRL := Lib.hid hrl2
  have R_2 := Lib.hid (hI9)
  rw [← hrl2] at hrl hnc9
  rw [← hrl2]
  clear ho hI9 hrl2
  go_wp2_with fail
  refine (HSP.out w2 P_2.out I_2.out).mono ?_
  rintro e w3 ⟨v, rfl, ho, hb⟩
  obtain ⟨A4, c4, rfl⟩ := own_form ho
  have hI9 := WS.of_own ho
  have hnc8 := own_ncap ho
  have P_3 := Lib.hid (P_2.out.step hb)
  clear P_2
  have I_3 := Lib.hid (I_2.out.step hb)
  clear I_2
  have B_3 := Lib.hid (B_2.out.trans (hb.mono B_2.out.size))
  clear B_2
  have R_3 := Lib.hid (R_2.out.step hb)
  clear R_2
  clear hb
  clear hnc8
  rw [← HRL.out]
  have S_3 := Lib.hid (hI9)
  clear ho hI9
  have hff : (f != f) = false := by simp
  have hfe : (f == f) = true := by simp
  have HEQ := Lib.hid (laws_equalRows A3 A4 rl c3 c4 R w3 w3.heap.size (Nat.le_refl _) HRL.out R_3.out S_3.out (by omega))
  go_wp2_with fail
  refine (HEQ.out).mono ?_
  rintro e w4 ⟨rfl, hb⟩
  have P_4 := Lib.hid (P_3.out.step hb)
  clear P_3
  have I_4 := Lib.hid (I_3.out.step hb)
  clear I_3
  have B_4 := Lib.hid (B_3.out.trans (hb.mono B_3.out.size))
  clear B_3
  have R_4 := Lib.hid (R_3.out.step hb)
  clear R_3
  have S_4 := Lib.hid (S_3.out.step hb)
  clear S_3
  clear hb
  clear HEQ
  cases ok
  · have hf1 := HNG.out rfl
    subst hf1
    have HEQ := Lib.hid (laws_equalRows A3 A4 rl c3 c4 R w4 w4.heap.size (Nat.le_refl _) HRL.out R_4.out S_4.out (by omega))
    go_wp2_with fail
    refine (HEQ.out).mono ?_
    rintro e w5 ⟨rfl, hb⟩
    have P_5 := Lib.hid (P_4.out.step hb)
    clear P_4
    have I_5 := Lib.hid (I_4.out.step hb)
    clear I_4
    have B_5 := Lib.hid (B_4.out.trans (hb.mono B_4.out.size))
    clear B_4
    have R_5 := Lib.hid (R_4.out.step hb)
    clear R_4
    have S_5 := Lib.hid (S_4.out.step hb)
    clear S_4
    clear hb
    clear HEQ
    go_wp2
    go_ret
    exact ⟨ret_b (by first | rfl | simp), B_5.out⟩
  obtain ⟨i0, hi, hz0, hz1, hz2⟩ := info_parts info_int
  obtain ⟨-, hfm, hnd, hlen, hf0, hrow⟩ := HMF.out rfl
  have hfn : ¬ f < 0 := by omega
  rw [← HRL.out, ← HM1.out] at hlen
  rw [← HM1.out] at hrow hfm
  have HLEN := Lib.hid hlen
  have HROW := Lib.hid hrow
  have HND := Lib.hid hnd
  have HFM := Lib.hid hfm
  have HBD := Lib.hid fun k => mtc_bd rs ys nx k
  have HM0 : Hid ((mtc rs ys nx 0).2 = nx) := rfl
  clear HMA HMF HNG hfm hnd hlen hf0 hrow
  go_wp2
  clear hfn hff
  go_loopw [10, 11, 12] (fun v m u wr => ∃ (i : Nat), i ≤ rl ∧ u = .int .i64 i ∧ m = .int .i64 (mtc rs ys nx i).2 ∧ Hid (OwnI wr w4.heap.size v (idW (R.take i))) ∧ Hid (Below w4.heap.size w4 wr)) (fun _ _ u _ => rl - (intOf u).toNat)
  case atStart => exact ⟨0, Nat.zero_le _, rfl, by rw [HM0.out], World.ownsRow_lit (e := 3) (size := 1) w4 #[] 0 (Nat.le_refl _) (by unfold maxLen; omega) rfl, (Below.refl _ _).alloc (Nat.le_refl _) _⟩
  case round =>
    obtain ⟨i, hi9, rfl, rfl, HO, HBr⟩ := hrel
    have hwr : w4.heap.size ≤ wr.heap.size := HBr.out.size
    by_cases hlt : i < rl
    · obtain ⟨b, off, hA3, hbw, hc⟩ := R_4.out (by have := HRL.out; omega)
      subst hA3
      obtain ⟨q0, q1⟩ := hc i (by have := HRL.out; omega)
      have c0 := (HBr.out.cell (p := ⟨b, off + i * 2, none⟩) hbw).trans q0
      have c1 := (HBr.out.cell (p := ⟨b, off + i * 2 + 1, none⟩) hbw).trans q1
      obtain ⟨b2, off2, hA2, hbw2, hc2⟩ := I_4.out (by have := HM1.out; have := HLEN.out; omega)
      subst hA2
      have c2_ := (HBr.out.cell (p := ⟨b2, off2 + i, none⟩) hbw2).trans (hc2 i (by have := HM1.out; have := HLEN.out; omega))
      have hbr : b < wr.heap.size := by omega
      have hbr2 : b2 < wr.heap.size := by omega
      have hin2 : (i : Int) < (n2 : Int) := by have := HLEN.out; omega
      obtain ⟨r1, r2⟩ := HROW.out i (by have := HLEN.out; omega)
      rw [r1] at c0
      rw [← HN1.out] at r2
      have HST := Lib.hid (idW_step R i (by have := HRL.out; omega))
      obtain ⟨-, hbd1, hbd2⟩ := HBD.out i
      have HR2 := Lib.hid r2
      clear hc hc2 q0 q1 r1 r2
      have hfl : (idW (R.take i)).length ≤ i := by rw [idW_len]; exact List.length_take_le _ _
      generalize ys.getD i 0 = y at *
      generalize (R.getD i default).a = z at *
      generalize (mtc rs ys nx i).2 = m at *
      obtain ⟨m1, hm1⟩ : ∃ q, q = (mtc rs ys nx (i + 1)).2 := ⟨_, rfl⟩
      rw [← hm1] at HR2
      have HME := Lib.hid hm1
      clear hm1
      generalize idW (R.take i) = F at *
      go_wp2_with (at_builtin; refine wpList_append_own _ rfl _ _ 22 rfl w4.heap.size 3 i0 (.int .i64 0) 1 8 Try.underlying22 hi hz0 hz1 hz2 rfl (by decide) _ _ _ rfl (HO.out.alloc _) ⟨_, 0, none⟩ 1 1 [.int .i64 z] rfl rfl (cell_one_new _ _ _) ?c2 ?c3 ?c4 ?c5 ?_)
      case c2 => first | rfl | (intro u hu; simp at hu; subst hu; rfl)
      case c3 => unfold maxLen; omega
      case c4 => omega
      case c5 => first | omega | (simp; omega)
      intro v' w9 hown' hgrow _
      have hpos := (HO.out.alloc (.cells #[.int .i64 z] 3)).lt
      have HO' : Hid (OwnI w9 w4.heap.size v' (idW (R.take (i + 1)))) := by
        rw [HST.out]
        simpa [OwnI, Hid] using hown'
      have HB' := Lib.hid ((HBr.out.alloc hwr (.cells #[.int .i64 z] 3)).grown hgrow (by first | (simp; omega) | omega) (fun q hq => (hpos q hq).1))
      have hb9 : Below w9.heap.size w9 w9 := Below.refl _ _
      have d0 : w9.cell? ⟨b, off + i * 2, none⟩ = some (.int .i64 y) := by
        have e1 := (HB'.out.cell (p := ⟨b, off + i * 2, none⟩) hbw)
        have e2 := (HBr.out.cell (p := ⟨b, off + i * 2, none⟩) hbw)
        rw [e1, ← e2]; exact c0
      have d1 : w9.cell? ⟨b, off + i * 2 + 1, none⟩ = some (.int .i64 z) := by
        have e1 := (HB'.out.cell (p := ⟨b, off + i * 2 + 1, none⟩) hbw)
        have e2 := (HBr.out.cell (p := ⟨b, off + i * 2 + 1, none⟩) hbw)
        rw [e1, ← e2]; exact c1
      have d2 : w9.cell? ⟨b2, off2 + i, none⟩ = some (.int .i64 y) := by
        have e1 := (HB'.out.cell (p := ⟨b2, off2 + i, none⟩) hbw2)
        have e2 := (HBr.out.cell (p := ⟨b2, off2 + i, none⟩) hbw2)
        rw [e1, ← e2]; exact c2_
      have hw9 := HB'.out.size
      clear hown' hgrow hpos c0 c1 c2_ HO HBr hb9 HST hfl
      have hb9 : b < w9.heap.size := by omega
      have hb29 : b2 < w9.heap.size := by omega
      go_wp2
      go_loopw [13, 14] (fun x u wx => ∃ (k : Nat), k ≤ n1 ∧ u = .int .i64 k ∧ x = .int .i64 (lid rs y k) ∧ Hid (Below w9.heap.size w9 wx)) (fun _ u _ => n1 - (intOf u).toNat)
      case atStart => exact ⟨0, Nat.zero_le _, rfl, rfl, Below.refl _ _⟩
      case round =>
        obtain ⟨k, hk, rfl, rfl, HBx⟩ := hrel
        have f0 := (HBx.out.cell (p := ⟨b, off + i * 2, none⟩) hb9).trans d0
        have f1 := (HBx.out.cell (p := ⟨b, off + i * 2 + 1, none⟩) hb9).trans d1
        have f2 := (HBx.out.cell (p := ⟨b2, off2 + i, none⟩) hb29).trans d2
        have hwx := HBx.out.size
        by_cases hkt : k < n1
        · obtain ⟨b1, off1, hA1, hbw1, hc1⟩ := P_4.out (by have := HN1.out; omega)
          subst hA1
          obtain ⟨g0, g1⟩ := hc1 k (by have := HN1.out; omega)
          have e0 := (HBx.out.cell (p := ⟨b1, off1 + k * 2, none⟩) (show b1 < w9.heap.size by omega)).trans ((HB'.out.cell (p := ⟨b1, off1 + k * 2, none⟩) hbw1).trans g0)
          have e1 := (HBx.out.cell (p := ⟨b1, off1 + k * 2 + 1, none⟩) (show b1 < w9.heap.size by omega)).trans ((HB'.out.cell (p := ⟨b1, off1 + k * 2 + 1, none⟩) hbw1).trans g1)
          have hb1x : b1 < wr.heap.size := by omega
          have hbx : b < wr.heap.size := by omega
          have hlk : lid rs y (k + 1) = if (rs.getD k default).k = y then (rs.getD k default).a else lid rs y k := rfl
          have HLK := Lib.hid hlk
          clear hc1 g0 g1 hlk
          generalize (rs.getD k default).k = rk at *
          generalize (rs.getD k default).a = ra at *
          generalize lid rs y k = L0 at *
          by_cases hry : rk = y
          · have hee : (rk == y) = true := by simp [hry]
            have HL1 := Lib.hid (HLK.out.trans (if_pos hry))
            clear hry HLK
            have HX := Lib.hid HBx.out
            clear HBx d0 d1 d2
            go_wp2
            go_region
            go_wp2
            go_roundw
            case rel => exact ⟨k + 1, by omega, by go_num, by rw [HL1.out], HX.out.drew⟩
            case measure => simp [intOf]; omega
          · have hee : (rk == y) = false := by simp [hry]
            have HL1 := Lib.hid (HLK.out.trans (if_neg hry))
            clear hry HLK
            have HX := Lib.hid HBx.out
            clear HBx d0 d1 d2
            go_wp2
            go_region
            go_wp2
            go_roundw
            case rel => exact ⟨k + 1, by omega, by go_num, by rw [HL1.out], HX.out.drew⟩
            case measure => simp [intOf]; omega
        · obtain rfl : k = n1 := by omega
          have hr2 := HR2.out
          generalize lid rs y k = L0 at *
          have HBW := Lib.hid (HB'.out.trans (HBx.out.mono hw9))
          have HOW := Lib.hid (own_below HO'.out HBx.out)
          have hbx : b < wr.heap.size := by omega
          have hb2x : b2 < wr.heap.size := by omega
          have hyy : (y != y) = false := by simp
          have hzz : (z != z) = false := by simp
          clear HBx HO' HB' HR2 d0 d1 d2 hkt
          rcases hr2 with ⟨hl0, hz, hm⟩ | ⟨hl0, hz, hm⟩
          · subst hz
            have hwm : IntKind.i64.wrap (z + 1) = m1 := by rw [IntKind.wrap_i64] <;> omega
            have HM2 := Lib.hid hm
            clear hm
            go_wp2
            go_quiet (fail)
            go_wp2
            go_roundw
            case rel => exact ⟨i + 1, by omega, by go_num, by rw [← HME.out], HOW.out, drewN_below0 HBW.out⟩
            case measure => simp [intOf]; omega
          · subst hz
            subst hm
            go_wp2
            go_quiet (fail)
            go_wp2
            go_roundw
            case rel => exact ⟨i + 1, by omega, by go_num, by rw [← HME.out], HOW.out, drewN_below0 HBW.out⟩
            case measure => simp [intOf]; omega
    · obtain rfl : i = rl := by omega
      have hmq : R.take i = R := by rw [List.take_of_length_le (by have := HRL.out; omega)]
      rw [hmq] at HO
      have hfm := HFM.out
      rw [← HLEN.out] at hfm
      rw [← hfm]
      obtain ⟨w5, hwK⟩ : ∃ W, W = wr := ⟨_, rfl⟩
      rw [← hwK]
      rw [← hwK] at HO HBr hwr
      clear hwK hmq hfm
      have P_5 := Lib.hid (P_4.out.step HBr.out)
      clear P_4
      have I_5 := Lib.hid (I_4.out.step HBr.out)
      clear I_4
      have B_5 := Lib.hid (B_4.out.trans (HBr.out.mono B_4.out.size))
      clear B_4
      have R_5 := Lib.hid (R_4.out.step HBr.out)
      clear R_4
      have S_5 := Lib.hid (S_4.out.step HBr.out)
      clear S_4
      have ho := HO.out
      have hml : (idW R).length = i := by rw [idW_len]; exact HRL.out.symm
      generalize idW R = M at *
      obtain ⟨A5, c5, rfl, hI9⟩ := OwnI.form ho
      have HML := Lib.hid hml.symm
      rw [hml]
      have M_5 := Lib.hid (hI9)
      clear ho hI9 HO HBr hlt hml
      have hle : ((i : Int) == (n2 : Int)) = true := by rw [HLEN.out]; simp
      go_wp2_with fail
      refine (laws_noTwice A5 i c5 M w5 w5.heap.size (Nat.le_refl _) HML.out M_5.out (by omega) HND.out).mono ?_
      rintro e w9 ⟨rfl, rfl⟩
      go_wp2
      go_ret
      exact ⟨ret_b (by first | rfl | simp), B_5.out⟩
end Go.Proofs.Ytlbomopjldhmeaa
