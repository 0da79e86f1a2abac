/- laws.FnStaysOfMost returns true for all bytes, and writes nothing that was there. (Made by genpl.py.) -/
import Derived.Test.YtknnbajcabodoaaKD5
import Derived.Test.YtknnbajcabodoaaQ9
import Derived.Test.YtknnbajcabodoaaM22
import Derived.BigQuiet
import Derived.Deep.QuietTactic

namespace Go.Proofs.Ytknnbajcabodoaa
set_option linter.unusedSimpArgs false
set_option linter.unusedVariables false
open Go.RowKit

/-- Whether the first k keys that stay are on the same side of a key in both lists. -/
def sideB (xs ys S : List Int) (y : Int) (i j : Nat) : Bool := decide (plc xs (S.getD j 0) < plc xs y) == decide (plc ys (S.getD j 0) < (i : Int))
def sidesB (xs ys S : List Int) (y : Int) (i k : Nat) : Bool := (List.range k).all (sideB xs ys S y i)
theorem sidesB_succ (xs ys S : List Int) (y : Int) (i k : Nat) : sidesB xs ys S y i (k + 1) = (sidesB xs ys S y i k && sideB xs ys S y i k) := by
  unfold sidesB; rw [List.range_succ, List.all_append]; simp
theorem plc_inj (l : List Int) (x y : Int) (hx : x ∈ l) (hy : y ∈ l) (h : plc l x = plc l y) : x = y := by
  obtain ⟨p, hp, _, hpx⟩ := plc_index l x hx
  obtain ⟨q, hq, _, hqy⟩ := plc_index l y hy
  have : p = q := by omega
  subst this
  rw [← hpx, hqy]
theorem stays_most {xs ys : List Int} (h : bothK xs ys = true) (i : Nat) (hi : i < ys.length) (hx : ys.getD i 0 ∈ xs) (hs : ys.getD i 0 ∉ staysF xs ys) : sidesB xs ys (staysF xs ys) (ys.getD i 0) i (staysF xs ys).length = false := by
  obtain ⟨h1, h2⟩ := bothK_parts xs ys h
  have hy := (validK_parts h2).2.2
  have e1 : staysF xs ys = stK xs ys := by unfold staysF; rw [if_pos h]
  rw [e1] at hs ⊢
  have hr := stK_Ris xs ys hy
  have hmem : ys.getD i 0 ∈ ys := getD_memI ys i hi
  have hpi : plc ys (ys.getD i 0) = i := plc_nd ys hy i hi
  cases hb : sidesB xs ys (stK xs ys) (ys.getD i 0) i (stK xs ys).length
  · rfl
  · exfalso
    unfold sidesB at hb
    rw [List.all_eq_true] at hb
    obtain ⟨T, hT, hl, _⟩ := hr.more ⟨hx, hmem⟩ fun x hxs => by
      obtain ⟨j, hj, rfl⟩ := List.getElem_of_mem hxs
      have hb1 := hb j (by simpa using hj)
      unfold sideB at hb1
      rw [List.getD_eq_getElem?_getD, List.getElem?_eq_getElem hj, Option.getD_some, ← hpi] at hb1
      have hne : (stK xs ys)[j] ≠ ys.getD i 0 := fun e => hs (by rw [← e]; exact List.getElem_mem _)
      have hm := hr.2 _ (List.getElem_mem hj)
      have n1 : plc xs (stK xs ys)[j] ≠ plc xs (ys.getD i 0) := fun e => hne (plc_inj xs _ _ hm.1 hx e)
      have n2 : plc ys (stK xs ys)[j] ≠ plc ys (ys.getD i 0) := fun e => hne (plc_inj ys _ _ hm.2 hmem e)
      rw [hpi] at hb1 n2 ⊢
      rcases Int.lt_or_le (plc xs (stK xs ys)[j]) (plc xs (ys.getD i 0)) with g | g
      · rw [decide_eq_true g] at hb1
        left; exact ⟨g, by simpa using hb1⟩
      · rw [decide_eq_false (by omega)] at hb1
        right
        have : ¬ plc ys (stK xs ys)[j] < i := by simpa using hb1
        exact ⟨by omega, by omega⟩
    have := stK_max xs ys hy T hT
    omega
theorem staysF_symm {xs ys : List Int} (h : bothK xs ys = true) : (staysF ys xs).length = (staysF xs ys).length := by
  obtain ⟨h1, h2⟩ := bothK_parts xs ys h
  have hb2 : bothK ys xs = true := by unfold bothK; rw [h1, h2]; rfl
  unfold staysF
  rw [if_pos h, if_pos hb2]
  exact stK_symm xs ys (validK_parts h1).2.2 (validK_parts h2).2.2

set_option maxRecDepth 100000 in
set_option maxHeartbeats 6400000 in
theorem plaw_StaysOfMost (A : Option Addr) (n c : Nat) (bs : List Int) (w : World) (hn : n = bs.length) (hnc : n ≤ c) (h : BS w w.heap.size A bs) (hy : BY bs) (hm : n ≤ 9223372036854775807) :
    Calls Try.prog 4 #[.slice A n c] w fun e w' => e = .returned (.bool true) ∧ Below w.heap.size w w' := by
  by_cases hs : 1048576 < n
  · clear hn hnc h hy
    go_enter Try.func4, Try.ntmps4
    go_wp2
    go_ret
    exact ⟨rfl, Below.refl _ _⟩
  have HC := Lib.hid (spec_DrawStaysOf A n c bs w hn hnc h hy (by omega))
  clear hn hnc h hy
  go_enter Try.func4, Try.ntmps4
  go_wp2_with fail
  refine HC.out.mono ?_
  rintro e w1 ⟨A1, n1, c1, xs, A2, n2, c2, ys, rfl, h1, hn11, hnc1, h4, hn21, hnc2, hI1, hI2, hb⟩
  have HN1 := Lib.hid h1
  have HM1 := Lib.hid h4
  have P_1 := Lib.hid (hI1)
  have I_1 := Lib.hid (hI2)
  have B_1 := Lib.hid (hb)
  clear h1 h4 hI1 hI2 hb HC
  have HVA := Lib.hid fun (w' : World) (h : IS w' w'.heap.size A1 xs) => impl_ValidKeys A1 n1 c1 xs w' w'.heap.size (Nat.le_refl _) HN1.out hnc1 h (by omega)
  have HVB := Lib.hid fun (w' : World) (h : IS w' w'.heap.size A2 ys) => impl_ValidKeys A2 n2 c2 ys w' w'.heap.size (Nat.le_refl _) HM1.out hnc2 h (by omega)
  have HIM := Lib.hid fun (w' : World) (h : IS w' w'.heap.size A1 xs) (h' : IS w' w'.heap.size A2 ys) => top_impl_StaysOf xs ys (by have := HN1.out; omega) (by have := HM1.out; omega) A1 n1 c1 A2 n2 c2 w' HN1.out hnc1 h HM1.out hnc2 h'
  have HSP := Lib.hid fun (w' : World) (h : IS w' w'.heap.size A1 xs) (h' : IS w' w'.heap.size A2 ys) => top_spec_StaysOf xs ys (by have := HN1.out; omega) (by have := HM1.out; omega) A1 n1 c1 A2 n2 c2 w' HN1.out hnc1 h HM1.out hnc2 h'
  have HBA := Lib.hid fun (w' : World) (h : IS w' w'.heap.size A1 xs) (h' : IS w' w'.heap.size A2 ys) => top_impl_StaysOf ys xs (by have := HM1.out; omega) (by have := HN1.out; omega) A2 n2 c2 A1 n1 c1 w' HM1.out hnc2 h' HN1.out hnc1 h
  have hrl := staysF_len xs ys
  have HF := Lib.hid (stays_most (xs := xs) (ys := ys))
  have HF2 := Lib.hid (staysF_symm (xs := xs) (ys := ys))
  unfold bothK at HF HF2
  generalize staysF ys xs = R2 at *
  generalize staysF xs ys = R at *
  generalize validK xs = va at *
  generalize validK ys = vb at *
  go_wp2_with fail
  refine (HIM.out w1 P_1.out I_1.out).mono ?_
  rintro e w2 ⟨v, rfl, ho, hb⟩
  obtain ⟨A3, c3, rfl⟩ := OwK.form ho
  have hI9 := OwK.ints ho
  have P_2 := Lib.hid (P_1.out.step hb)
  clear P_1
  have I_2 := Lib.hid (I_1.out.step hb)
  clear I_1
  have B_2 := Lib.hid (B_1.out.trans (hb.mono B_1.out.size))
  clear B_1
  clear hb
  obtain ⟨rl, hrl2⟩ : ∃ l, l = R.length := ⟨_, rfl⟩
  have HRL := Lib.hid hrl2
  have R_2 := Lib.hid (hI9)
  clear ho hI9
  rw [← hrl2] at hrl
  rw [← hrl2]
  clear hrl2
  go_wp2_with fail
  refine (HSP.out w2 P_2.out I_2.out).mono ?_
  rintro e w3 ⟨v, rfl, ho, hb⟩
  obtain ⟨A4, c4, rfl⟩ := OwK.form ho
  have hI9 := OwK.ints ho
  have P_3 := Lib.hid (P_2.out.step hb)
  clear P_2
  have I_3 := Lib.hid (I_2.out.step hb)
  clear I_2
  have B_3 := Lib.hid (B_2.out.trans (hb.mono B_2.out.size))
  clear B_2
  have R_3 := Lib.hid (R_2.out.step hb)
  clear R_2
  clear hb
  rw [← HRL.out]
  have HEQ := Lib.hid (laws_equalInts A3 A4 rl rl c3 c4 R R w3 w3.heap.size (Nat.le_refl _) HRL.out HRL.out R_3.out hI9 (by omega) (by omega))
  rw [show decide (R = R) = true from decide_eq_true rfl] at HEQ
  clear ho hI9
  go_wp2_with fail
  refine (HEQ.out).mono ?_
  rintro e w4 ⟨rfl, hb⟩
  have P_4 := Lib.hid (P_3.out.step hb)
  clear P_3
  have I_4 := Lib.hid (I_3.out.step hb)
  clear I_3
  have B_4 := Lib.hid (B_3.out.trans (hb.mono B_3.out.size))
  clear B_3
  have R_4 := Lib.hid (R_3.out.step hb)
  clear R_3
  clear hb
  clear HEQ
  go_wp2_with fail
  refine (HVA.out w4 P_4.out).mono ?_
  rintro e w5 ⟨rfl, hb⟩
  have P_5 := Lib.hid (P_4.out.step hb)
  clear P_4
  have I_5 := Lib.hid (I_4.out.step hb)
  clear I_4
  have B_5 := Lib.hid (B_4.out.trans (hb.mono B_4.out.size))
  clear B_4
  have R_5 := Lib.hid (R_4.out.step hb)
  clear R_4
  clear hb
  cases va
  · skip
    go_wp2_with fail
    refine (HSP.out w5 P_5.out I_5.out).mono ?_
    rintro e w6 ⟨v, rfl, ho, hb⟩
    obtain ⟨A4, c4, rfl⟩ := OwK.form ho
    have hI9 := OwK.ints ho
    have P_6 := Lib.hid (P_5.out.step hb)
    clear P_5
    have I_6 := Lib.hid (I_5.out.step hb)
    clear I_5
    have B_6 := Lib.hid (B_5.out.trans (hb.mono B_5.out.size))
    clear B_5
    have R_6 := Lib.hid (R_5.out.step hb)
    clear R_5
    clear hb
    rw [← HRL.out]
    have HEQ := Lib.hid (laws_equalInts A3 A4 rl rl c3 c4 R R w6 w6.heap.size (Nat.le_refl _) HRL.out HRL.out R_6.out hI9 (by omega) (by omega))
    rw [show decide (R = R) = true from decide_eq_true rfl] at HEQ
    clear ho hI9
    go_wp2_with fail
    refine (HEQ.out).mono ?_
    rintro e w7 ⟨rfl, hb⟩
    have P_7 := Lib.hid (P_6.out.step hb)
    clear P_6
    have I_7 := Lib.hid (I_6.out.step hb)
    clear I_6
    have B_7 := Lib.hid (B_6.out.trans (hb.mono B_6.out.size))
    clear B_6
    have R_7 := Lib.hid (R_6.out.step hb)
    clear R_6
    clear hb
    clear HEQ
    go_wp2
    go_ret
    exact ⟨rfl, B_7.out⟩
  go_wp2_with fail
  refine (HVB.out w5 I_5.out).mono ?_
  rintro e w6 ⟨rfl, hb⟩
  have P_6 := Lib.hid (P_5.out.step hb)
  clear P_5
  have I_6 := Lib.hid (I_5.out.step hb)
  clear I_5
  have B_6 := Lib.hid (B_5.out.trans (hb.mono B_5.out.size))
  clear B_5
  have R_6 := Lib.hid (R_5.out.step hb)
  clear R_5
  clear hb
  cases vb
  · skip
    go_wp2_with fail
    refine (HSP.out w6 P_6.out I_6.out).mono ?_
    rintro e w7 ⟨v, rfl, ho, hb⟩
    obtain ⟨A4, c4, rfl⟩ := OwK.form ho
    have hI9 := OwK.ints ho
    have P_7 := Lib.hid (P_6.out.step hb)
    clear P_6
    have I_7 := Lib.hid (I_6.out.step hb)
    clear I_6
    have B_7 := Lib.hid (B_6.out.trans (hb.mono B_6.out.size))
    clear B_6
    have R_7 := Lib.hid (R_6.out.step hb)
    clear R_6
    clear hb
    rw [← HRL.out]
    have HEQ := Lib.hid (laws_equalInts A3 A4 rl rl c3 c4 R R w7 w7.heap.size (Nat.le_refl _) HRL.out HRL.out R_7.out hI9 (by omega) (by omega))
    rw [show decide (R = R) = true from decide_eq_true rfl] at HEQ
    clear ho hI9
    go_wp2_with fail
    refine (HEQ.out).mono ?_
    rintro e w8 ⟨rfl, hb⟩
    have P_8 := Lib.hid (P_7.out.step hb)
    clear P_7
    have I_8 := Lib.hid (I_7.out.step hb)
    clear I_7
    have B_8 := Lib.hid (B_7.out.trans (hb.mono B_7.out.size))
    clear B_7
    have R_8 := Lib.hid (R_7.out.step hb)
    clear R_7
    clear hb
    clear HEQ
    go_wp2
    go_ret
    exact ⟨rfl, B_8.out⟩
  have HF1 := Lib.hid (HF.out rfl)
  have HFS := Lib.hid ((HF2.out rfl).trans HRL.out.symm)
  clear HF HF2
  go_wp2
  go_loopw [6] (fun v wr => ∃ i : Nat, i ≤ n2 ∧ v = .int .i64 i ∧ Hid (Below w6.heap.size w6 wr)) (fun v _ => n2 - (intOf v).toNat)
  case atStart => exact ⟨0, Nat.zero_le _, rfl, Below.refl _ _⟩
  case round =>
    obtain ⟨i, hi, rfl, HBr⟩ := hrel
    obtain ⟨w7, hwK⟩ : ∃ W, W = wr := ⟨_, rfl⟩
    rw [← hwK]
    rw [← hwK] at HBr
    clear hwK
    have P_7 := Lib.hid (P_6.out.step HBr.out)
    clear P_6
    have I_7 := Lib.hid (I_6.out.step HBr.out)
    clear I_6
    have B_7 := Lib.hid (B_6.out.trans (HBr.out.mono B_6.out.size))
    clear B_6
    have R_7 := Lib.hid (R_6.out.step HBr.out)
    clear R_6
    by_cases hlt : i < n2
    · obtain ⟨b2, off2, hA2, hbw2, hc2⟩ := I_7.out (by have := HM1.out; omega)
      subst hA2
      have d0 := hc2 i (by have := HM1.out; omega)
      have HMOST := Lib.hid (HF1.out i (by have := HM1.out; omega))
      clear hc2
      generalize ys.getD i 0 = y at *
      have HI1 := Lib.hid (laws_isIn A3 rl c3 R y w7 w7.heap.size (Nat.le_refl _) HRL.out R_7.out (by omega))
      have HI2 := Lib.hid (laws_isIn A1 n1 c1 xs y w7 w7.heap.size (Nat.le_refl _) HN1.out P_7.out (by omega))
      by_cases hy1 : y ∈ R
      · rw [decide_eq_true hy1] at HI1
        go_wp2_with fail
        refine HI1.out.mono ?_
        rintro e w9 ⟨rfl, rfl⟩
        go_wp2
        go_roundw
        case rel => exact ⟨i + 1, by omega, by go_num, HBr.out⟩
        case measure => simp [intOf]; omega
      by_cases hy2 : y ∈ xs
      case neg =>
        rw [decide_eq_false hy1] at HI1
        rw [decide_eq_false hy2] at HI2
        go_wp2_with fail
        refine HI1.out.mono ?_
        rintro e w9 ⟨rfl, rfl⟩
        go_wp2_with fail
        refine HI2.out.mono ?_
        rintro e w9 ⟨rfl, rfl⟩
        go_wp2
        go_roundw
        case rel => exact ⟨i + 1, by omega, by go_num, HBr.out⟩
        case measure => simp [intOf]; omega
      rw [decide_eq_false hy1] at HI1
      rw [decide_eq_true hy2] at HI2
      have HMF := Lib.hid (HMOST.out hy2 hy1)
      clear HMOST hy1 hy2
      go_wp2_with fail
      refine HI1.out.mono ?_
      rintro e w9 ⟨rfl, rfl⟩
      go_wp2_with fail
      refine HI2.out.mono ?_
      rintro e w9 ⟨rfl, rfl⟩
      go_wp2
      go_loopw [7, 8] (fun u v wr => ∃ k : Nat, k ≤ rl ∧ v = .int .i64 k ∧ u = .bool (sidesB xs ys R y i k) ∧ Hid (Below w7.heap.size w7 wr)) (fun _ v _ => rl - (intOf v).toNat)
      case atStart => exact ⟨0, Nat.zero_le _, rfl, rfl, Below.refl _ _⟩
      case round =>
        obtain ⟨k, hk, rfl, rfl, HBi⟩ := hrel
        obtain ⟨w8, hwK⟩ : ∃ W, W = wr := ⟨_, rfl⟩
        rw [← hwK]
        rw [← hwK] at HBi
        clear hwK
        have P_8 := Lib.hid (P_7.out.step HBi.out)
        clear P_7
        have I_8 := Lib.hid (I_7.out.step HBi.out)
        clear I_7
        have B_8 := Lib.hid (B_7.out.trans (HBi.out.mono B_7.out.size))
        clear B_7
        have R_8 := Lib.hid (R_7.out.step HBi.out)
        clear R_7
        by_cases hlt2 : k < rl
        · obtain ⟨b, off, hA3, hbw, hc⟩ := R_8.out (by have := HRL.out; omega)
          subst hA3
          have e0 := hc k (by have := HRL.out; omega)
          have d1 := (HBi.out.cell (p := ⟨b2, off2 + i, none⟩) hbw2).trans d0
          have HSU := Lib.hid (sidesB_succ xs ys R y i k)
          have HSD := Lib.hid (show sideB xs ys R y i k = (decide (plc xs (R.getD k 0) < plc xs y) == decide (plc ys (R.getD k 0) < (i : Int))) from rfl)
          clear hc d0
          generalize R.getD k 0 = x at *
          have HQ1 := Lib.hid fun (q : Nat) => laws_place A1 n1 c1 xs x (w8.drewN q) w8.heap.size (Nat.le_refl _) HN1.out P_8.out (by omega)
          have HQ2 := Lib.hid fun (q : Nat) => laws_place A1 n1 c1 xs y (w8.drewN q) w8.heap.size (Nat.le_refl _) HN1.out P_8.out (by omega)
          have HQ3 := Lib.hid fun (q : Nat) => laws_place (some ⟨b2, off2, none⟩) n2 c2 ys x (w8.drewN q) w8.heap.size (Nat.le_refl _) HM1.out I_8.out (by omega)
          generalize plc xs x = px at *
          generalize plc xs y = py at *
          generalize plc ys x = qx at *
          generalize hsd : sidesB xs ys R y i k = t at *
          clear hsd
          cases t
          · have HN3 : Hid (sidesB xs ys R y i (k + 1) = false) := by rw [HSU.out]; rfl
            clear HSU HSD
            go_wp2
            go_quiet (first | (go_at_call 13; first | (with_reducible refine Calls.mono (HQ1.out _) ?_; exact fun e w' h => ⟨h.1, _, h.2.symm⟩) | (with_reducible refine Calls.mono (HQ2.out _) ?_; exact fun e w' h => ⟨h.1, _, h.2.symm⟩) | (with_reducible refine Calls.mono (HQ3.out _) ?_; exact fun e w' h => ⟨h.1, _, h.2.symm⟩)))
            go_wp2
            go_round
            case rel => exact ⟨k + 1, by omega, by go_num, by first | (rw [HN3.out]; done) | (rw [HN3.out]; simp [*]; done) | (rw [HN3.out]; simp; omega), drewN_below0 HBi.out⟩
            case measure => simp [intOf]; omega
          by_cases g1 : px < py
          · by_cases g2 : qx < (i : Int)
            · have HN3 : Hid (sidesB xs ys R y i (k + 1) = true) := by rw [HSU.out, HSD.out, decide_eq_true g1, decide_eq_true g2]; rfl
              clear HSU HSD
              go_wp2
              go_quiet (first | (go_at_call 13; first | (with_reducible refine Calls.mono (HQ1.out _) ?_; exact fun e w' h => ⟨h.1, _, h.2.symm⟩) | (with_reducible refine Calls.mono (HQ2.out _) ?_; exact fun e w' h => ⟨h.1, _, h.2.symm⟩) | (with_reducible refine Calls.mono (HQ3.out _) ?_; exact fun e w' h => ⟨h.1, _, h.2.symm⟩)))
              go_wp2
              go_round
              case rel => exact ⟨k + 1, by omega, by go_num, by first | (rw [HN3.out]; done) | (rw [HN3.out]; simp [*]; done) | (rw [HN3.out]; simp; omega), drewN_below0 HBi.out⟩
              case measure => simp [intOf]; omega
            · have HN3 : Hid (sidesB xs ys R y i (k + 1) = false) := by rw [HSU.out, HSD.out, decide_eq_true g1, decide_eq_false g2]; rfl
              clear HSU HSD
              go_wp2
              go_quiet (first | (go_at_call 13; first | (with_reducible refine Calls.mono (HQ1.out _) ?_; exact fun e w' h => ⟨h.1, _, h.2.symm⟩) | (with_reducible refine Calls.mono (HQ2.out _) ?_; exact fun e w' h => ⟨h.1, _, h.2.symm⟩) | (with_reducible refine Calls.mono (HQ3.out _) ?_; exact fun e w' h => ⟨h.1, _, h.2.symm⟩)))
              go_wp2
              go_round
              case rel => exact ⟨k + 1, by omega, by go_num, by first | (rw [HN3.out]; done) | (rw [HN3.out]; simp [*]; done) | (rw [HN3.out]; simp; omega), drewN_below0 HBi.out⟩
              case measure => simp [intOf]; omega
          · by_cases g2 : qx < (i : Int)
            · have HN3 : Hid (sidesB xs ys R y i (k + 1) = false) := by rw [HSU.out, HSD.out, decide_eq_false g1, decide_eq_true g2]; rfl
              clear HSU HSD
              go_wp2
              go_quiet (first | (go_at_call 13; first | (with_reducible refine Calls.mono (HQ1.out _) ?_; exact fun e w' h => ⟨h.1, _, h.2.symm⟩) | (with_reducible refine Calls.mono (HQ2.out _) ?_; exact fun e w' h => ⟨h.1, _, h.2.symm⟩) | (with_reducible refine Calls.mono (HQ3.out _) ?_; exact fun e w' h => ⟨h.1, _, h.2.symm⟩)))
              go_wp2
              go_round
              case rel => exact ⟨k + 1, by omega, by go_num, by first | (rw [HN3.out]; done) | (rw [HN3.out]; simp [*]; done) | (rw [HN3.out]; simp; omega), drewN_below0 HBi.out⟩
              case measure => simp [intOf]; omega
            · have HN3 : Hid (sidesB xs ys R y i (k + 1) = true) := by rw [HSU.out, HSD.out, decide_eq_false g1, decide_eq_false g2]; rfl
              clear HSU HSD
              go_wp2
              go_quiet (first | (go_at_call 13; first | (with_reducible refine Calls.mono (HQ1.out _) ?_; exact fun e w' h => ⟨h.1, _, h.2.symm⟩) | (with_reducible refine Calls.mono (HQ2.out _) ?_; exact fun e w' h => ⟨h.1, _, h.2.symm⟩) | (with_reducible refine Calls.mono (HQ3.out _) ?_; exact fun e w' h => ⟨h.1, _, h.2.symm⟩)))
              go_wp2
              go_round
              case rel => exact ⟨k + 1, by omega, by go_num, by first | (rw [HN3.out]; done) | (rw [HN3.out]; simp [*]; done) | (rw [HN3.out]; simp; omega), drewN_below0 HBi.out⟩
              case measure => simp [intOf]; omega
        · obtain rfl : k = rl := by omega
          have hff : sidesB xs ys R y i k = false := by have := HMF.out; rw [← HRL.out] at this; exact this
          rw [hff]
          clear hff
          have HBo := Lib.hid (HBr.out.trans (HBi.out.mono HBr.out.size))
          go_wp2
          go_roundw
          case rel => exact ⟨i + 1, by omega, by go_num, HBo.out⟩
          case measure => simp [intOf]; omega
    · skip
      have hlt3 : ¬ ((i : Int) < (n2 : Int)) := by omega
      go_wp2_with fail
      refine (HBA.out w7 P_7.out I_7.out).mono ?_
      rintro e w8 ⟨v, rfl, ho, hb⟩
      obtain ⟨A5, c5, rfl⟩ := OwK.form ho
      have hI9 := OwK.ints ho
      rw [HFS.out]
      clear ho hI9
      have P_8 := Lib.hid (P_7.out.step hb)
      clear P_7
      have I_8 := Lib.hid (I_7.out.step hb)
      clear I_7
      have B_8 := Lib.hid (B_7.out.trans (hb.mono B_7.out.size))
      clear B_7
      have R_8 := Lib.hid (R_7.out.step hb)
      clear R_7
      clear hb
      have hee : ((rl : Int) == (rl : Int)) = true := by simp
      go_wp2
      go_ret
      exact ⟨ret_b (by simp), B_8.out⟩
end Go.Proofs.Ytknnbajcabodoaa
