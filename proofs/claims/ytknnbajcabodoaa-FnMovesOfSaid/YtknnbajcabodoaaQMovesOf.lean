/- laws.FnMovesOf returns true for all bytes, and writes nothing that was there. (Made by genpl.py.) -/
import Derived.Test.YtknnbajcabodoaaKD5
import Derived.Test.YtknnbajcabodoaaQ5
import Derived.Test.YtknnbajcabodoaaM22
import Derived.BigQuiet
import Derived.Deep.QuietTactic
import Derived.Test.YtknnbajcabodoaaM23

namespace Go.Proofs.Ytknnbajcabodoaa
set_option linter.unusedSimpArgs false
set_option linter.unusedVariables false
open Go.RowKit

theorem movesF_neg {xs ys : List Int} (h : ¬ movesF xs ys < 0) : validK xs = true ∧ validK ys = true := by
  unfold movesF at h
  split at h
  · rename_i hb; exact bothK_parts _ _ hb
  · omega
theorem movesF_facts {xs ys : List Int} (h1 : validK xs = true) (h2 : validK ys = true) : movesF xs ys = ((inK xs ys).length : Int) - ((staysF xs ys).length : Int) ∧ movesF ys xs = movesF xs ys ∧ movesF xs xs = 0 := by
  have hb : bothK xs ys = true := by unfold bothK; rw [h1, h2]; rfl
  have hb2 : bothK ys xs = true := by unfold bothK; rw [h1, h2]; rfl
  have hb3 : bothK xs xs = true := by unfold bothK; rw [h1]; rfl
  have hx := (validK_parts h1).2.2
  have hy := (validK_parts h2).2.2
  have hi : inK xs xs = xs := by unfold inK; rw [List.filter_eq_self]; intro x hx; simpa using hx
  unfold movesF staysF
  rw [if_pos hb, if_pos hb2, if_pos hb, if_pos hb3, stK_symm xs ys hx hy, inK_symm_len xs ys hx hy, stK_self xs hx, hi]
  exact ⟨rfl, rfl, by omega⟩

set_option maxRecDepth 100000 in
set_option maxHeartbeats 6400000 in
theorem plaw_MovesOf (A : Option Addr) (n c : Nat) (bs : List Int) (w : World) (hn : n = bs.length) (hnc : n ≤ c) (h : BS w w.heap.size A bs) (hy : BY bs) (hm : n ≤ 9223372036854775807) :
    Calls Try.prog 5 #[.slice A n c] w fun e w' => e = .returned (.bool true) ∧ Below w.heap.size w w' := by
  by_cases hs : 1048576 < n
  · clear hn hnc h hy
    go_enter Try.func5, Try.ntmps5
    go_wp2
    go_ret
    exact ⟨rfl, Below.refl _ _⟩
  have HC := Lib.hid (spec_DrawMovesOf A n c bs w hn hnc h hy (by omega))
  clear hn hnc h hy
  go_enter Try.func5, Try.ntmps5
  go_wp2_with fail
  refine HC.out.mono ?_
  rintro e w1 ⟨A1, n1, c1, xs, A2, n2, c2, ys, rfl, h1, hn11, hnc1, h4, hn21, hnc2, hI1, hI2, hb⟩
  have HN1 := Lib.hid h1
  have HM1 := Lib.hid h4
  have P_1 := Lib.hid (hI1)
  have I_1 := Lib.hid (hI2)
  have B_1 := Lib.hid (hb)
  clear h1 h4 hI1 hI2 hb HC
  have HVA := Lib.hid fun (w' : World) (h : IS w' w'.heap.size A1 xs) => impl_ValidKeys A1 n1 c1 xs w' w'.heap.size (Nat.le_refl _) HN1.out hnc1 h (by omega)
  have HVB := Lib.hid fun (w' : World) (h : IS w' w'.heap.size A2 ys) => impl_ValidKeys A2 n2 c2 ys w' w'.heap.size (Nat.le_refl _) HM1.out hnc2 h (by omega)
  have HIM := Lib.hid fun (w' : World) (h : IS w' w'.heap.size A1 xs) (h' : IS w' w'.heap.size A2 ys) => top_impl_MovesOf xs ys (by have := HN1.out; omega) (by have := HM1.out; omega) A1 n1 c1 A2 n2 c2 w' HN1.out hnc1 h HM1.out hnc2 h'
  have HSP := Lib.hid fun (w' : World) (h : IS w' w'.heap.size A1 xs) (h' : IS w' w'.heap.size A2 ys) => top_spec_MovesOf xs ys (by have := HN1.out; omega) (by have := HM1.out; omega) A1 n1 c1 A2 n2 c2 w' HN1.out hnc1 h HM1.out hnc2 h'
  have HBA := Lib.hid fun (w' : World) (h : IS w' w'.heap.size A1 xs) (h' : IS w' w'.heap.size A2 ys) => top_impl_MovesOf ys xs (by have := HM1.out; omega) (by have := HN1.out; omega) A2 n2 c2 A1 n1 c1 w' HM1.out hnc2 h' HN1.out hnc1 h
  have HST := Lib.hid fun (w' : World) (h : IS w' w'.heap.size A1 xs) (h' : IS w' w'.heap.size A2 ys) => top_impl_StaysOf xs ys (by have := HN1.out; omega) (by have := HM1.out; omega) A1 n1 c1 A2 n2 c2 w' HN1.out hnc1 h HM1.out hnc2 h'
  have HAA := Lib.hid fun (w' : World) (h : IS w' w'.heap.size A1 xs) (h' : IS w' w'.heap.size A2 ys) => top_impl_MovesOf xs xs (by have := HN1.out; omega) (by have := HN1.out; omega) A1 n1 c1 A1 n1 c1 w' HN1.out hnc1 h HN1.out hnc1 h
  have HN_ := Lib.hid (movesF_neg (xs := xs) (ys := ys))
  have HF := Lib.hid (movesF_facts (xs := xs) (ys := ys))
  generalize movesF xs xs = F3 at *
  generalize movesF ys xs = F2 at *
  generalize movesF xs ys = F at *
  have hff : (F != F) = false := by simp
  by_cases hneg : F < 0
  · skip
    go_wp2_with fail
    refine (HIM.out w1 P_1.out I_1.out).mono ?_
    rintro e w2 ⟨rfl, hb⟩
    have P_2 := Lib.hid (P_1.out.step hb)
    clear P_1
    have I_2 := Lib.hid (I_1.out.step hb)
    clear I_1
    have B_2 := Lib.hid (B_1.out.trans (hb.mono B_1.out.size))
    clear B_1
    clear hb
    go_wp2_with fail
    refine (HSP.out w2 P_2.out I_2.out).mono ?_
    rintro e w3 ⟨rfl, hb⟩
    have P_3 := Lib.hid (P_2.out.step hb)
    clear P_2
    have I_3 := Lib.hid (I_2.out.step hb)
    clear I_2
    have B_3 := Lib.hid (B_2.out.trans (hb.mono B_2.out.size))
    clear B_2
    clear hb
    go_wp2_with fail
    refine (HSP.out w3 P_3.out I_3.out).mono ?_
    rintro e w4 ⟨rfl, hb⟩
    have P_4 := Lib.hid (P_3.out.step hb)
    clear P_3
    have I_4 := Lib.hid (I_3.out.step hb)
    clear I_3
    have B_4 := Lib.hid (B_3.out.trans (hb.mono B_3.out.size))
    clear B_3
    clear hb
    go_wp2
    go_ret
    exact ⟨ret_b (by simp), B_4.out⟩
  obtain ⟨hva, hvb⟩ := HN_.out hneg
  obtain ⟨hf1, hf2, hf3⟩ := HF.out hva hvb
  subst hf2 hf3
  generalize staysF xs ys = R at *
  obtain ⟨rl, hrl2⟩ : ∃ l, l = R.length := ⟨_, rfl⟩
  rw [← hrl2] at hf1
  have HF1 := Lib.hid hf1
  have HRL := Lib.hid hrl2
  clear HF HN_ hva hvb hf1 hrl2
  go_wp2_with fail
  refine (HIM.out w1 P_1.out I_1.out).mono ?_
  rintro e w2 ⟨rfl, hb⟩
  have P_2 := Lib.hid (P_1.out.step hb)
  clear P_1
  have I_2 := Lib.hid (I_1.out.step hb)
  clear I_1
  have B_2 := Lib.hid (B_1.out.trans (hb.mono B_1.out.size))
  clear B_1
  clear hb
  go_wp2_with fail
  refine (HSP.out w2 P_2.out I_2.out).mono ?_
  rintro e w3 ⟨rfl, hb⟩
  have P_3 := Lib.hid (P_2.out.step hb)
  clear P_2
  have I_3 := Lib.hid (I_2.out.step hb)
  clear I_2
  have B_3 := Lib.hid (B_2.out.trans (hb.mono B_2.out.size))
  clear B_2
  clear hb
  go_wp2
  go_loopw [6, 7] (fun u i wr => ∃ k : Nat, k ≤ n1 ∧ i = .int .i64 k ∧ u = .int .i64 ((inK (xs.take k) ys).length : Nat) ∧ Hid (Below w3.heap.size w3 wr)) (fun _ i _ => n1 - (intOf i).toNat)
  case atStart => exact ⟨0, Nat.zero_le _, rfl, by simp [inK], Below.refl _ _⟩
  case round =>
    obtain ⟨k, hk, rfl, rfl, HBr⟩ := hrel
    obtain ⟨w4, hwK⟩ : ∃ W, W = wr := ⟨_, rfl⟩
    rw [← hwK]
    rw [← hwK] at HBr
    clear hwK
    have P_4 := Lib.hid (P_3.out.step HBr.out)
    clear P_3
    have I_4 := Lib.hid (I_3.out.step HBr.out)
    clear I_3
    have B_4 := Lib.hid (B_3.out.trans (HBr.out.mono B_3.out.size))
    clear B_3
    have hil : (inK (xs.take k) ys).length ≤ 11 := by have := inK_len (xs.take k) ys; rw [List.length_take] at this; omega
    by_cases hlt : k < n1
    · obtain ⟨b, off, hA1, hbw, hc⟩ := P_4.out (by have := HN1.out; omega)
      subst hA1
      have c0 := hc k (by have := HN1.out; omega)
      have HST1 := Lib.hid (inK_step xs ys k (by have := HN1.out; omega))
      clear hc
      generalize xs.getD k 0 = y at *
      obtain ⟨m, hm⟩ : ∃ m, m = (inK (xs.take k) ys).length := ⟨_, rfl⟩
      have HMM := Lib.hid hm
      rw [← hm] at hil ⊢
      clear hm
      have HI1 := Lib.hid (laws_isIn A2 n2 c2 ys y w4 w4.heap.size (Nat.le_refl _) HM1.out I_4.out (by omega))
      by_cases hy : y ∈ ys
      · rw [decide_eq_true hy] at HI1
        have HM2 : Hid ((inK (xs.take (k + 1)) ys).length = m + 1) := by rw [HST1.out, if_pos hy]; rw [List.length_append, ← HMM.out]; rfl
        clear hy HST1
        go_wp2_with fail
        refine HI1.out.mono ?_
        rintro e w9 ⟨rfl, rfl⟩
        go_wp2
        go_roundw
        case rel => exact ⟨k + 1, by omega, by go_num, by rw [HM2.out]; go_num, HBr.out⟩
        case measure => simp [intOf]; omega
      · rw [decide_eq_false hy] at HI1
        have HM2 : Hid ((inK (xs.take (k + 1)) ys).length = m) := by rw [HST1.out, if_neg hy]; exact HMM.out.symm
        clear hy HST1
        go_wp2_with fail
        refine HI1.out.mono ?_
        rintro e w9 ⟨rfl, rfl⟩
        go_wp2
        go_roundw
        case rel => exact ⟨k + 1, by omega, by go_num, by rw [HM2.out], HBr.out⟩
        case measure => simp [intOf]; omega
    · obtain rfl : k = n1 := by omega
      have htk : xs.take k = xs := List.take_of_length_le (by have := HN1.out; omega)
      rw [htk] at hil ⊢
      generalize (inK xs ys).length = N at *
      have hwf : IntKind.i64.wrap ((N : Int) - (rl : Int)) = F2 := by rw [HF1.out, IntKind.wrap_i64]; have := HF1.out; omega
      have hgg : (F2 == F2) = true := by simp
      clear htk
      go_wp2_with fail
      refine (HST.out w4 P_4.out I_4.out).mono ?_
      rintro e w5 ⟨v, rfl, ho, hb⟩
      obtain ⟨A3, c3, rfl⟩ := OwK.form ho
      have hI9 := OwK.ints ho
      rw [← HRL.out]
      clear ho hI9
      have P_5 := Lib.hid (P_4.out.step hb)
      clear P_4
      have I_5 := Lib.hid (I_4.out.step hb)
      clear I_4
      have B_5 := Lib.hid (B_4.out.trans (hb.mono B_4.out.size))
      clear B_4
      clear hb
      go_wp2_with fail
      refine (HBA.out w5 P_5.out I_5.out).mono ?_
      rintro e w6 ⟨rfl, hb⟩
      have P_6 := Lib.hid (P_5.out.step hb)
      clear P_5
      have I_6 := Lib.hid (I_5.out.step hb)
      clear I_5
      have B_6 := Lib.hid (B_5.out.trans (hb.mono B_5.out.size))
      clear B_5
      clear hb
      go_wp2_with fail
      refine (HAA.out w6 P_6.out I_6.out).mono ?_
      rintro e w7 ⟨rfl, hb⟩
      have P_7 := Lib.hid (P_6.out.step hb)
      clear P_6
      have I_7 := Lib.hid (I_6.out.step hb)
      clear I_6
      have B_7 := Lib.hid (B_6.out.trans (hb.mono B_6.out.size))
      clear B_6
      clear hb
      go_wp2
      go_ret
      exact ⟨ret_b (by simp), B_7.out⟩
end Go.Proofs.Ytknnbajcabodoaa
