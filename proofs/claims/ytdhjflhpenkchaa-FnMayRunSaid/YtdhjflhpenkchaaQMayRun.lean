/- laws.FnMayRun returns true for all bytes, and writes nothing that was there. (Made by genpl.py.) -/
import Derived.Test.YtdhjflhpenkchaaR18
import Derived.Test.YtdhjflhpenkchaaR19
import Derived.Test.YtdhjflhpenkchaaH24
import Derived.Test.YtdhjflhpenkchaaM26
import Derived.Deep.RegionHeld3
import Derived.Test.YtdhjflhpenkchaaM32
import Derived.Test.YtdhjflhpenkchaaR23
import Derived.Test.YtdhjflhpenkchaaN15
import Derived.Test.YtdhjflhpenkchaaQNeedOf
import Derived.Test.YtdhjflhpenkchaaM27

namespace Go.Proofs.Ytdhjflhpenkchaa
set_option linter.unusedSimpArgs false
set_option linter.unusedVariables false
open Go.RowKit

set_option maxRecDepth 100000 in
set_option maxHeartbeats 6400000 in
theorem plaw_MayRun (A : Option Addr) (n c : Nat) (bs : List Int) (w : World) (hn : n = bs.length) (hnc : n ≤ c) (h : BS w w.heap.size A bs) (hy : BY bs) (hm : n ≤ 9223372036854775807) :
    Calls Try.prog 11 #[.slice A n c] w fun e w' => e = .returned (.bool true) ∧ Below w.heap.size w w' := by
  by_cases hs : 1048576 < n
  · clear hn hnc h hy
    go_enter Try.func11, Try.ntmps11
    go_wp2
    go_ret
    exact ⟨rfl, Below.refl _ _⟩
  have HC := Lib.hid (spec_DrawMayRun A n c bs w hn hnc h hy (by omega))
  clear hn hnc h hy
  go_enter Try.func11, Try.ntmps11
  go_wp2_with fail
  refine HC.out.mono ?_
  rintro e w1 ⟨A1, n1, c1, gs, E1, m1, d1, xs, rfl, hp1, hp2, hp3, hnc1, hsm, hm1, hm3, hmd, hxk, hP, hI, hb⟩
  have HN1 := Lib.hid hp1
  have HG := Lib.hid (GB.of_drawn (by omega) hsm)
  have HM1 := Lib.hid hm1
  have P_1 := Lib.hid (hP)
  have I_1 := Lib.hid (hI)
  have B_1 := Lib.hid (hb)
  clear hP hp1 hb HC hsm hI hm1 hxk
  go_wp2_with fail
  obtain ⟨w2, hw2⟩ : ∃ W, W = w1.alloc (.cells #[.slice A1 n1 c1] 25) := ⟨_, rfl⟩
  have hb : Below w1.heap.size w1 w2 := by rw [hw2]; exact (Below.refl _ _).alloc (Nat.le_refl _) _
  have P_2 := Lib.hid (P_1.out.step hb)
  clear P_1
  have I_2 := Lib.hid (I_1.out.step hb)
  clear I_1
  have B_2 := Lib.hid (B_1.out.trans (hb.mono B_1.out.size))
  clear B_1
  have F_2 : Hid (As w1.heap.size (w1.heap.size + 1) (fun w' => w'.cell? ⟨w1.heap.size, 0, none⟩ = some (.slice A1 n1 c1)) w2) := by rw [hw2]; exact box_new _ _ _
  clear hb
  rw [← hw2]
  clear hw2
  have HIM := Lib.hid fun (w' : World) (h : GS w' w'.heap.size A1 gs) (h' : IS w' w'.heap.size E1 xs) => top_impl_MayRun gs xs HG.out (by have := HM1.out; omega) A1 n1 c1 E1 m1 d1 w' HN1.out hnc1 h HM1.out hmd h'
  have HSP := Lib.hid fun (w' : World) (h : GS w' w'.heap.size A1 gs) (h' : IS w' w'.heap.size E1 xs) => top_spec_MayRun gs xs HG.out (by have := HM1.out; omega) A1 n1 c1 E1 m1 d1 w' HN1.out hnc1 h HM1.out hmd h'
  have hml := mrF_len gs xs
  obtain ⟨R, hR⟩ : ∃ R, R = mrF gs xs := ⟨_, rfl⟩
  have HR := Lib.hid hR
  rw [← hR] at HIM HSP hml
  clear hR
  have q0 := F_2.out.it
  go_wp2_with fail
  refine (HIM.out w2 P_2.out I_2.out).mono ?_
  rintro e w3 ⟨v, rfl, ho, hb⟩
  have P_3 := Lib.hid (P_2.out.step hb)
  clear P_2
  have I_3 := Lib.hid (I_2.out.step hb)
  clear I_2
  have B_3 := Lib.hid (B_2.out.trans (hb.mono B_2.out.size))
  clear B_2
  have F_3 := Lib.hid (F_2.out.step hb)
  clear F_2
  clear hb
  clear q0
  obtain ⟨A3, c3, rfl, hI9⟩ := OwnI.form ho
  obtain ⟨rl, hl2⟩ : ∃ l, l = R.length := ⟨_, rfl⟩
  have HRL := Lib.hid hl2
  rw [← hl2]
  have R_3 := Lib.hid (hI9)
  clear ho hI9 hl2
  rw [← HRL.out] at hml
  clear HIM
  have q0 := F_3.out.it
  go_wp2_with fail
  refine (HSP.out w3 P_3.out I_3.out).mono ?_
  rintro e w4 ⟨v, rfl, ho, hb⟩
  obtain ⟨A4, c4, rfl, hI9⟩ := OwnI.form ho
  have P_4 := Lib.hid (P_3.out.step hb)
  clear P_3
  have I_4 := Lib.hid (I_3.out.step hb)
  clear I_3
  have B_4 := Lib.hid (B_3.out.trans (hb.mono B_3.out.size))
  clear B_3
  have F_4 := Lib.hid (F_3.out.step hb)
  clear F_3
  have R_4 := Lib.hid (R_3.out.step hb)
  clear R_3
  clear hb
  clear q0
  rw [← HRL.out]
  have HEQ := Lib.hid (laws_equalInts A3 A4 rl rl c3 c4 R R w4 w4.heap.size (Nat.le_refl _) HRL.out HRL.out R_4.out hI9 (by omega) (by omega))
  rw [show decide (R = R) = true from decide_eq_true rfl] at HEQ
  clear ho hI9
  have q0 := F_4.out.it
  go_wp2_with fail
  refine (HEQ.out).mono ?_
  rintro e w5 ⟨rfl, hb⟩
  have P_5 := Lib.hid (P_4.out.step hb)
  clear P_4
  have I_5 := Lib.hid (I_4.out.step hb)
  clear I_4
  have B_5 := Lib.hid (B_4.out.trans (hb.mono B_4.out.size))
  clear B_4
  have F_5 := Lib.hid (F_4.out.step hb)
  clear F_4
  have R_5 := Lib.hid (R_4.out.step hb)
  clear R_4
  clear hb
  clear q0
  clear HEQ
  by_cases h0 : rl = 0
  · have hz0 : ((rl : Int) == 0) = true := by rw [h0]; rfl
    clear h0
    have q0 := F_5.out.it
    go_wp2_with fail
    refine (HSP.out w5 P_5.out I_5.out).mono ?_
    rintro e w6 ⟨v, rfl, ho, hb⟩
    obtain ⟨A4, c4, rfl, hI9⟩ := OwnI.form ho
    have P_6 := Lib.hid (P_5.out.step hb)
    clear P_5
    have I_6 := Lib.hid (I_5.out.step hb)
    clear I_5
    have B_6 := Lib.hid (B_5.out.trans (hb.mono B_5.out.size))
    clear B_5
    have F_6 := Lib.hid (F_5.out.step hb)
    clear F_5
    have R_6 := Lib.hid (R_5.out.step hb)
    clear R_5
    clear hb
    clear q0
    rw [← HRL.out]
    have HEQ := Lib.hid (laws_equalInts A3 A4 rl rl c3 c4 R R w6 w6.heap.size (Nat.le_refl _) HRL.out HRL.out R_6.out hI9 (by omega) (by omega))
    rw [show decide (R = R) = true from decide_eq_true rfl] at HEQ
    clear ho hI9
    have q0 := F_6.out.it
    go_wp2_with fail
    refine (HEQ.out).mono ?_
    rintro e w7 ⟨rfl, hb⟩
    have P_7 := Lib.hid (P_6.out.step hb)
    clear P_6
    have I_7 := Lib.hid (I_6.out.step hb)
    clear I_6
    have B_7 := Lib.hid (B_6.out.trans (hb.mono B_6.out.size))
    clear B_6
    have F_7 := Lib.hid (F_6.out.step hb)
    clear F_6
    have R_7 := Lib.hid (R_6.out.step hb)
    clear R_6
    clear hb
    clear q0
    clear HEQ
    go_wp2
    go_ret
    exact ⟨rfl, B_7.out⟩
  · have hz0 : ((rl : Int) == 0) = false := by simp; omega
    have hmr : mrB gs xs = true := by
      cases hv : mrB gs xs
      · exfalso; apply h0; rw [HRL.out, HR.out]; unfold mrF; rw [hv]; rfl
      · rfl
    have hvg : validG gs = true := by rw [mrB_eq, Bool.and_eq_true] at hmr; exact hmr.1
    obtain ⟨hf1, hf2, _, hf4⟩ := may_facts gs xs hmr
    rw [← HR.out] at hf1 hf2
    have HF1 := Lib.hid hf1
    have HF2 := Lib.hid hf2
    have HF4 := Lib.hid hf4
    have HV := Lib.hid hvg
    clear hf1 hf2 hf4 hmr hvg h0 HSP
    have q0 := F_5.out.it
    go_wp2
    obtain ⟨w6, hwa⟩ : ∃ W, W = w5.alloc (.cells #[] 3) := ⟨_, rfl⟩
    rw [← hwa]
    have hb : Below w5.heap.size w5 w6 := by rw [hwa]; exact (Below.refl _ _).alloc (Nat.le_refl _) _
    have P_6 := Lib.hid (P_5.out.step hb)
    clear P_5
    have I_6 := Lib.hid (I_5.out.step hb)
    clear I_5
    have B_6 := Lib.hid (B_5.out.trans (hb.mono B_5.out.size))
    clear B_5
    have F_6 := Lib.hid (F_5.out.step hb)
    clear F_5
    have R_6 := Lib.hid (R_5.out.step hb)
    clear R_5
    have X_6 : Hid (IS w6 w6.heap.size (some ⟨w5.heap.size, 0, none⟩) (allR2 gs (xs.take 0))) := fun hh => absurd hh (by simp [allR2])
    have hws : w5.heap.size < w6.heap.size := by rw [hwa]; simp
    clear hb hwa q0
    go_loopw [6, 7] (fun v u wr => ∃ (k l c bx ox : Nat), k ≤ m1 ∧ u = .int .i64 k ∧ v = .slice (some ⟨bx, ox, none⟩) l c ∧ Hid (l = (allR2 gs (xs.take k)).length) ∧ bx < wr.heap.size ∧ Hid (IS wr wr.heap.size (some ⟨bx, ox, none⟩) (allR2 gs (xs.take k))) ∧ Hid (Below w6.heap.size w6 wr) ∧ w6.heap.size ≤ wr.heap.size) (fun _ u _ => m1 - (intOf u).toNat)
    case atStart => exact ⟨0, 0, 0, w5.heap.size, 0, Nat.zero_le _, rfl, rfl, by simp [allR2, Hid], hws, X_6.out, Below.refl _ _, Nat.le_refl _⟩
    case' round =>
      clear X_6
      obtain ⟨k, l, cX, bx, ox, hk, rfl, rfl, HXL, hbx, HX0, HB, hwr⟩ := hrel
      obtain ⟨w7, hwK⟩ : ∃ W, W = wr := ⟨_, rfl⟩
      rw [← hwK]
      rw [← hwK] at HB hwr HX0 hbx
      clear hwK
      have P_7 := Lib.hid (P_6.out.step HB.out)
      have I_7 := Lib.hid (I_6.out.step HB.out)
      have B_7 := Lib.hid (B_6.out.trans (HB.out.mono B_6.out.size))
      have F_7 := Lib.hid (F_6.out.step HB.out)
      have R_7 := Lib.hid (R_6.out.step HB.out)
      have X_7 := HX0
      clear HX0
      have BK_7 := HB
      clear HB
      have hlb : l ≤ 10 * k := by have h1 := allR2_len gs (xs.take k); rw [← HXL.out, List.length_take] at h1; omega
      by_cases hlt : k < m1
      · have hkM : k < xs.length := by have := HM1.out; omega
        obtain ⟨b7, o7, rfl, hb7, e7⟩ := I_7.out (by omega)
        have x7 := e7 k hkM
        clear e7
        obtain ⟨hq0, hq1⟩ := HF4.out (xs.getD k 0) (by simp [List.getD, hkM])
        have hst := allR2_step gs xs k hkM
        obtain ⟨q, hqx⟩ : ∃ q : Nat, xs.getD k 0 = (q : Int) := ⟨(xs.getD k 0).toNat, by omega⟩
        rw [hqx] at x7 hst hq1
        clear hqx hq0
        have hfl : 0 < (reachF gs (q : Int)).length := by
          have h1 := reachF_mem gs q q (hasB_nat gs HV.out q (by omega)) (by omega)
          rw [rchd_self gs q (by omega)] at h1
          exact List.length_pos_of_mem (of_decide_eq_true h1)
        have HND := Lib.hid fun (w' : World) (h : GS w' w'.heap.size A1 gs) => top_impl_ReachOf gs (q : Int) HG.out A1 n1 c1 w' HN1.out hnc1 h
        have hnl := reachF_len gs (q : Int)
        generalize reachF gs (q : Int) = N at *
        have HST := Lib.hid hst
        have HXX := Lib.hid (show (allR2 gs (xs.take (k + 1))).length = l + N.length from by rw [hst, List.length_append, ← HXL.out])
        clear hst
        have x7_7 : Hid (C1 b7 (o7 + k) (.int .i64 (q : Int)) w7) := ⟨hb7, x7⟩
        clear x7
        have hkm : (k : Int) < (m1 : Int) := by omega
        have HFL := Lib.hid hfl
        have HNB := Lib.hid hnl
        clear hfl hnl
        have hbk : bx < w7.heap.size := hbx
        go_wp2
        refine wp_region_held_drew (S := fun w' => w'.cell? ⟨w1.heap.size, 0, none⟩ = some (.slice A1 n1 c1) ∧ w'.cell? ⟨b7, o7 + k, none⟩ = some (.int .i64 (q : Int))) (by kernel_rfl) ⟨F_7.out.it, x7_7.out.2⟩ (fun hHeld => ?_)
        refine wpAnyH_take (i := 0) (oi := ⟨some 43, _, _, _, _, _⟩) (v := ?_) rfl (by kernel_rfl) (by kernel_rfl) (by kernel_rfl) (fun _ _ _ h => h) (Or.inl ⟨by rfl, ?_⟩) (by assumption) ?_; rotate_left; (focus (intro w hSw; (try dsimp only at hSw); go_simp; (try with_reducible rfl))); (try simp only [Act.put, List.setIfInBounds_toArray, List.set_cons_zero, List.set_cons_succ])
        refine wpAnyH_take (i := 1) (oi := ⟨some 44, _, _, _, _, _⟩) (v := ?_) rfl (by kernel_rfl) (by kernel_rfl) (by kernel_rfl) (fun _ _ _ h => h) (Or.inl ⟨by rfl, ?_⟩) (by assumption) ?_; rotate_left; (focus (intro w hSw; (try dsimp only at hSw); go_simp; (try with_reducible rfl))); (try simp only [Act.put, List.setIfInBounds_toArray, List.set_cons_zero, List.set_cons_succ])
        refine wpAnyH_take (i := 2) (oi := ⟨some 45, _, _, _, _, _⟩) (v := ?_) rfl (by kernel_rfl) (by kernel_rfl) (by kernel_rfl) (fun _ _ _ h => h) (Or.inl ⟨by rfl, ?_⟩) (by assumption) ?_; rotate_left; (focus (intro w hSw; (try dsimp only at hSw); go_simp; (try with_reducible rfl))); (try simp only [Act.put, List.setIfInBounds_toArray, List.set_cons_zero, List.set_cons_succ])
        refine wpAnyH_take (i := 3) (oi := ⟨some 46, _, _, _, _, _⟩) (v := ?_) rfl (by kernel_rfl) (by kernel_rfl) (by kernel_rfl) (fun _ _ _ h => h) (Or.inl ⟨by rfl, ?_⟩) (by assumption) ?_; rotate_left; (focus (intro w hSw; (try dsimp only at hSw); go_simp; (try with_reducible rfl))); (try simp only [Act.put, List.setIfInBounds_toArray, List.set_cons_zero, List.set_cons_succ])
        refine wpAnyH_take (i := 4) (oi := ⟨some 47, _, _, _, _, _⟩) (v := ?_) rfl (by kernel_rfl) (by kernel_rfl) (by kernel_rfl) (fun _ _ _ h => h) (Or.inl ⟨by rfl, ?_⟩) (by assumption) ?_; rotate_left; (focus (intro w hSw; (try dsimp only at hSw); go_simp; (try with_reducible rfl))); (try simp only [Act.put, List.setIfInBounds_toArray, List.set_cons_zero, List.set_cons_succ])
        refine wpAnyH_take (i := 5) (oi := ⟨some 48, _, _, _, _, _⟩) (v := ?_) rfl (by kernel_rfl) (by kernel_rfl) (by kernel_rfl) (fun _ _ _ h => h) (Or.inl ⟨by rfl, ?_⟩) (by assumption) ?_; rotate_left; (focus (intro w hSw; (try dsimp only at hSw); go_simp; (try with_reducible rfl))); (try simp only [Act.put, List.setIfInBounds_toArray, List.set_cons_zero, List.set_cons_succ])
        refine wpAnyH_ready (rs := [6]) (by kernel_rfl) (by simp) ?_; refine AllReadyH.cons (o := ⟨some 49, _, _, _, _, _⟩) rfl (fun K hK => ?_) AllReadyH.nil; go_simp
        go_at_call 22
        refine (HND.out w7.drew P_7.out).mono ?_
        rintro e w8 ⟨v7, rfl, ho, hb'⟩
        have hb : Below w7.heap.size w7 w8 := below_of_drew hb'
        obtain ⟨A8, c8, rfl, hI9⟩ := OwnI.form ho
        obtain ⟨nl, hl2⟩ : ∃ l, l = N.length := ⟨_, rfl⟩
        have HNL := Lib.hid hl2
        rw [← hl2]
        have hbk2 : bx < w8.heap.size := Nat.lt_of_lt_of_le hbk hb.size
        have P_8 := Lib.hid (P_7.out.step hb)
        clear P_7
        have I_8 := Lib.hid (I_7.out.step hb)
        clear I_7
        have B_8 := Lib.hid (B_7.out.trans (hb.mono B_7.out.size))
        clear B_7
        have F_8 := Lib.hid (F_7.out.step hb)
        clear F_7
        have R_8 := Lib.hid (R_7.out.step hb)
        clear R_7
        have X_8 := Lib.hid (X_7.out.step hb)
        clear X_7
        have BK_8 := Lib.hid (BK_7.out.trans (hb.mono BK_7.out.size))
        clear BK_7
        have x7_8 := Lib.hid (x7_7.out.step hb)
        clear x7_7
        clear hb hb'
        have N_8 := Lib.hid (hI9)
        clear ho hI9 hl2
        refine hK.out _ _ ⟨F_8.out.it, x7_8.out.2⟩ (fun hHeld => ?_); clear hK K; (try simp only [Act.put, List.setIfInBounds_toArray, List.set_cons_zero, List.set_cons_succ])
        refine wpAnyH_ready (rs := [7]) (by kernel_rfl) (by simp) ?_; refine AllReadyH.cons (o := ⟨some 50, _, _, _, _, _⟩) rfl (fun K hK => ?_) AllReadyH.nil; go_simp
        go_at_call 28
        refine (laws_join2 (some ⟨bx, ox, none⟩) A8 l cX nl c8 _ N w8 HXL.out X_8.out (by omega) HNL.out N_8.out (by have := HNL.out; have := HNB.out; omega) bx ox rfl hbk2 (by have := HNL.out; have := HFL.out; omega)).mono ?_
        rintro e w9 ⟨v8, rfl, ho, hb⟩
        obtain ⟨A9, c9, rfl, hI9⟩ := OwnI.form ho
        have P_9 := Lib.hid (P_8.out.step hb)
        clear P_8
        have I_9 := Lib.hid (I_8.out.step hb)
        clear I_8
        have B_9 := Lib.hid (B_8.out.trans (hb.mono B_8.out.size))
        clear B_8
        have F_9 := Lib.hid (F_8.out.step hb)
        clear F_8
        have R_9 := Lib.hid (R_8.out.step hb)
        clear R_8
        have X_9 := Lib.hid (X_8.out.step hb)
        clear X_8
        have BK_9 := Lib.hid (BK_8.out.trans (hb.mono BK_8.out.size))
        clear BK_8
        have x7_9 := Lib.hid (x7_8.out.step hb)
        clear x7_8
        have N_9 := Lib.hid (N_8.out.step hb)
        clear N_8
        clear hb
        have XJ_9 := Lib.hid (hI9)
        clear ho hI9
        refine hK.out _ _ ⟨F_9.out.it, x7_9.out.2⟩ (fun hHeld => ?_); clear hK K; (try simp only [Act.put, List.setIfInBounds_toArray, List.set_cons_zero, List.set_cons_succ])
        refine wpAnyH_take (i := 8) (oi := ⟨some 6, _, _, _, _, _⟩) (v := ?_) rfl (by kernel_rfl) (by kernel_rfl) (by kernel_rfl) (fun _ _ _ h => h) (Or.inl ⟨by rfl, ?_⟩) (by assumption) ?_; rotate_left; (focus (intro w hSw; (try dsimp only at hSw); go_simp; (try with_reducible rfl))); (try simp only [Act.put, List.setIfInBounds_toArray, List.set_cons_zero, List.set_cons_succ])
        refine wpAnyH_done (by kernel_rfl) ?_ _
        obtain ⟨b9, o9, rfl, hb9, _⟩ := XJ_9.out (by have := HFL.out; simp; omega)
        go_wp2
        go_roundw
        case rel => exact ⟨k + 1, _, c9, b9, o9, by omega, by go_num, rfl, by show _ = _; rw [HST.out, List.length_append], hb9, by rw [HST.out]; exact XJ_9.out, BK_9.out, BK_9.out.size⟩
        case measure => simp [intOf]; omega
      · obtain rfl : m1 = k := by omega
        have hMt : xs.take m1 = xs := List.take_of_length_le (by have := HM1.out; omega)
        have hxl := HXL.out
        rw [hMt] at hxl
        have HXM := Lib.hid hxl
        have hX := X_7.out
        rw [hMt] at hX
        have XM_7 := Lib.hid hX
        clear hX hMt hxl HXL X_7
        have HFF := HF1
        generalize allR2 gs xs = LA at *
        have q1 := F_7.out.it
        go_wp2
        go_loopw [8] (fun u wr => ∃ k : Nat, k ≤ n1 ∧ u = .int .i64 k ∧ Hid (Below w7.heap.size w7 wr) ∧ w7.heap.size ≤ wr.heap.size) (fun u _ => n1 - (intOf u).toNat)
        case atStart => exact ⟨0, Nat.zero_le _, rfl, Below.refl _ _, Nat.le_refl _⟩
        case round =>
          obtain ⟨k, hk, rfl, HB, hwr⟩ := hrel
          obtain ⟨w8, hwK⟩ : ∃ W, W = wr := ⟨_, rfl⟩
          rw [← hwK]
          rw [← hwK] at HB hwr
          clear hwK
          have P_8 := Lib.hid (P_7.out.step HB.out)
          have I_8 := Lib.hid (I_7.out.step HB.out)
          have B_8 := Lib.hid (B_7.out.trans (HB.out.mono B_7.out.size))
          have F_8 := Lib.hid (F_7.out.step HB.out)
          have R_8 := Lib.hid (R_7.out.step HB.out)
          have XM_8 := Lib.hid (XM_7.out.step HB.out)
          have BK_8 := HB
          clear HB
          clear q1
          have q1 := F_8.out.it
          by_cases hlt : k < n1
          · have hkg : k < gs.length := by have := HN1.out; omega
            have hf := HFF.out k hkg
            obtain ⟨b, off, rfl, hbB, d0, A6, n6, c6, d1, hn6, hps⟩ := P_8.out.at_ k (by have := HN1.out; omega)
            clear d1 hn6 hps
            generalize (gs.getD k default).k = kd at *
            have hkn : (k : Int) < (n1 : Int) := by omega
            have HI1 := Lib.hid fun (w' : World) (h : IS w' w'.heap.size A3 R) => isIn_g A3 rl c3 R (k : Int) w' HRL.out h (by omega)
            have HI2 := Lib.hid fun (w' : World) (h : IS w' w'.heap.size (some ⟨bx, ox, none⟩) LA) => isIn_g (some ⟨bx, ox, none⟩) l cX LA (k : Int) w' HXM.out h (by omega)
            generalize decide ((k : Int) ∈ R) = p1 at *
            generalize decide ((k : Int) ∈ LA) = p2 at *
            have d0f : Hid (C1 b (off + k * 2) (.int .i64 kd) w8) := ⟨hbB, d0⟩
            have d0_8 := d0f
            clear d0 d0f
            cases p2
            case' false =>
              obtain rfl : p1 = false := by simpa using hf
              clear hf q1
              have q0 := F_8.out.it
              go_wp2_with fail
              refine (HI1.out w8 R_8.out).mono ?_
              rintro e w9 ⟨rfl, hb⟩
              have P_9 := Lib.hid (P_8.out.step hb)
              clear P_8
              have I_9 := Lib.hid (I_8.out.step hb)
              clear I_8
              have B_9 := Lib.hid (B_8.out.trans (hb.mono B_8.out.size))
              clear B_8
              have F_9 := Lib.hid (F_8.out.step hb)
              clear F_8
              have R_9 := Lib.hid (R_8.out.step hb)
              clear R_8
              have XM_9 := Lib.hid (XM_8.out.step hb)
              clear XM_8
              have BK_9 := Lib.hid (BK_8.out.trans (hb.mono BK_8.out.size))
              clear BK_8
              have d0_9 := Lib.hid (d0_8.out.step hb)
              clear d0_8
              clear hb
              clear q0
              have q0 := F_9.out.it
              go_wp2_with fail
              refine (HI2.out w9 XM_9.out).mono ?_
              rintro e w10 ⟨rfl, hb⟩
              have P_10 := Lib.hid (P_9.out.step hb)
              clear P_9
              have I_10 := Lib.hid (I_9.out.step hb)
              clear I_9
              have B_10 := Lib.hid (B_9.out.trans (hb.mono B_9.out.size))
              clear B_9
              have F_10 := Lib.hid (F_9.out.step hb)
              clear F_9
              have R_10 := Lib.hid (R_9.out.step hb)
              clear R_9
              have XM_10 := Lib.hid (XM_9.out.step hb)
              clear XM_9
              have BK_10 := Lib.hid (BK_9.out.trans (hb.mono BK_9.out.size))
              clear BK_9
              have d0_10 := Lib.hid (d0_9.out.step hb)
              clear d0_9
              clear hb
              clear q0
              go_wp2
              go_roundw
              case rel => exact ⟨k + 1, by omega, by go_num, BK_10.out, BK_10.out.size⟩
              case measure => simp [intOf]; omega
            case' true =>
              cases hk0 : (kd == 0)
              · obtain rfl : p1 = true := by simpa [hk0] using hf
                have hk1 : (kd != 0) = true := by rw [bne, hk0]; rfl
                clear hf q1
                have q0 := F_8.out.it
                go_wp2_with fail
                refine (HI1.out w8 R_8.out).mono ?_
                rintro e w9 ⟨rfl, hb⟩
                have P_9 := Lib.hid (P_8.out.step hb)
                clear P_8
                have I_9 := Lib.hid (I_8.out.step hb)
                clear I_8
                have B_9 := Lib.hid (B_8.out.trans (hb.mono B_8.out.size))
                clear B_8
                have F_9 := Lib.hid (F_8.out.step hb)
                clear F_8
                have R_9 := Lib.hid (R_8.out.step hb)
                clear R_8
                have XM_9 := Lib.hid (XM_8.out.step hb)
                clear XM_8
                have BK_9 := Lib.hid (BK_8.out.trans (hb.mono BK_8.out.size))
                clear BK_8
                have d0_9 := Lib.hid (d0_8.out.step hb)
                clear d0_8
                clear hb
                clear q0
                have q5 := d0_9.out.2
                have q0 := F_9.out.it
                go_wp2_with fail
                refine (HI2.out w9 XM_9.out).mono ?_
                rintro e w10 ⟨rfl, hb⟩
                clear q0 q5
                have P_10 := Lib.hid (P_9.out.step hb)
                clear P_9
                have I_10 := Lib.hid (I_9.out.step hb)
                clear I_9
                have B_10 := Lib.hid (B_9.out.trans (hb.mono B_9.out.size))
                clear B_9
                have F_10 := Lib.hid (F_9.out.step hb)
                clear F_9
                have R_10 := Lib.hid (R_9.out.step hb)
                clear R_9
                have XM_10 := Lib.hid (XM_9.out.step hb)
                clear XM_9
                have BK_10 := Lib.hid (BK_9.out.trans (hb.mono BK_9.out.size))
                clear BK_9
                have d0_10 := Lib.hid (d0_9.out.step hb)
                clear d0_9
                clear hb
                have q5 := d0_10.out.2
                have q0 := F_10.out.it
                go_wp2
                go_roundw
                case rel => exact ⟨k + 1, by omega, by go_num, BK_10.out, BK_10.out.size⟩
                case measure => simp [intOf]; omega
              · obtain rfl : p1 = false := by simpa [hk0] using hf
                have hk1 : (kd != 0) = false := by rw [bne, hk0]; rfl
                clear hf q1
                have q0 := F_8.out.it
                go_wp2_with fail
                refine (HI1.out w8 R_8.out).mono ?_
                rintro e w9 ⟨rfl, hb⟩
                have P_9 := Lib.hid (P_8.out.step hb)
                clear P_8
                have I_9 := Lib.hid (I_8.out.step hb)
                clear I_8
                have B_9 := Lib.hid (B_8.out.trans (hb.mono B_8.out.size))
                clear B_8
                have F_9 := Lib.hid (F_8.out.step hb)
                clear F_8
                have R_9 := Lib.hid (R_8.out.step hb)
                clear R_8
                have XM_9 := Lib.hid (XM_8.out.step hb)
                clear XM_8
                have BK_9 := Lib.hid (BK_8.out.trans (hb.mono BK_8.out.size))
                clear BK_8
                have d0_9 := Lib.hid (d0_8.out.step hb)
                clear d0_8
                clear hb
                clear q0
                have q5 := d0_9.out.2
                have q0 := F_9.out.it
                go_wp2_with fail
                refine (HI2.out w9 XM_9.out).mono ?_
                rintro e w10 ⟨rfl, hb⟩
                clear q0 q5
                have P_10 := Lib.hid (P_9.out.step hb)
                clear P_9
                have I_10 := Lib.hid (I_9.out.step hb)
                clear I_9
                have B_10 := Lib.hid (B_9.out.trans (hb.mono B_9.out.size))
                clear B_9
                have F_10 := Lib.hid (F_9.out.step hb)
                clear F_9
                have R_10 := Lib.hid (R_9.out.step hb)
                clear R_9
                have XM_10 := Lib.hid (XM_9.out.step hb)
                clear XM_9
                have BK_10 := Lib.hid (BK_9.out.trans (hb.mono BK_9.out.size))
                clear BK_9
                have d0_10 := Lib.hid (d0_9.out.step hb)
                clear d0_9
                clear hb
                have q5 := d0_10.out.2
                have q0 := F_10.out.it
                go_wp2
                go_roundw
                case rel => exact ⟨k + 1, by omega, by go_num, BK_10.out, BK_10.out.size⟩
                case measure => simp [intOf]; omega
          · obtain rfl : n1 = k := by omega
            have HAS := Lib.hid fun (w' : World) (h : IS w' w'.heap.size A3 R) => laws_ascends A3 rl c3 R w' _ (Nat.le_refl _) HRL.out h (by omega) HF2.out
            clear q1
            have q0 := F_8.out.it
            go_wp2_with fail
            refine (HAS.out w8 R_8.out).mono ?_
            rintro e w9 ⟨rfl, hb⟩
            have P_9 := Lib.hid (P_8.out.step hb)
            clear P_8
            have I_9 := Lib.hid (I_8.out.step hb)
            clear I_8
            have B_9 := Lib.hid (B_8.out.trans (hb.mono B_8.out.size))
            clear B_8
            have F_9 := Lib.hid (F_8.out.step hb)
            clear F_8
            have R_9 := Lib.hid (R_8.out.step hb)
            clear R_8
            have XM_9 := Lib.hid (XM_8.out.step hb)
            clear XM_8
            have BK_9 := Lib.hid (BK_8.out.trans (hb.mono BK_8.out.size))
            clear BK_8
            clear hb
            clear q0
            go_wp2
            go_ret
            exact ⟨rfl, B_9.out⟩
end Go.Proofs.Ytdhjflhpenkchaa
