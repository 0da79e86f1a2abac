/- laws.FnWatchedOf returns true for all bytes, and writes nothing that was there. (Made by genpl.py.) -/
import Derived.Test.YtdhjflhpenkchaaR18
import Derived.Test.YtdhjflhpenkchaaR19
import Derived.Test.YtdhjflhpenkchaaH10
import Derived.Test.YtdhjflhpenkchaaM26
import Derived.Deep.RegionHeld3
import Derived.Test.YtdhjflhpenkchaaM28

namespace Go.Proofs.Ytdhjflhpenkchaa
set_option linter.unusedSimpArgs false
set_option linter.unusedVariables false
open Go.RowKit

set_option maxRecDepth 100000 in
set_option maxHeartbeats 6400000 in
theorem plaw_WatchedOf (A : Option Addr) (n c : Nat) (bs : List Int) (w : World) (hn : n = bs.length) (hnc : n ≤ c) (h : BS w w.heap.size A bs) (hy : BY bs) (hm : n ≤ 9223372036854775807) :
    Calls Try.prog 6 #[.slice A n c] w fun e w' => e = .returned (.bool true) ∧ Below w.heap.size w w' := by
  by_cases hs : 1048576 < n
  · clear hn hnc h hy
    go_enter Try.func6, Try.ntmps6
    go_wp2
    go_ret
    exact ⟨rfl, Below.refl _ _⟩
  have HC := Lib.hid (spec_DrawWatchedOf A n c bs w hn hnc h hy (by omega))
  clear hn hnc h hy
  go_enter Try.func6, Try.ntmps6
  go_wp2_with fail
  refine HC.out.mono ?_
  rintro e w1 ⟨A1, n1, c1, gs, rfl, hp1, hp2, hp3, hnc1, hsm, hP, hb⟩
  have HN1 := Lib.hid hp1
  have HG := Lib.hid (GB.of_drawn (by omega) hsm)
  have P_1 := Lib.hid (hP)
  have B_1 := Lib.hid (hb)
  clear hP hp1 hb HC hsm
  go_wp2_with fail
  obtain ⟨w2, hw2⟩ : ∃ W, W = w1.alloc (.cells #[.slice A1 n1 c1] 25) := ⟨_, rfl⟩
  have hb : Below w1.heap.size w1 w2 := by rw [hw2]; exact (Below.refl _ _).alloc (Nat.le_refl _) _
  have P_2 := Lib.hid (P_1.out.step hb)
  clear P_1
  have B_2 := Lib.hid (B_1.out.trans (hb.mono B_1.out.size))
  clear B_1
  have F_2 : Hid (As w1.heap.size (w1.heap.size + 1) (fun w' => w'.cell? ⟨w1.heap.size, 0, none⟩ = some (.slice A1 n1 c1)) w2) := by rw [hw2]; exact box_new _ _ _
  clear hb
  rw [← hw2]
  clear hw2
  have HIM := Lib.hid fun (w' : World) (h : GS w' w'.heap.size A1 gs) => top_impl_WatchedOf gs HG.out A1 n1 c1 w' HN1.out hnc1 h
  have HSP := Lib.hid fun (w' : World) (h : GS w' w'.heap.size A1 gs) => top_spec_WatchedOf gs HG.out A1 n1 c1 w' HN1.out hnc1 h
  have HVG := Lib.hid fun (w' : World) (h : GS w' w'.heap.size A1 gs) => impl_ValidGraph A1 n1 c1 gs w' _ (Nat.le_refl _) HN1.out h HG.out hnc1
  have hml := watchF_len gs
  have HASC := Lib.hid (watch_asc gs)
  have HEA := Lib.hid (effA_all gs)
  have HOK := Lib.hid (reachF_ok gs)
  generalize validG gs = v at *
  generalize watchF gs = R at *
  have q0 := F_2.out.it
  go_wp2_with fail
  refine (HIM.out w2 P_2.out).mono ?_
  rintro e w3 ⟨v, rfl, ho, hb⟩
  have P_3 := Lib.hid (P_2.out.step hb)
  clear P_2
  have B_3 := Lib.hid (B_2.out.trans (hb.mono B_2.out.size))
  clear B_2
  have F_3 := Lib.hid (F_2.out.step hb)
  clear F_2
  clear hb
  clear q0
  obtain ⟨A3, c3, rfl, hI9⟩ := OwnI.form ho
  obtain ⟨rl, hl2⟩ : ∃ l, l = R.length := ⟨_, rfl⟩
  have HRL := Lib.hid hl2
  rw [← hl2]
  have R_3 := Lib.hid (hI9)
  clear ho hI9 hl2
  rw [← HRL.out] at hml
  have q0 := F_3.out.it
  go_wp2_with fail
  refine (HSP.out w3 P_3.out).mono ?_
  rintro e w4 ⟨v, rfl, ho, hb⟩
  obtain ⟨A4, c4, rfl, hI9⟩ := OwnI.form ho
  have P_4 := Lib.hid (P_3.out.step hb)
  clear P_3
  have B_4 := Lib.hid (B_3.out.trans (hb.mono B_3.out.size))
  clear B_3
  have F_4 := Lib.hid (F_3.out.step hb)
  clear F_3
  have R_4 := Lib.hid (R_3.out.step hb)
  clear R_3
  clear hb
  clear q0
  rw [← HRL.out]
  have HEQ := Lib.hid (laws_equalInts A3 A4 rl rl c3 c4 R R w4 w4.heap.size (Nat.le_refl _) HRL.out HRL.out R_4.out hI9 (by omega) (by omega))
  rw [show decide (R = R) = true from decide_eq_true rfl] at HEQ
  clear ho hI9
  have q0 := F_4.out.it
  go_wp2_with fail
  refine (HEQ.out).mono ?_
  rintro e w5 ⟨rfl, hb⟩
  have P_5 := Lib.hid (P_4.out.step hb)
  clear P_4
  have B_5 := Lib.hid (B_4.out.trans (hb.mono B_4.out.size))
  clear B_4
  have F_5 := Lib.hid (F_4.out.step hb)
  clear F_4
  have R_5 := Lib.hid (R_4.out.step hb)
  clear R_4
  clear hb
  clear q0
  clear HEQ
  have q0 := F_5.out.it
  go_wp2_with fail
  refine (HVG.out w5 P_5.out).mono ?_
  rintro e w6 ⟨rfl, hb⟩
  have P_6 := Lib.hid (P_5.out.step hb)
  clear P_5
  have B_6 := Lib.hid (B_5.out.trans (hb.mono B_5.out.size))
  clear B_5
  have F_6 := Lib.hid (F_5.out.step hb)
  clear F_5
  have R_6 := Lib.hid (R_5.out.step hb)
  clear R_5
  clear hb
  clear q0
  cases v
  · skip
    have q0 := F_6.out.it
    go_wp2_with fail
    refine (HSP.out w6 P_6.out).mono ?_
    rintro e w7 ⟨v, rfl, ho, hb⟩
    obtain ⟨A4, c4, rfl, hI9⟩ := OwnI.form ho
    have P_7 := Lib.hid (P_6.out.step hb)
    clear P_6
    have B_7 := Lib.hid (B_6.out.trans (hb.mono B_6.out.size))
    clear B_6
    have F_7 := Lib.hid (F_6.out.step hb)
    clear F_6
    have R_7 := Lib.hid (R_6.out.step hb)
    clear R_6
    clear hb
    clear q0
    rw [← HRL.out]
    have HEQ := Lib.hid (laws_equalInts A3 A4 rl rl c3 c4 R R w7 w7.heap.size (Nat.le_refl _) HRL.out HRL.out R_7.out hI9 (by omega) (by omega))
    rw [show decide (R = R) = true from decide_eq_true rfl] at HEQ
    clear ho hI9
    have q0 := F_7.out.it
    go_wp2_with fail
    refine (HEQ.out).mono ?_
    rintro e w8 ⟨rfl, hb⟩
    have P_8 := Lib.hid (P_7.out.step hb)
    clear P_7
    have B_8 := Lib.hid (B_7.out.trans (hb.mono B_7.out.size))
    clear B_7
    have F_8 := Lib.hid (F_7.out.step hb)
    clear F_7
    have R_8 := Lib.hid (R_7.out.step hb)
    clear R_7
    clear hb
    clear q0
    clear HEQ
    go_wp2
    go_ret
    exact ⟨rfl, B_8.out⟩
  · have HA2 := Lib.hid (HASC.out (by first | rfl | trivial))
    have HE2 := Lib.hid (HEA.out (by first | rfl | trivial))
    have HO2 := Lib.hid fun (i : Nat) (hi : i < gs.length) => HOK.out i hi (by first | rfl | trivial)
    clear HASC HEA HOK HIM HSP HVG
    have q0 := F_6.out.it
    go_wp2
    go_loopw [5] (fun u wr => ∃ k : Nat, k ≤ n1 ∧ u = .int .i64 k ∧ Hid (Below w6.heap.size w6 wr) ∧ w6.heap.size ≤ wr.heap.size) (fun u _ => n1 - (intOf u).toNat)
    case atStart => exact ⟨0, Nat.zero_le _, rfl, Below.refl _ _, Nat.le_refl _⟩
    case round =>
      obtain ⟨k, hk, rfl, HB, hwr⟩ := hrel
      obtain ⟨w7, hwK⟩ : ∃ W, W = wr := ⟨_, rfl⟩
      rw [← hwK]
      rw [← hwK] at HB hwr
      clear hwK
      have P_7 := Lib.hid (P_6.out.step HB.out)
      have B_7 := Lib.hid (B_6.out.trans (HB.out.mono B_6.out.size))
      have F_7 := Lib.hid (F_6.out.step HB.out)
      have R_7 := Lib.hid (R_6.out.step HB.out)
      have BK_7 := HB
      clear HB
      clear q0
      have q1 := F_7.out.it
      by_cases hlt : k < n1
      · skip
        have hkg : k < gs.length := by have := HN1.out; omega
        have HRE := Lib.hid fun (w' : World) (h : GS w' w'.heap.size A1 gs) => top_impl_ReachOf gs (k : Int) HG.out A1 n1 c1 w' HN1.out hnc1 h
        have hll := reachF_len gs (k : Int)
        have hea := HE2.out k hkg
        have hok := HO2.out k hkg
        obtain ⟨L, hL⟩ : ∃ L, L = reachF gs (k : Int) := ⟨_, rfl⟩
        rw [← hL] at HRE hll hea hok
        have HEK := Lib.hid hea
        have HOL := Lib.hid hok
        clear hL hea hok
        go_wp2_with fail
        refine (HRE.out w7 P_7.out).mono ?_
        rintro e w8 ⟨v7, rfl, ho, hb⟩
        have P_8 := Lib.hid (P_7.out.step hb)
        clear P_7
        have B_8 := Lib.hid (B_7.out.trans (hb.mono B_7.out.size))
        clear B_7
        have F_8 := Lib.hid (F_7.out.step hb)
        clear F_7
        have R_8 := Lib.hid (R_7.out.step hb)
        clear R_7
        have BK_8 := Lib.hid (BK_7.out.trans (hb.mono BK_7.out.size))
        clear BK_7
        clear hb
        obtain ⟨A7, c7, rfl, hI9⟩ := OwnI.form ho
        obtain ⟨ll, hl2⟩ : ∃ l, l = L.length := ⟨_, rfl⟩
        have HLL := Lib.hid hl2
        rw [← hl2]
        have L_8 := Lib.hid (hI9)
        clear ho hI9 hl2
        rw [← HLL.out] at hll HEK
        clear HRE q1
        have q2 := F_8.out.it
        go_wp2
        go_loopw [6, 8] (fun mv u wr => ∃ j : Nat, j ≤ ll ∧ u = .int .i64 j ∧ mv = .bool (effA gs L j) ∧ Hid (Below w8.heap.size w8 wr) ∧ w8.heap.size ≤ wr.heap.size) (fun _ u _ => ll - (intOf u).toNat)
        case atStart => exact ⟨0, Nat.zero_le _, rfl, by rw [effA_zero], Below.refl _ _, Nat.le_refl _⟩
        case round =>
          obtain ⟨j, hj, rfl, rfl, HB, hwr⟩ := hrel
          obtain ⟨w9, hwK⟩ : ∃ W, W = wr := ⟨_, rfl⟩
          rw [← hwK]
          rw [← hwK] at HB hwr
          clear hwK
          have P_9 := Lib.hid (P_8.out.step HB.out)
          have B_9 := Lib.hid (B_8.out.trans (HB.out.mono B_8.out.size))
          have F_9 := Lib.hid (F_8.out.step HB.out)
          have R_9 := Lib.hid (R_8.out.step HB.out)
          have BK_9 := Lib.hid (BK_8.out.trans (HB.out.mono BK_8.out.size))
          have L_9 := Lib.hid (L_8.out.step HB.out)
          have BI_9 := HB
          clear HB
          clear q2
          by_cases hjl : j < ll
          · skip
            obtain ⟨q, hqx, hqg⟩ := HOL.out j (by have := HLL.out; omega)
            have hst := effA_step gs L j q (by have := HLL.out; omega) hqx
            obtain ⟨b7, o7, rfl, hb7, e7⟩ := L_9.out (by have := HLL.out; omega)
            have x7 := e7 j (by have := HLL.out; omega)
            rw [hqx] at x7
            clear e7 hqx
            obtain ⟨b, off, rfl, hbB, d0, A6, n6, c6, d1, hn6, hps⟩ := P_9.out.at_ q (by have := HN1.out; omega)
            have hqn : q < n1 := by have := HN1.out; omega
            have hqn2 : (q : Int) < (n1 : Int) := by omega
            clear d1 hn6 hps
            generalize (gs.getD q default).k = kd at *
            generalize effA gs L j = ea at *
            have HST := Lib.hid hst
            clear hst
            have x7_9 : Hid (C1 b7 (o7 + j) (.int .i64 (q : Int)) w9) := ⟨hb7, x7⟩
            have d0_9 : Hid (C1 b (off + q * 2) (.int .i64 kd) w9) := ⟨hbB, d0⟩
            clear x7 d0
            have q3 := F_9.out.it
            have hjl2 : (j : Int) < (ll : Int) := by omega
            cases ea
            · go_wp2
              refine wp_region_held_drew (S := fun w' => w'.cell? ⟨w1.heap.size, 0, none⟩ = some (.slice (some ⟨b, off, none⟩) n1 c1) ∧ w'.cell? ⟨b7, o7 + j, none⟩ = some (.int .i64 (q : Int)) ∧ w'.cell? ⟨b, off + q * 2, none⟩ = some (.int .i64 kd)) (by kernel_rfl) ⟨F_9.out.it, x7_9.out.2, d0_9.out.2⟩ (fun hHeld => ?_)
              refine wpAnyH_take (i := 0) (oi := ⟨some 46, _, _, _, _, _⟩) (v := ?_) rfl (by kernel_rfl) (by kernel_rfl) (by kernel_rfl) (fun _ _ _ h => h) (Or.inl ⟨by rfl, ?_⟩) (by assumption) ?_; rotate_left; (focus (intro w hSw; (try dsimp only at hSw); go_simp; (try with_reducible rfl))); (try simp only [Act.put, List.setIfInBounds_toArray, List.set_cons_zero, List.set_cons_succ])
              refine wpAnyH_take (i := 1) (oi := ⟨some 47, _, _, _, _, _⟩) (v := ?_) rfl (by kernel_rfl) (by kernel_rfl) (by kernel_rfl) (fun _ _ _ h => h) (Or.inl ⟨by rfl, ?_⟩) (by assumption) ?_; rotate_left; (focus (intro w hSw; (try dsimp only at hSw); go_simp; (try with_reducible rfl))); (try simp only [Act.put, List.setIfInBounds_toArray, List.set_cons_zero, List.set_cons_succ])
              refine wpAnyH_take (i := 2) (oi := ⟨some 48, _, _, _, _, _⟩) (v := ?_) rfl (by kernel_rfl) (by kernel_rfl) (by kernel_rfl) (fun _ _ _ h => h) (Or.inl ⟨by rfl, ?_⟩) (by assumption) ?_; rotate_left; (focus (intro w hSw; (try dsimp only at hSw); go_simp; (try with_reducible rfl))); (try simp only [Act.put, List.setIfInBounds_toArray, List.set_cons_zero, List.set_cons_succ])
              refine wpAnyH_take (i := 3) (oi := ⟨some 49, _, _, _, _, _⟩) (v := ?_) rfl (by kernel_rfl) (by kernel_rfl) (by kernel_rfl) (fun _ _ _ h => h) (Or.inl ⟨by rfl, ?_⟩) (by assumption) ?_; rotate_left; (focus (intro w hSw; (try dsimp only at hSw); go_simp; (try with_reducible rfl))); (try simp only [Act.put, List.setIfInBounds_toArray, List.set_cons_zero, List.set_cons_succ])
              refine wpAnyH_take (i := 4) (oi := ⟨some 50, _, _, _, _, _⟩) (v := ?_) rfl (by kernel_rfl) (by kernel_rfl) (by kernel_rfl) (fun _ _ _ h => h) (Or.inl ⟨by rfl, ?_⟩) (by assumption) ?_; rotate_left; (focus (intro w hSw; (try dsimp only at hSw); go_simp; (try with_reducible rfl))); (try simp only [Act.put, List.setIfInBounds_toArray, List.set_cons_zero, List.set_cons_succ])
              refine wpAnyH_take (i := 5) (oi := ⟨some 51, _, _, _, _, _⟩) (v := ?_) rfl (by kernel_rfl) (by kernel_rfl) (by kernel_rfl) (fun _ _ _ h => h) (Or.inl ⟨by rfl, ?_⟩) (by assumption) ?_; rotate_left; (focus (intro w hSw; (try dsimp only at hSw); go_simp; (try with_reducible rfl))); (try simp only [Act.put, List.setIfInBounds_toArray, List.set_cons_zero, List.set_cons_succ])
              refine wpAnyH_take (i := 6) (oi := ⟨some 52, _, _, _, _, _⟩) (v := ?_) rfl (by kernel_rfl) (by kernel_rfl) (by kernel_rfl) (fun _ _ _ h => h) (Or.inl ⟨by rfl, ?_⟩) (by assumption) ?_; rotate_left; (focus (intro w hSw; (try dsimp only at hSw); go_simp; (try with_reducible rfl))); (try simp only [Act.put, List.setIfInBounds_toArray, List.set_cons_zero, List.set_cons_succ])
              refine wpAnyH_take (i := 7) (oi := ⟨some 53, _, _, _, _, _⟩) (v := ?_) rfl (by kernel_rfl) (by kernel_rfl) (by kernel_rfl) (fun _ _ _ h => h) (Or.inl ⟨by rfl, ?_⟩) (by assumption) ?_; rotate_left; (focus (intro w hSw; (try dsimp only at hSw); go_simp; (try with_reducible rfl))); (try simp only [Act.put, List.setIfInBounds_toArray, List.set_cons_zero, List.set_cons_succ])
              refine wpAnyH_take (i := 8) (oi := ⟨some 54, _, _, _, _, _⟩) (v := ?_) rfl (by kernel_rfl) (by kernel_rfl) (by kernel_rfl) (fun _ _ _ h => h) (Or.inl ⟨by rfl, ?_⟩) (by assumption) ?_; rotate_left; (focus (intro w hSw; (try dsimp only at hSw); go_simp; (try with_reducible rfl))); (try simp only [Act.put, List.setIfInBounds_toArray, List.set_cons_zero, List.set_cons_succ])
              refine wpAnyH_take (i := 9) (oi := ⟨some 55, _, _, _, _, _⟩) (v := ?_) rfl (by kernel_rfl) (by kernel_rfl) (by kernel_rfl) (fun _ _ _ h => h) (Or.inl ⟨by rfl, ?_⟩) (by assumption) ?_; rotate_left; (focus (intro w hSw; (try dsimp only at hSw); go_simp; (try with_reducible rfl))); (try simp only [Act.put, List.setIfInBounds_toArray, List.set_cons_zero, List.set_cons_succ])
              refine wpAnyH_take (i := 10) (oi := ⟨some 56, _, _, _, _, _⟩) (v := ?_) rfl (by kernel_rfl) (by kernel_rfl) (by kernel_rfl) (fun _ _ _ h => h) (Or.inl ⟨by rfl, ?_⟩) (by assumption) ?_; rotate_left; (focus (intro w hSw; (try dsimp only at hSw); go_simp; (try with_reducible rfl))); (try simp only [Act.put, List.setIfInBounds_toArray, List.set_cons_zero, List.set_cons_succ])
              refine wpAnyH_take (i := 11) (oi := ⟨some 57, _, _, _, _, _⟩) (v := ?_) rfl (by kernel_rfl) (by kernel_rfl) (by kernel_rfl) (fun _ _ _ h => h) (Or.inl ⟨by rfl, ?_⟩) (by assumption) ?_; rotate_left; (focus (intro w hSw; (try dsimp only at hSw); go_simp; (try with_reducible rfl))); (try simp only [Act.put, List.setIfInBounds_toArray, List.set_cons_zero, List.set_cons_succ])
              refine wpAnyH_take (i := 12) (oi := ⟨some 58, _, _, _, _, _⟩) (v := ?_) rfl (by kernel_rfl) (by kernel_rfl) (by kernel_rfl) (fun _ _ _ h => h) (Or.inl ⟨by rfl, ?_⟩) (by assumption) ?_; rotate_left; (focus (intro w hSw; (try dsimp only at hSw); go_simp; (try with_reducible rfl))); (try simp only [Act.put, List.setIfInBounds_toArray, List.set_cons_zero, List.set_cons_succ])
              refine wpAnyH_take (i := 13) (oi := ⟨some 6, _, _, _, _, _⟩) (v := ?_) rfl (by kernel_rfl) (by kernel_rfl) (by kernel_rfl) (fun _ _ _ h => h) (Or.inl ⟨by rfl, ?_⟩) (by assumption) ?_; rotate_left; (focus (intro w hSw; (try dsimp only at hSw); go_simp; (try with_reducible rfl))); (try simp only [Act.put, List.setIfInBounds_toArray, List.set_cons_zero, List.set_cons_succ])
              refine wpAnyH_done (by kernel_rfl) ?_ _
              go_wp2
              go_roundw
              case rel => exact ⟨j + 1, by omega, by go_num, by rw [HST.out, Bool.false_or], BI_9.out.drew, BI_9.out.size⟩
              case measure => simp [intOf]; omega
            · go_wp2
              refine wp_region_held_drew (S := fun w' => w'.cell? ⟨w1.heap.size, 0, none⟩ = some (.slice (some ⟨b, off, none⟩) n1 c1)) (by kernel_rfl) F_9.out.it (fun hHeld => ?_)
              refine wpAnyH_take (i := 0) (oi := ⟨some 46, _, _, _, _, _⟩) (v := ?_) rfl (by kernel_rfl) (by kernel_rfl) (by kernel_rfl) (fun _ _ _ h => h) (Or.inl ⟨by rfl, ?_⟩) (by assumption) ?_; rotate_left; (focus (intro w hSw; (try dsimp only at hSw); go_simp; (try with_reducible rfl))); (try simp only [Act.put, List.setIfInBounds_toArray, List.set_cons_zero, List.set_cons_succ])
              refine wpAnyH_take (i := 1) (oi := ⟨some 47, _, _, _, _, _⟩) (v := ?_) rfl (by kernel_rfl) (by kernel_rfl) (by kernel_rfl) (fun _ _ _ h => h) (Or.inl ⟨by rfl, ?_⟩) (by assumption) ?_; rotate_left; (focus (intro w hSw; (try dsimp only at hSw); go_simp; (try with_reducible rfl))); (try simp only [Act.put, List.setIfInBounds_toArray, List.set_cons_zero, List.set_cons_succ])
              refine wpAnyH_take (i := 2) (oi := ⟨some 48, _, _, _, _, _⟩) (v := undef) rfl (by kernel_rfl) (by kernel_rfl) (by kernel_rfl) (fun _ _ _ h => h) (Or.inr ⟨by rfl, rfl⟩) (by assumption) ?_; (try simp only [Act.put, List.setIfInBounds_toArray, List.set_cons_zero, List.set_cons_succ])
              refine wpAnyH_take (i := 3) (oi := ⟨some 49, _, _, _, _, _⟩) (v := undef) rfl (by kernel_rfl) (by kernel_rfl) (by kernel_rfl) (fun _ _ _ h => h) (Or.inr ⟨by rfl, rfl⟩) (by assumption) ?_; (try simp only [Act.put, List.setIfInBounds_toArray, List.set_cons_zero, List.set_cons_succ])
              refine wpAnyH_take (i := 4) (oi := ⟨some 50, _, _, _, _, _⟩) (v := undef) rfl (by kernel_rfl) (by kernel_rfl) (by kernel_rfl) (fun _ _ _ h => h) (Or.inr ⟨by rfl, rfl⟩) (by assumption) ?_; (try simp only [Act.put, List.setIfInBounds_toArray, List.set_cons_zero, List.set_cons_succ])
              refine wpAnyH_take (i := 5) (oi := ⟨some 51, _, _, _, _, _⟩) (v := undef) rfl (by kernel_rfl) (by kernel_rfl) (by kernel_rfl) (fun _ _ _ h => h) (Or.inr ⟨by rfl, rfl⟩) (by assumption) ?_; (try simp only [Act.put, List.setIfInBounds_toArray, List.set_cons_zero, List.set_cons_succ])
              refine wpAnyH_take (i := 6) (oi := ⟨some 52, _, _, _, _, _⟩) (v := undef) rfl (by kernel_rfl) (by kernel_rfl) (by kernel_rfl) (fun _ _ _ h => h) (Or.inr ⟨by rfl, rfl⟩) (by assumption) ?_; (try simp only [Act.put, List.setIfInBounds_toArray, List.set_cons_zero, List.set_cons_succ])
              refine wpAnyH_take (i := 7) (oi := ⟨some 53, _, _, _, _, _⟩) (v := undef) rfl (by kernel_rfl) (by kernel_rfl) (by kernel_rfl) (fun _ _ _ h => h) (Or.inr ⟨by rfl, rfl⟩) (by assumption) ?_; (try simp only [Act.put, List.setIfInBounds_toArray, List.set_cons_zero, List.set_cons_succ])
              refine wpAnyH_take (i := 8) (oi := ⟨some 54, _, _, _, _, _⟩) (v := undef) rfl (by kernel_rfl) (by kernel_rfl) (by kernel_rfl) (fun _ _ _ h => h) (Or.inr ⟨by rfl, rfl⟩) (by assumption) ?_; (try simp only [Act.put, List.setIfInBounds_toArray, List.set_cons_zero, List.set_cons_succ])
              refine wpAnyH_take (i := 9) (oi := ⟨some 55, _, _, _, _, _⟩) (v := undef) rfl (by kernel_rfl) (by kernel_rfl) (by kernel_rfl) (fun _ _ _ h => h) (Or.inr ⟨by rfl, rfl⟩) (by assumption) ?_; (try simp only [Act.put, List.setIfInBounds_toArray, List.set_cons_zero, List.set_cons_succ])
              refine wpAnyH_take (i := 10) (oi := ⟨some 56, _, _, _, _, _⟩) (v := undef) rfl (by kernel_rfl) (by kernel_rfl) (by kernel_rfl) (fun _ _ _ h => h) (Or.inr ⟨by rfl, rfl⟩) (by assumption) ?_; (try simp only [Act.put, List.setIfInBounds_toArray, List.set_cons_zero, List.set_cons_succ])
              refine wpAnyH_take (i := 11) (oi := ⟨some 57, _, _, _, _, _⟩) (v := undef) rfl (by kernel_rfl) (by kernel_rfl) (by kernel_rfl) (fun _ _ _ h => h) (Or.inr ⟨by rfl, rfl⟩) (by assumption) ?_; (try simp only [Act.put, List.setIfInBounds_toArray, List.set_cons_zero, List.set_cons_succ])
              refine wpAnyH_take (i := 12) (oi := ⟨some 58, _, _, _, _, _⟩) (v := ?_) rfl (by kernel_rfl) (by kernel_rfl) (by kernel_rfl) (fun _ _ _ h => h) (Or.inl ⟨by rfl, ?_⟩) (by assumption) ?_; rotate_left; (focus (intro w hSw; (try dsimp only at hSw); go_simp; (try with_reducible rfl))); (try simp only [Act.put, List.setIfInBounds_toArray, List.set_cons_zero, List.set_cons_succ])
              refine wpAnyH_take (i := 13) (oi := ⟨some 6, _, _, _, _, _⟩) (v := ?_) rfl (by kernel_rfl) (by kernel_rfl) (by kernel_rfl) (fun _ _ _ h => h) (Or.inl ⟨by rfl, ?_⟩) (by assumption) ?_; rotate_left; (focus (intro w hSw; (try dsimp only at hSw); go_simp; (try with_reducible rfl))); (try simp only [Act.put, List.setIfInBounds_toArray, List.set_cons_zero, List.set_cons_succ])
              refine wpAnyH_done (by kernel_rfl) ?_ _
              go_wp2
              go_roundw
              case rel => exact ⟨j + 1, by omega, by go_num, by rw [HST.out, Bool.true_or], BI_9.out.drew, BI_9.out.size⟩
              case measure => simp [intOf]; omega
          · obtain rfl : j = ll := by omega
            rw [HEK.out]
            have HI1 := Lib.hid fun (w' : World) (h : IS w' w'.heap.size A3 R) => isIn_g A3 rl c3 R (k : Int) w' HRL.out h (by omega)
            generalize decide ((k : Int) ∈ R) = pm at *
            have hne : (pm != pm) = false := by simp
            have q0 := F_9.out.it
            go_wp2_with fail
            refine (HI1.out w9 R_9.out).mono ?_
            rintro e w10 ⟨rfl, hb⟩
            have P_10 := Lib.hid (P_9.out.step hb)
            clear P_9
            have B_10 := Lib.hid (B_9.out.trans (hb.mono B_9.out.size))
            clear B_9
            have F_10 := Lib.hid (F_9.out.step hb)
            clear F_9
            have R_10 := Lib.hid (R_9.out.step hb)
            clear R_9
            have BK_10 := Lib.hid (BK_9.out.trans (hb.mono BK_9.out.size))
            clear BK_9
            have L_10 := Lib.hid (L_9.out.step hb)
            clear L_9
            have BI_10 := Lib.hid (BI_9.out.trans (hb.mono BI_9.out.size))
            clear BI_9
            clear hb
            clear q0
            go_wp2
            go_roundw
            case rel => exact ⟨k + 1, by omega, by go_num, BK_10.out, BK_10.out.size⟩
            case measure => simp [intOf]; omega
      · obtain rfl : k = n1 := by omega
        have HAS := Lib.hid fun (w' : World) (h : IS w' w'.heap.size A3 R) => laws_ascends A3 rl c3 R w' _ (Nat.le_refl _) HRL.out h (by omega) HA2.out
        have q0 := F_7.out.it
        go_wp2_with fail
        refine (HAS.out w7 R_7.out).mono ?_
        rintro e w8 ⟨rfl, hb⟩
        have P_8 := Lib.hid (P_7.out.step hb)
        clear P_7
        have B_8 := Lib.hid (B_7.out.trans (hb.mono B_7.out.size))
        clear B_7
        have F_8 := Lib.hid (F_7.out.step hb)
        clear F_7
        have R_8 := Lib.hid (R_7.out.step hb)
        clear R_7
        have BK_8 := Lib.hid (BK_7.out.trans (hb.mono BK_7.out.size))
        clear BK_7
        clear hb
        clear q0
        go_wp2
        go_ret
        exact ⟨rfl, B_8.out⟩
end Go.Proofs.Ytdhjflhpenkchaa
