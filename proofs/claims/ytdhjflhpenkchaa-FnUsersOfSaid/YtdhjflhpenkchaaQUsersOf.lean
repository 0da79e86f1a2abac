/- laws.FnUsersOf returns true for all bytes, and writes nothing that was there. (Made by genpl.py.) -/
import Derived.Test.YtdhjflhpenkchaaR18
import Derived.Test.YtdhjflhpenkchaaR19
import Derived.Test.YtdhjflhpenkchaaH4
import Derived.Test.YtdhjflhpenkchaaM26
import Derived.Deep.RegionHeld3

namespace Go.Proofs.Ytdhjflhpenkchaa
set_option linter.unusedSimpArgs false
set_option linter.unusedVariables false
open Go.RowKit

set_option maxRecDepth 100000 in
set_option maxHeartbeats 6400000 in
theorem plaw_UsersOf (A : Option Addr) (n c : Nat) (bs : List Int) (w : World) (hn : n = bs.length) (hnc : n ≤ c) (h : BS w w.heap.size A bs) (hy : BY bs) (hm : n ≤ 9223372036854775807) :
    Calls Try.prog 3 #[.slice A n c] w fun e w' => e = .returned (.bool true) ∧ Below w.heap.size w w' := by
  by_cases hs : 1048576 < n
  · clear hn hnc h hy
    go_enter Try.func3, Try.ntmps3
    go_wp2
    go_ret
    exact ⟨rfl, Below.refl _ _⟩
  have HC := Lib.hid (spec_DrawUsersOf A n c bs w hn hnc h hy (by omega))
  clear hn hnc h hy
  go_enter Try.func3, Try.ntmps3
  go_wp2_with fail
  refine HC.out.mono ?_
  rintro e w1 ⟨A1, n1, c1, gs, x, rfl, hp1, hp2, hp3, hnc1, hsm, hx1, hx2, hP, hb⟩
  have HN1 := Lib.hid hp1
  have HG := Lib.hid (GB.of_drawn (by omega) hsm)
  have P_1 := Lib.hid (hP)
  have B_1 := Lib.hid (hb)
  clear hP hp1 hb HC hsm
  go_wp2_with fail
  obtain ⟨w2, hw2⟩ : ∃ W, W = w1.alloc (.cells #[.slice A1 n1 c1] 25) := ⟨_, rfl⟩
  have hb : Below w1.heap.size w1 w2 := by rw [hw2]; exact (Below.refl _ _).alloc (Nat.le_refl _) _
  have P_2 := Lib.hid (P_1.out.step hb)
  clear P_1
  have B_2 := Lib.hid (B_1.out.trans (hb.mono B_1.out.size))
  clear B_1
  have F_2 : Hid (As w1.heap.size (w1.heap.size + 1) (fun w' => w'.cell? ⟨w1.heap.size, 0, none⟩ = some (.slice A1 n1 c1)) w2) := by rw [hw2]; exact box_new _ _ _
  clear hb
  rw [← hw2]
  clear hw2
  have HIM := Lib.hid fun (w' : World) (h : GS w' w'.heap.size A1 gs) => top_impl_UsersOf gs x HG.out A1 n1 c1 w' HN1.out hnc1 h
  have HSP := Lib.hid fun (w' : World) (h : GS w' w'.heap.size A1 gs) => top_spec_UsersOf gs x HG.out A1 n1 c1 w' HN1.out hnc1 h
  have HVG := Lib.hid fun (w' : World) (h : GS w' w'.heap.size A1 gs) => impl_ValidGraph A1 n1 c1 gs w' _ (Nat.le_refl _) HN1.out h HG.out hnc1
  have hml := usersF_len gs x
  have HMEM := Lib.hid fun (hv : validG gs = true) (t : Nat) (e : x = (t : Int)) (ht : t < gs.length) (i : Nat) (hi : i < gs.length) => (by rw [e, mayF_valid gs i hv hi]; exact usersF_mem gs t i (hasB_nat gs hv t ht) hi : decide ((i : Int) ∈ usersF gs x) = decide (x ∈ mayF (gs.getD i default).ps))
  have HASC := Lib.hid fun (hv : validG gs = true) (t : Nat) (e : x = (t : Int)) (ht : t < gs.length) => (by rw [e, usersF_at gs t (hasB_nat gs hv t ht)]; exact fun j hj => nwTo_asc _ _ j hj : ∀ j, j + 1 < (usersF gs x).length → (usersF gs x).getD j 0 < (usersF gs x).getD (j + 1) 0)
  have HEF := Lib.hid fun (hv : validG gs = true) (t : Nat) (e : x = (t : Int)) (ht : t < gs.length) (hk : ((gs.getD t default).k == 2) = true) => (by rw [e]; exact effect_users gs hv t ht hk : usersF gs x = [])
  generalize validG gs = v at *
  generalize usersF gs x = R at *
  have q0 := F_2.out.it
  go_wp2_with fail
  refine (HIM.out w2 P_2.out).mono ?_
  rintro e w3 ⟨v, rfl, ho, hb⟩
  have P_3 := Lib.hid (P_2.out.step hb)
  clear P_2
  have B_3 := Lib.hid (B_2.out.trans (hb.mono B_2.out.size))
  clear B_2
  have F_3 := Lib.hid (F_2.out.step hb)
  clear F_2
  clear hb
  clear q0
  obtain ⟨A3, c3, rfl, hI9⟩ := OwnI.form ho
  obtain ⟨rl, hl2⟩ : ∃ l, l = R.length := ⟨_, rfl⟩
  have HRL := Lib.hid hl2
  rw [← hl2]
  have R_3 := Lib.hid (hI9)
  clear ho hI9 hl2
  rw [← HRL.out] at hml
  have q0 := F_3.out.it
  go_wp2_with fail
  refine (HSP.out w3 P_3.out).mono ?_
  rintro e w4 ⟨v, rfl, ho, hb⟩
  obtain ⟨A4, c4, rfl, hI9⟩ := OwnI.form ho
  have P_4 := Lib.hid (P_3.out.step hb)
  clear P_3
  have B_4 := Lib.hid (B_3.out.trans (hb.mono B_3.out.size))
  clear B_3
  have F_4 := Lib.hid (F_3.out.step hb)
  clear F_3
  have R_4 := Lib.hid (R_3.out.step hb)
  clear R_3
  clear hb
  clear q0
  rw [← HRL.out]
  have HEQ := Lib.hid (laws_equalInts A3 A4 rl rl c3 c4 R R w4 w4.heap.size (Nat.le_refl _) HRL.out HRL.out R_4.out hI9 (by omega) (by omega))
  rw [show decide (R = R) = true from decide_eq_true rfl] at HEQ
  clear ho hI9
  have q0 := F_4.out.it
  go_wp2_with fail
  refine (HEQ.out).mono ?_
  rintro e w5 ⟨rfl, hb⟩
  have P_5 := Lib.hid (P_4.out.step hb)
  clear P_4
  have B_5 := Lib.hid (B_4.out.trans (hb.mono B_4.out.size))
  clear B_4
  have F_5 := Lib.hid (F_4.out.step hb)
  clear F_4
  have R_5 := Lib.hid (R_4.out.step hb)
  clear R_4
  clear hb
  clear q0
  clear HEQ
  have q0 := F_5.out.it
  go_wp2_with fail
  refine (HVG.out w5 P_5.out).mono ?_
  rintro e w6 ⟨rfl, hb⟩
  have P_6 := Lib.hid (P_5.out.step hb)
  clear P_5
  have B_6 := Lib.hid (B_5.out.trans (hb.mono B_5.out.size))
  clear B_5
  have F_6 := Lib.hid (F_5.out.step hb)
  clear F_5
  have R_6 := Lib.hid (R_5.out.step hb)
  clear R_5
  clear hb
  clear q0
  cases v
  · skip
    have q0 := F_6.out.it
    go_wp2_with fail
    refine (HSP.out w6 P_6.out).mono ?_
    rintro e w7 ⟨v, rfl, ho, hb⟩
    obtain ⟨A4, c4, rfl, hI9⟩ := OwnI.form ho
    have P_7 := Lib.hid (P_6.out.step hb)
    clear P_6
    have B_7 := Lib.hid (B_6.out.trans (hb.mono B_6.out.size))
    clear B_6
    have F_7 := Lib.hid (F_6.out.step hb)
    clear F_6
    have R_7 := Lib.hid (R_6.out.step hb)
    clear R_6
    clear hb
    clear q0
    rw [← HRL.out]
    have HEQ := Lib.hid (laws_equalInts A3 A4 rl rl c3 c4 R R w7 w7.heap.size (Nat.le_refl _) HRL.out HRL.out R_7.out hI9 (by omega) (by omega))
    rw [show decide (R = R) = true from decide_eq_true rfl] at HEQ
    clear ho hI9
    have q0 := F_7.out.it
    go_wp2_with fail
    refine (HEQ.out).mono ?_
    rintro e w8 ⟨rfl, hb⟩
    have P_8 := Lib.hid (P_7.out.step hb)
    clear P_7
    have B_8 := Lib.hid (B_7.out.trans (hb.mono B_7.out.size))
    clear B_7
    have F_8 := Lib.hid (F_7.out.step hb)
    clear F_7
    have R_8 := Lib.hid (R_7.out.step hb)
    clear R_7
    clear hb
    clear q0
    clear HEQ
    go_wp2
    go_ret
    exact ⟨rfl, B_8.out⟩
  · by_cases hx0 : x < 0
    · skip
      have q0 := F_6.out.it
      go_wp2_with fail
      refine (HSP.out w6 P_6.out).mono ?_
      rintro e w7 ⟨v, rfl, ho, hb⟩
      obtain ⟨A4, c4, rfl, hI9⟩ := OwnI.form ho
      have P_7 := Lib.hid (P_6.out.step hb)
      clear P_6
      have B_7 := Lib.hid (B_6.out.trans (hb.mono B_6.out.size))
      clear B_6
      have F_7 := Lib.hid (F_6.out.step hb)
      clear F_6
      have R_7 := Lib.hid (R_6.out.step hb)
      clear R_6
      clear hb
      clear q0
      rw [← HRL.out]
      have HEQ := Lib.hid (laws_equalInts A3 A4 rl rl c3 c4 R R w7 w7.heap.size (Nat.le_refl _) HRL.out HRL.out R_7.out hI9 (by omega) (by omega))
      rw [show decide (R = R) = true from decide_eq_true rfl] at HEQ
      clear ho hI9
      have q0 := F_7.out.it
      go_wp2_with fail
      refine (HEQ.out).mono ?_
      rintro e w8 ⟨rfl, hb⟩
      have P_8 := Lib.hid (P_7.out.step hb)
      clear P_7
      have B_8 := Lib.hid (B_7.out.trans (hb.mono B_7.out.size))
      clear B_7
      have F_8 := Lib.hid (F_7.out.step hb)
      clear F_7
      have R_8 := Lib.hid (R_7.out.step hb)
      clear R_7
      clear hb
      clear q0
      clear HEQ
      go_wp2
      go_ret
      exact ⟨rfl, B_8.out⟩
    · by_cases hxn : (n1 : Int) ≤ x
      · skip
        have q0 := F_6.out.it
        go_wp2_with fail
        refine (HSP.out w6 P_6.out).mono ?_
        rintro e w7 ⟨v, rfl, ho, hb⟩
        obtain ⟨A4, c4, rfl, hI9⟩ := OwnI.form ho
        have P_7 := Lib.hid (P_6.out.step hb)
        clear P_6
        have B_7 := Lib.hid (B_6.out.trans (hb.mono B_6.out.size))
        clear B_6
        have F_7 := Lib.hid (F_6.out.step hb)
        clear F_6
        have R_7 := Lib.hid (R_6.out.step hb)
        clear R_6
        clear hb
        clear q0
        rw [← HRL.out]
        have HEQ := Lib.hid (laws_equalInts A3 A4 rl rl c3 c4 R R w7 w7.heap.size (Nat.le_refl _) HRL.out HRL.out R_7.out hI9 (by omega) (by omega))
        rw [show decide (R = R) = true from decide_eq_true rfl] at HEQ
        clear ho hI9
        have q0 := F_7.out.it
        go_wp2_with fail
        refine (HEQ.out).mono ?_
        rintro e w8 ⟨rfl, hb⟩
        have P_8 := Lib.hid (P_7.out.step hb)
        clear P_7
        have B_8 := Lib.hid (B_7.out.trans (hb.mono B_7.out.size))
        clear B_7
        have F_8 := Lib.hid (F_7.out.step hb)
        clear F_7
        have R_8 := Lib.hid (R_7.out.step hb)
        clear R_7
        clear hb
        clear q0
        clear HEQ
        go_wp2
        go_ret
        exact ⟨rfl, B_8.out⟩
      · obtain ⟨t, rfl⟩ : ∃ t : Nat, x = (t : Int) := ⟨x.toNat, by omega⟩
        have htn : t < n1 := by omega
        have HM2 := Lib.hid (HMEM.out (by first | rfl | trivial) t rfl (by have := HN1.out; omega))
        have HA2 := Lib.hid (HASC.out (by first | rfl | trivial) t rfl (by have := HN1.out; omega))
        have HE2 := Lib.hid (HEF.out (by first | rfl | trivial) t rfl (by have := HN1.out; omega))
        have HTN := Lib.hid htn
        clear HMEM HASC HEF HIM HSP HVG
        have q0 := F_6.out.it
        go_wp2
        clear htn hxn hx0
        rename (0 ≤ (t : Int) ∧ ¬ n1 ≤ t) => h7
        clear h7
        go_loopw [6] (fun u wr => ∃ k : Nat, k ≤ n1 ∧ u = .int .i64 k ∧ Hid (Below w6.heap.size w6 wr) ∧ w6.heap.size ≤ wr.heap.size) (fun u _ => n1 - (intOf u).toNat)
        case atStart => exact ⟨0, Nat.zero_le _, rfl, Below.refl _ _, Nat.le_refl _⟩
        case round =>
          obtain ⟨k, hk, rfl, HB, hwr⟩ := hrel
          obtain ⟨w7, hwK⟩ : ∃ W, W = wr := ⟨_, rfl⟩
          rw [← hwK]
          rw [← hwK] at HB hwr
          clear hwK
          have P_7 := Lib.hid (P_6.out.step HB.out)
          have B_7 := Lib.hid (B_6.out.trans (HB.out.mono B_6.out.size))
          have F_7 := Lib.hid (F_6.out.step HB.out)
          have R_7 := Lib.hid (R_6.out.step HB.out)
          have BK_7 := HB
          clear HB
          clear q0
          have q1 := F_7.out.it
          by_cases hlt : k < n1
          · skip
            obtain ⟨b, off, rfl, hbB, d0, A6, n6, c6, d1, hn6, hps⟩ := P_7.out.at_ k (by have := HN1.out; omega)
            have hmm := HM2.out k (by have := HN1.out; omega)
            have h40 := HG.out.2 k
            generalize gs.getD k default = d at *
            have HMR := Lib.hid fun (w' : World) (h : PS w' w'.heap.size A6 d.ps) => impl_MayRead A6 n6 c6 d.ps w' _ (Nat.le_refl _) hn6 h (by omega)
            clear hn6
            have hlm := mayF_le d.ps
            generalize mayF d.ps = M at *
            have HI1 := Lib.hid fun (w' : World) (h : IS w' w'.heap.size A3 R) => isIn_g A3 rl c3 R (k : Int) w' HRL.out h (by omega)
            rw [hmm] at HI1
            generalize hpm : decide ((t : Int) ∈ M) = pm at *
            have hne : (pm != pm) = false := by simp
            have HPM := Lib.hid hpm
            clear hpm hmm h40
            have S_7 := Lib.hid (hps)
            have d1_7 : Hid (C1 b (off + k * 2 + 1) (.slice A6 n6 c6) w7) := ⟨hbB, d1⟩
            clear hps d0 d1
            go_wp2
            refine wp_region_held_drew (S := fun w' => w'.cell? ⟨w1.heap.size, 0, none⟩ = some (.slice (some ⟨b, off, none⟩) n1 c1) ∧ w'.cell? ⟨b, off + k * 2 + 1, none⟩ = some (.slice A6 n6 c6)) (by kernel_rfl) ⟨F_7.out.it, d1_7.out.2⟩ (fun hHeld => ?_)
            refine wpAnyH_take (i := 0) (oi := ⟨some 52, _, _, _, _, _⟩) (v := ?_) rfl (by kernel_rfl) (by kernel_rfl) (by kernel_rfl) (fun _ _ _ h => h) (Or.inl ⟨by rfl, ?_⟩) (by assumption) ?_; rotate_left; (focus (intro w hSw; (try dsimp only at hSw); go_simp; (try with_reducible rfl))); (try simp only [Act.put, List.setIfInBounds_toArray, List.set_cons_zero, List.set_cons_succ])
            refine wpAnyH_take (i := 1) (oi := ⟨some 53, _, _, _, _, _⟩) (v := ?_) rfl (by kernel_rfl) (by kernel_rfl) (by kernel_rfl) (fun _ _ _ h => h) (Or.inl ⟨by rfl, ?_⟩) (by assumption) ?_; rotate_left; (focus (intro w hSw; (try dsimp only at hSw); go_simp; (try with_reducible rfl))); (try simp only [Act.put, List.setIfInBounds_toArray, List.set_cons_zero, List.set_cons_succ])
            refine wpAnyH_take (i := 3) (oi := ⟨some 55, _, _, _, _, _⟩) (v := ?_) rfl (by kernel_rfl) (by kernel_rfl) (by kernel_rfl) (fun _ _ _ h => h) (Or.inl ⟨by rfl, ?_⟩) (by assumption) ?_; rotate_left; (focus (intro w hSw; (try dsimp only at hSw); go_simp; (try with_reducible rfl))); (try simp only [Act.put, List.setIfInBounds_toArray, List.set_cons_zero, List.set_cons_succ])
            refine wpAnyH_take (i := 4) (oi := ⟨some 56, _, _, _, _, _⟩) (v := ?_) rfl (by kernel_rfl) (by kernel_rfl) (by kernel_rfl) (fun _ _ _ h => h) (Or.inl ⟨by rfl, ?_⟩) (by assumption) ?_; rotate_left; (focus (intro w hSw; (try dsimp only at hSw); go_simp; (try with_reducible rfl))); (try simp only [Act.put, List.setIfInBounds_toArray, List.set_cons_zero, List.set_cons_succ])
            refine wpAnyH_take (i := 5) (oi := ⟨some 57, _, _, _, _, _⟩) (v := ?_) rfl (by kernel_rfl) (by kernel_rfl) (by kernel_rfl) (fun _ _ _ h => h) (Or.inl ⟨by rfl, ?_⟩) (by assumption) ?_; rotate_left; (focus (intro w hSw; (try dsimp only at hSw); go_simp; (try with_reducible rfl))); (try simp only [Act.put, List.setIfInBounds_toArray, List.set_cons_zero, List.set_cons_succ])
            refine wpAnyH_take (i := 6) (oi := ⟨some 58, _, _, _, _, _⟩) (v := ?_) rfl (by kernel_rfl) (by kernel_rfl) (by kernel_rfl) (fun _ _ _ h => h) (Or.inl ⟨by rfl, ?_⟩) (by assumption) ?_; rotate_left; (focus (intro w hSw; (try dsimp only at hSw); go_simp; (try with_reducible rfl))); (try simp only [Act.put, List.setIfInBounds_toArray, List.set_cons_zero, List.set_cons_succ])
            refine wpAnyH_take (i := 7) (oi := ⟨some 59, _, _, _, _, _⟩) (v := ?_) rfl (by kernel_rfl) (by kernel_rfl) (by kernel_rfl) (fun _ _ _ h => h) (Or.inl ⟨by rfl, ?_⟩) (by assumption) ?_; rotate_left; (focus (intro w hSw; (try dsimp only at hSw); go_simp; (try with_reducible rfl))); (try simp only [Act.put, List.setIfInBounds_toArray, List.set_cons_zero, List.set_cons_succ])
            refine wpAnyH_take (i := 8) (oi := ⟨some 60, _, _, _, _, _⟩) (v := ?_) rfl (by kernel_rfl) (by kernel_rfl) (by kernel_rfl) (fun _ _ _ h => h) (Or.inl ⟨by rfl, ?_⟩) (by assumption) ?_; rotate_left; (focus (intro w hSw; (try dsimp only at hSw); go_simp; (try with_reducible rfl))); (try simp only [Act.put, List.setIfInBounds_toArray, List.set_cons_zero, List.set_cons_succ])
            refine wpAnyH_take (i := 10) (oi := ⟨some 62, _, _, _, _, _⟩) (v := ?_) rfl (by kernel_rfl) (by kernel_rfl) (by kernel_rfl) (fun _ _ _ h => h) (Or.inl ⟨by rfl, ?_⟩) (by assumption) ?_; rotate_left; (focus (intro w hSw; (try dsimp only at hSw); go_simp; (try with_reducible rfl))); (try simp only [Act.put, List.setIfInBounds_toArray, List.set_cons_zero, List.set_cons_succ])
            refine wpAnyH_ready (rs := [2]) (by kernel_rfl) (by simp) ?_; refine AllReadyH.cons (o := ⟨some 54, _, _, _, _, _⟩) rfl (fun K hK => ?_) AllReadyH.nil; go_simp
            go_at_call 18
            refine (HI1.out w7.drew R_7.out).mono ?_
            rintro e w8 ⟨rfl, hb'⟩
            have hb : Below w7.heap.size w7 w8 := below_of_drew hb'
            have P_8 := Lib.hid (P_7.out.step hb)
            clear P_7
            have B_8 := Lib.hid (B_7.out.trans (hb.mono B_7.out.size))
            clear B_7
            have F_8 := Lib.hid (F_7.out.step hb)
            clear F_7
            have R_8 := Lib.hid (R_7.out.step hb)
            clear R_7
            have BK_8 := Lib.hid (BK_7.out.trans (hb.mono BK_7.out.size))
            clear BK_7
            have S_8 := Lib.hid (S_7.out.step hb)
            clear S_7
            have d1_8 := Lib.hid (d1_7.out.step hb)
            clear d1_7
            clear hb hb'
            refine hK.out _ _ ⟨F_8.out.it, d1_8.out.2⟩ (fun hHeld => ?_); clear hK K; (try simp only [Act.put, List.setIfInBounds_toArray, List.set_cons_zero, List.set_cons_succ])
            refine wpAnyH_ready (rs := [9]) (by kernel_rfl) (by simp) ?_; refine AllReadyH.cons (o := ⟨some 61, _, _, _, _, _⟩) rfl (fun K hK => ?_) AllReadyH.nil; go_simp
            go_at_call 19
            refine (HMR.out w8 S_8.out).mono ?_
            rintro e w9 ⟨v7, rfl, ho, hb⟩
            obtain ⟨A7, c7, rfl, hI9⟩ := OwnI.form ho
            obtain ⟨ml, hl2⟩ : ∃ l, l = M.length := ⟨_, rfl⟩
            have HML := Lib.hid hl2
            rw [← hl2]
            have P_9 := Lib.hid (P_8.out.step hb)
            clear P_8
            have B_9 := Lib.hid (B_8.out.trans (hb.mono B_8.out.size))
            clear B_8
            have F_9 := Lib.hid (F_8.out.step hb)
            clear F_8
            have R_9 := Lib.hid (R_8.out.step hb)
            clear R_8
            have BK_9 := Lib.hid (BK_8.out.trans (hb.mono BK_8.out.size))
            clear BK_8
            have S_9 := Lib.hid (S_8.out.step hb)
            clear S_8
            have d1_9 := Lib.hid (d1_8.out.step hb)
            clear d1_8
            clear hb
            have M_9 := Lib.hid (hI9)
            clear ho hI9 hl2
            refine hK.out _ _ ⟨F_9.out.it, d1_9.out.2⟩ (fun hHeld => ?_); clear hK K; (try simp only [Act.put, List.setIfInBounds_toArray, List.set_cons_zero, List.set_cons_succ])
            refine wpAnyH_ready (rs := [11]) (by kernel_rfl) (by simp) ?_; refine AllReadyH.cons (o := ⟨some 63, _, _, _, _, _⟩) rfl (fun K hK => ?_) AllReadyH.nil; go_simp
            go_at_call 18
            refine (isIn_g A7 ml c7 M (t : Int) w9 HML.out M_9.out (by have := HML.out; omega)).mono ?_
            rintro e w10 ⟨rfl, hb⟩
            rw [HPM.out]
            have P_10 := Lib.hid (P_9.out.step hb)
            clear P_9
            have B_10 := Lib.hid (B_9.out.trans (hb.mono B_9.out.size))
            clear B_9
            have F_10 := Lib.hid (F_9.out.step hb)
            clear F_9
            have R_10 := Lib.hid (R_9.out.step hb)
            clear R_9
            have BK_10 := Lib.hid (BK_9.out.trans (hb.mono BK_9.out.size))
            clear BK_9
            have S_10 := Lib.hid (S_9.out.step hb)
            clear S_9
            have d1_10 := Lib.hid (d1_9.out.step hb)
            clear d1_9
            have M_10 := Lib.hid (M_9.out.step hb)
            clear M_9
            clear hb
            refine hK.out _ _ ⟨F_10.out.it, d1_10.out.2⟩ (fun hHeld => ?_); clear hK K; (try simp only [Act.put, List.setIfInBounds_toArray, List.set_cons_zero, List.set_cons_succ])
            refine wpAnyH_take (i := 12) (oi := ⟨some 64, _, _, _, _, _⟩) (v := ?_) rfl (by kernel_rfl) (by kernel_rfl) (by kernel_rfl) (fun _ _ _ h => h) (Or.inl ⟨by rfl, ?_⟩) (by assumption) ?_; rotate_left; (focus (intro w hSw; (try dsimp only at hSw); go_simp; (try with_reducible rfl))); (try simp only [Act.put, List.setIfInBounds_toArray, List.set_cons_zero, List.set_cons_succ])
            refine wpAnyH_done (by kernel_rfl) ?_ _
            go_wp2
            go_roundw
            case rel => exact ⟨k + 1, by omega, by go_num, BK_10.out, BK_10.out.size⟩
            case measure => simp [intOf]; omega
          · obtain rfl : k = n1 := by omega
            have HAS := Lib.hid fun (w' : World) (h : IS w' w'.heap.size A3 R) => laws_ascends A3 rl c3 R w' _ (Nat.le_refl _) HRL.out h (by omega) HA2.out
            have q0 := F_7.out.it
            go_wp2_with fail
            refine (HAS.out w7 R_7.out).mono ?_
            rintro e w8 ⟨rfl, hb⟩
            have P_8 := Lib.hid (P_7.out.step hb)
            clear P_7
            have B_8 := Lib.hid (B_7.out.trans (hb.mono B_7.out.size))
            clear B_7
            have F_8 := Lib.hid (F_7.out.step hb)
            clear F_7
            have R_8 := Lib.hid (R_7.out.step hb)
            clear R_7
            have BK_8 := Lib.hid (BK_7.out.trans (hb.mono BK_7.out.size))
            clear BK_7
            clear hb
            clear q0
            obtain ⟨b, off, rfl, hbB, d0, A6, n6, c6, d1, hn6, hps⟩ := P_8.out.at_ t (by have := HN1.out; have := HTN.out; omega)
            clear d1 hn6 hps
            have hef := HE2.out
            generalize gs.getD t default = d at *
            have q2 := F_8.out.it
            cases hd : (d.k == 2)
            · have hd2 : (d.k != 2) = true := by simp [bne, hd]
              clear hef
              go_wp2
              go_ret
              exact ⟨rfl, B_8.out⟩
            · have hd2 : (d.k != 2) = false := by simp [bne, hd]
              have hr0 : rl = 0 := by rw [HRL.out, hef hd]; rfl
              subst hr0
              clear hef
              go_wp2
              go_ret
              exact ⟨rfl, B_8.out⟩
end Go.Proofs.Ytdhjflhpenkchaa
