/- laws.FnReachOf returns true for all bytes, and writes nothing that was there. (Made by genpl.py.) -/
import Derived.Test.YtdhjflhpenkchaaR18
import Derived.Test.YtdhjflhpenkchaaR19
import Derived.Test.YtdhjflhpenkchaaH7
import Derived.Test.YtdhjflhpenkchaaM26
import Derived.Deep.RegionHeld3
import Derived.Test.YtdhjflhpenkchaaM27

namespace Go.Proofs.Ytdhjflhpenkchaa
set_option linter.unusedSimpArgs false
set_option linter.unusedVariables false
open Go.RowKit

set_option maxRecDepth 100000 in
set_option maxHeartbeats 6400000 in
theorem plaw_ReachOf (A : Option Addr) (n c : Nat) (bs : List Int) (w : World) (hn : n = bs.length) (hnc : n ≤ c) (h : BS w w.heap.size A bs) (hy : BY bs) (hm : n ≤ 9223372036854775807) :
    Calls Try.prog 4 #[.slice A n c] w fun e w' => e = .returned (.bool true) ∧ Below w.heap.size w w' := by
  by_cases hs : 1048576 < n
  · clear hn hnc h hy
    go_enter Try.func4, Try.ntmps4
    go_wp2
    go_ret
    exact ⟨rfl, Below.refl _ _⟩
  have HC := Lib.hid (spec_DrawReachOf A n c bs w hn hnc h hy (by omega))
  clear hn hnc h hy
  go_enter Try.func4, Try.ntmps4
  go_wp2_with fail
  refine HC.out.mono ?_
  rintro e w1 ⟨A1, n1, c1, gs, x, rfl, hp1, hp2, hp3, hnc1, hsm, hx1, hx2, hP, hb⟩
  have HN1 := Lib.hid hp1
  have HG := Lib.hid (GB.of_drawn (by omega) hsm)
  have P_1 := Lib.hid (hP)
  have B_1 := Lib.hid (hb)
  clear hP hp1 hb HC hsm
  go_wp2_with fail
  obtain ⟨w2, hw2⟩ : ∃ W, W = w1.alloc (.cells #[.slice A1 n1 c1] 25) := ⟨_, rfl⟩
  have hb : Below w1.heap.size w1 w2 := by rw [hw2]; exact (Below.refl _ _).alloc (Nat.le_refl _) _
  have P_2 := Lib.hid (P_1.out.step hb)
  clear P_1
  have B_2 := Lib.hid (B_1.out.trans (hb.mono B_1.out.size))
  clear B_1
  have F_2 : Hid (As w1.heap.size (w1.heap.size + 1) (fun w' => w'.cell? ⟨w1.heap.size, 0, none⟩ = some (.slice A1 n1 c1)) w2) := by rw [hw2]; exact box_new _ _ _
  clear hb
  rw [← hw2]
  clear hw2
  have HIM := Lib.hid fun (w' : World) (h : GS w' w'.heap.size A1 gs) => top_impl_ReachOf gs x HG.out A1 n1 c1 w' HN1.out hnc1 h
  have HSP := Lib.hid fun (w' : World) (h : GS w' w'.heap.size A1 gs) => top_spec_ReachOf gs x HG.out A1 n1 c1 w' HN1.out hnc1 h
  have hml := reachF_len gs x
  obtain ⟨R, hR⟩ : ∃ R, R = reachF gs x := ⟨_, rfl⟩
  have HR := Lib.hid hR
  rw [← hR] at HIM HSP hml
  clear hR
  have q0 := F_2.out.it
  go_wp2_with fail
  refine (HIM.out w2 P_2.out).mono ?_
  rintro e w3 ⟨v, rfl, ho, hb⟩
  have P_3 := Lib.hid (P_2.out.step hb)
  clear P_2
  have B_3 := Lib.hid (B_2.out.trans (hb.mono B_2.out.size))
  clear B_2
  have F_3 := Lib.hid (F_2.out.step hb)
  clear F_2
  clear hb
  clear q0
  obtain ⟨A3, c3, rfl, hI9⟩ := OwnI.form ho
  obtain ⟨rl, hl2⟩ : ∃ l, l = R.length := ⟨_, rfl⟩
  have HRL := Lib.hid hl2
  rw [← hl2]
  have R_3 := Lib.hid (hI9)
  clear ho hI9 hl2
  rw [← HRL.out] at hml
  have q0 := F_3.out.it
  go_wp2_with fail
  refine (HSP.out w3 P_3.out).mono ?_
  rintro e w4 ⟨v, rfl, ho, hb⟩
  obtain ⟨A4, c4, rfl, hI9⟩ := OwnI.form ho
  have P_4 := Lib.hid (P_3.out.step hb)
  clear P_3
  have B_4 := Lib.hid (B_3.out.trans (hb.mono B_3.out.size))
  clear B_3
  have F_4 := Lib.hid (F_3.out.step hb)
  clear F_3
  have R_4 := Lib.hid (R_3.out.step hb)
  clear R_3
  clear hb
  clear q0
  rw [← HRL.out]
  have HEQ := Lib.hid (laws_equalInts A3 A4 rl rl c3 c4 R R w4 w4.heap.size (Nat.le_refl _) HRL.out HRL.out R_4.out hI9 (by omega) (by omega))
  rw [show decide (R = R) = true from decide_eq_true rfl] at HEQ
  clear ho hI9
  have q0 := F_4.out.it
  go_wp2_with fail
  refine (HEQ.out).mono ?_
  rintro e w5 ⟨rfl, hb⟩
  have P_5 := Lib.hid (P_4.out.step hb)
  clear P_4
  have B_5 := Lib.hid (B_4.out.trans (hb.mono B_4.out.size))
  clear B_4
  have F_5 := Lib.hid (F_4.out.step hb)
  clear F_4
  have R_5 := Lib.hid (R_4.out.step hb)
  clear R_4
  clear hb
  clear q0
  clear HEQ
  cases hb : hasB gs x
  · skip
    have hrl0 : rl = 0 := by rw [HRL.out, HR.out, reachF_none gs x hb]; rfl
    have hz0 : ((rl : Int) == 0) = true := by rw [hrl0]; rfl
    clear hb hrl0
    have q0 := F_5.out.it
    go_wp2_with fail
    refine (HSP.out w5 P_5.out).mono ?_
    rintro e w6 ⟨v, rfl, ho, hb⟩
    obtain ⟨A4, c4, rfl, hI9⟩ := OwnI.form ho
    have P_6 := Lib.hid (P_5.out.step hb)
    clear P_5
    have B_6 := Lib.hid (B_5.out.trans (hb.mono B_5.out.size))
    clear B_5
    have F_6 := Lib.hid (F_5.out.step hb)
    clear F_5
    have R_6 := Lib.hid (R_5.out.step hb)
    clear R_5
    clear hb
    clear q0
    rw [← HRL.out]
    have HEQ := Lib.hid (laws_equalInts A3 A4 rl rl c3 c4 R R w6 w6.heap.size (Nat.le_refl _) HRL.out HRL.out R_6.out hI9 (by omega) (by omega))
    rw [show decide (R = R) = true from decide_eq_true rfl] at HEQ
    clear ho hI9
    have q0 := F_6.out.it
    go_wp2_with fail
    refine (HEQ.out).mono ?_
    rintro e w7 ⟨rfl, hb⟩
    have P_7 := Lib.hid (P_6.out.step hb)
    clear P_6
    have B_7 := Lib.hid (B_6.out.trans (hb.mono B_6.out.size))
    clear B_6
    have F_7 := Lib.hid (F_6.out.step hb)
    clear F_6
    have R_7 := Lib.hid (R_6.out.step hb)
    clear R_6
    clear hb
    clear q0
    clear HEQ
    go_wp2
    go_ret
    exact ⟨rfl, B_7.out⟩
  · obtain ⟨hv, _, t, rfl, htg⟩ := hasB_parts gs x hb
    have HV := Lib.hid hv
    have HTG := Lib.hid htg
    have htn : t < n1 := by have := HN1.out; omega
    clear hb hv htg HIM HSP
    obtain ⟨hf1, hf2, hf3, hf4, hf5⟩ := reach_facts gs HV.out t HTG.out
    rw [← HR.out] at hf1 hf2 hf3 hf4 hf5
    have HF1 := Lib.hid hf1
    have HF2 := Lib.hid hf2
    have HF3 := Lib.hid hf3
    have HF4 := Lib.hid hf4
    rw [← HRL.out] at hf5
    have hrn : ((rl : Int) == 0) = false := by simp; omega
    clear hf1 hf2 hf3 hf4 htn
    have q0 := F_5.out.it
    go_wp2
    go_loopw [6] (fun u wr => ∃ k : Nat, k ≤ n1 ∧ u = .int .i64 k ∧ Hid (Below w5.heap.size w5 wr) ∧ w5.heap.size ≤ wr.heap.size) (fun u _ => n1 - (intOf u).toNat)
    case atStart => exact ⟨0, Nat.zero_le _, rfl, Below.refl _ _, Nat.le_refl _⟩
    case round =>
      obtain ⟨k, hk, rfl, HB, hwr⟩ := hrel
      obtain ⟨w6, hwK⟩ : ∃ W, W = wr := ⟨_, rfl⟩
      rw [← hwK]
      rw [← hwK] at HB hwr
      clear hwK
      have P_6 := Lib.hid (P_5.out.step HB.out)
      have B_6 := Lib.hid (B_5.out.trans (HB.out.mono B_5.out.size))
      have F_6 := Lib.hid (F_5.out.step HB.out)
      have R_6 := Lib.hid (R_5.out.step HB.out)
      have BK_6 := HB
      clear HB
      clear q0
      have q1 := F_6.out.it
      by_cases hlt : k < n1
      · skip
        have hkg : k < gs.length := by have := HN1.out; omega
        have HI1 := Lib.hid fun (w' : World) (h : IS w' w'.heap.size A3 R) => isIn_g A3 rl c3 R (k : Int) w' HRL.out h (by omega)
        have HUS := Lib.hid fun (w' : World) (h : GS w' w'.heap.size A1 gs) => top_impl_UsersOf gs (k : Int) HG.out A1 n1 c1 w' HN1.out hnc1 h
        have HND := Lib.hid fun (w' : World) (h : GS w' w'.heap.size A1 gs) => top_impl_NeedOf gs (k : Int) HG.out A1 n1 c1 w' HN1.out hnc1 h
        have hul := usersF_len gs (k : Int)
        have hnl := needF_len gs (k : Int)
        have h1 := HF1.out k hkg
        have h2 := HF2.out k hkg
        obtain ⟨U, hU⟩ : ∃ U, U = usersF gs (k : Int) := ⟨_, rfl⟩
        obtain ⟨N, hN⟩ : ∃ N, N = needF gs (k : Int) := ⟨_, rfl⟩
        rw [← hU] at HUS hul h2
        rw [← hN] at HND hnl h1
        obtain ⟨pm, hpm⟩ : ∃ pm, pm = decide ((k : Int) ∈ R) := ⟨_, rfl⟩
        rw [← hpm] at HI1 h1
        have HPM := Lib.hid h1
        have HW := Lib.hid fun (e : pm = true) => h2 (of_decide_eq_true (by rw [← hpm]; exact e))
        have hne : (pm != pm) = false := by simp
        clear hU hN hpm h1 h2
        go_wp2
        cases pm
        · skip
          refine wp_region_held_drew (S := fun w' => w'.cell? ⟨w1.heap.size, 0, none⟩ = some (.slice A1 n1 c1)) (by kernel_rfl) F_6.out.it (fun hHeld => ?_)
          refine wpAnyH_take (i := 0) (oi := ⟨some 41, _, _, _, _, _⟩) (v := ?_) rfl (by kernel_rfl) (by kernel_rfl) (by kernel_rfl) (fun _ _ _ h => h) (Or.inl ⟨by rfl, ?_⟩) (by assumption) ?_; rotate_left; (focus (intro w hSw; (try dsimp only at hSw); go_simp; (try with_reducible rfl))); (try simp only [Act.put, List.setIfInBounds_toArray, List.set_cons_zero, List.set_cons_succ])
          refine wpAnyH_take (i := 1) (oi := ⟨some 42, _, _, _, _, _⟩) (v := ?_) rfl (by kernel_rfl) (by kernel_rfl) (by kernel_rfl) (fun _ _ _ h => h) (Or.inl ⟨by rfl, ?_⟩) (by assumption) ?_; rotate_left; (focus (intro w hSw; (try dsimp only at hSw); go_simp; (try with_reducible rfl))); (try simp only [Act.put, List.setIfInBounds_toArray, List.set_cons_zero, List.set_cons_succ])
          refine wpAnyH_ready (rs := [2]) (by kernel_rfl) (by simp) ?_; refine AllReadyH.cons (o := ⟨some 43, _, _, _, _, _⟩) rfl (fun K hK => ?_) AllReadyH.nil; go_simp
          go_at_call 18
          refine (HI1.out w6.drew R_6.out).mono ?_
          rintro e w7 ⟨rfl, hb'⟩
          have hb : Below w6.heap.size w6 w7 := below_of_drew hb'
          have P_7 := Lib.hid (P_6.out.step hb)
          clear P_6
          have B_7 := Lib.hid (B_6.out.trans (hb.mono B_6.out.size))
          clear B_6
          have F_7 := Lib.hid (F_6.out.step hb)
          clear F_6
          have R_7 := Lib.hid (R_6.out.step hb)
          clear R_6
          have BK_7 := Lib.hid (BK_6.out.trans (hb.mono BK_6.out.size))
          clear BK_6
          clear hb hb'
          refine hK.out _ _ F_7.out.it (fun hHeld => ?_); clear hK K; (try simp only [Act.put, List.setIfInBounds_toArray, List.set_cons_zero, List.set_cons_succ])
          refine wpAnyH_take (i := 3) (oi := ⟨some 44, _, _, _, _, _⟩) (v := ?_) rfl (by kernel_rfl) (by kernel_rfl) (by kernel_rfl) (fun _ _ _ h => h) (Or.inl ⟨by rfl, ?_⟩) (by assumption) ?_; rotate_left; (focus (intro w hSw; (try dsimp only at hSw); go_simp; (try with_reducible rfl))); (try simp only [Act.put, List.setIfInBounds_toArray, List.set_cons_zero, List.set_cons_succ])
          refine wpAnyH_take (i := 4) (oi := ⟨some 45, _, _, _, _, _⟩) (v := undef) rfl (by kernel_rfl) (by kernel_rfl) (by kernel_rfl) (fun _ _ _ h => h) (Or.inr ⟨by rfl, rfl⟩) (by assumption) ?_; (try simp only [Act.put, List.setIfInBounds_toArray, List.set_cons_zero, List.set_cons_succ])
          refine wpAnyH_take (i := 5) (oi := ⟨some 46, _, _, _, _, _⟩) (v := undef) rfl (by kernel_rfl) (by kernel_rfl) (by kernel_rfl) (fun _ _ _ h => h) (Or.inr ⟨by rfl, rfl⟩) (by assumption) ?_; (try simp only [Act.put, List.setIfInBounds_toArray, List.set_cons_zero, List.set_cons_succ])
          refine wpAnyH_take (i := 6) (oi := ⟨some 47, _, _, _, _, _⟩) (v := undef) rfl (by kernel_rfl) (by kernel_rfl) (by kernel_rfl) (fun _ _ _ h => h) (Or.inr ⟨by rfl, rfl⟩) (by assumption) ?_; (try simp only [Act.put, List.setIfInBounds_toArray, List.set_cons_zero, List.set_cons_succ])
          refine wpAnyH_take (i := 7) (oi := ⟨some 48, _, _, _, _, _⟩) (v := undef) rfl (by kernel_rfl) (by kernel_rfl) (by kernel_rfl) (fun _ _ _ h => h) (Or.inr ⟨by rfl, rfl⟩) (by assumption) ?_; (try simp only [Act.put, List.setIfInBounds_toArray, List.set_cons_zero, List.set_cons_succ])
          refine wpAnyH_take (i := 8) (oi := ⟨some 49, _, _, _, _, _⟩) (v := undef) rfl (by kernel_rfl) (by kernel_rfl) (by kernel_rfl) (fun _ _ _ h => h) (Or.inr ⟨by rfl, rfl⟩) (by assumption) ?_; (try simp only [Act.put, List.setIfInBounds_toArray, List.set_cons_zero, List.set_cons_succ])
          refine wpAnyH_take (i := 9) (oi := ⟨some 50, _, _, _, _, _⟩) (v := undef) rfl (by kernel_rfl) (by kernel_rfl) (by kernel_rfl) (fun _ _ _ h => h) (Or.inr ⟨by rfl, rfl⟩) (by assumption) ?_; (try simp only [Act.put, List.setIfInBounds_toArray, List.set_cons_zero, List.set_cons_succ])
          refine wpAnyH_take (i := 10) (oi := ⟨some 51, _, _, _, _, _⟩) (v := ?_) rfl (by kernel_rfl) (by kernel_rfl) (by kernel_rfl) (fun _ _ _ h => h) (Or.inl ⟨by rfl, ?_⟩) (by assumption) ?_; rotate_left; (focus (intro w hSw; (try dsimp only at hSw); go_simp; (try with_reducible rfl))); (try simp only [Act.put, List.setIfInBounds_toArray, List.set_cons_zero, List.set_cons_succ])
          refine wpAnyH_take (i := 11) (oi := ⟨some 52, _, _, _, _, _⟩) (v := ?_) rfl (by kernel_rfl) (by kernel_rfl) (by kernel_rfl) (fun _ _ _ h => h) (Or.inl ⟨by rfl, ?_⟩) (by assumption) ?_; rotate_left; (focus (intro w hSw; (try dsimp only at hSw); go_simp; (try with_reducible rfl))); (try simp only [Act.put, List.setIfInBounds_toArray, List.set_cons_zero, List.set_cons_succ])
          refine wpAnyH_take (i := 12) (oi := ⟨some 53, _, _, _, _, _⟩) (v := ?_) rfl (by kernel_rfl) (by kernel_rfl) (by kernel_rfl) (fun _ _ _ h => h) (Or.inl ⟨by rfl, ?_⟩) (by assumption) ?_; rotate_left; (focus (intro w hSw; (try dsimp only at hSw); go_simp; (try with_reducible rfl))); (try simp only [Act.put, List.setIfInBounds_toArray, List.set_cons_zero, List.set_cons_succ])
          refine wpAnyH_take (i := 13) (oi := ⟨some 54, _, _, _, _, _⟩) (v := ?_) rfl (by kernel_rfl) (by kernel_rfl) (by kernel_rfl) (fun _ _ _ h => h) (Or.inl ⟨by rfl, ?_⟩) (by assumption) ?_; rotate_left; (focus (intro w hSw; (try dsimp only at hSw); go_simp; (try with_reducible rfl))); (try simp only [Act.put, List.setIfInBounds_toArray, List.set_cons_zero, List.set_cons_succ])
          refine wpAnyH_take (i := 15) (oi := ⟨some 56, _, _, _, _, _⟩) (v := ?_) rfl (by kernel_rfl) (by kernel_rfl) (by kernel_rfl) (fun _ _ _ h => h) (Or.inl ⟨by rfl, ?_⟩) (by assumption) ?_; rotate_left; (focus (intro w hSw; (try dsimp only at hSw); go_simp; (try with_reducible rfl))); (try simp only [Act.put, List.setIfInBounds_toArray, List.set_cons_zero, List.set_cons_succ])
          refine wpAnyH_take (i := 16) (oi := ⟨some 57, _, _, _, _, _⟩) (v := ?_) rfl (by kernel_rfl) (by kernel_rfl) (by kernel_rfl) (fun _ _ _ h => h) (Or.inl ⟨by rfl, ?_⟩) (by assumption) ?_; rotate_left; (focus (intro w hSw; (try dsimp only at hSw); go_simp; (try with_reducible rfl))); (try simp only [Act.put, List.setIfInBounds_toArray, List.set_cons_zero, List.set_cons_succ])
          refine wpAnyH_take (i := 18) (oi := ⟨some 59, _, _, _, _, _⟩) (v := ?_) rfl (by kernel_rfl) (by kernel_rfl) (by kernel_rfl) (fun _ _ _ h => h) (Or.inl ⟨by rfl, ?_⟩) (by assumption) ?_; rotate_left; (focus (intro w hSw; (try dsimp only at hSw); go_simp; (try with_reducible rfl))); (try simp only [Act.put, List.setIfInBounds_toArray, List.set_cons_zero, List.set_cons_succ])
          refine wpAnyH_ready (rs := [14]) (by kernel_rfl) (by simp) ?_; refine AllReadyH.cons (o := ⟨some 55, _, _, _, _, _⟩) rfl (fun K hK => ?_) AllReadyH.nil; go_simp
          go_at_call 18
          refine (HI1.out w7 R_7.out).mono ?_
          rintro e w8 ⟨rfl, hb⟩
          have P_8 := Lib.hid (P_7.out.step hb)
          clear P_7
          have B_8 := Lib.hid (B_7.out.trans (hb.mono B_7.out.size))
          clear B_7
          have F_8 := Lib.hid (F_7.out.step hb)
          clear F_7
          have R_8 := Lib.hid (R_7.out.step hb)
          clear R_7
          have BK_8 := Lib.hid (BK_7.out.trans (hb.mono BK_7.out.size))
          clear BK_7
          clear hb
          refine hK.out _ _ F_8.out.it (fun hHeld => ?_); clear hK K; (try simp only [Act.put, List.setIfInBounds_toArray, List.set_cons_zero, List.set_cons_succ])
          refine wpAnyH_ready (rs := [17]) (by kernel_rfl) (by simp) ?_; refine AllReadyH.cons (o := ⟨some 58, _, _, _, _, _⟩) rfl (fun K hK => ?_) AllReadyH.nil; go_simp
          go_at_call 25
          refine (HND.out w8 P_8.out).mono ?_
          rintro e w9 ⟨v7, rfl, ho, hb⟩
          obtain ⟨A8, c8, rfl, hI9⟩ := OwnI.form ho
          obtain ⟨nl, hl2⟩ : ∃ l, l = N.length := ⟨_, rfl⟩
          have HNL := Lib.hid hl2
          rw [← hl2]
          have P_9 := Lib.hid (P_8.out.step hb)
          clear P_8
          have B_9 := Lib.hid (B_8.out.trans (hb.mono B_8.out.size))
          clear B_8
          have F_9 := Lib.hid (F_8.out.step hb)
          clear F_8
          have R_9 := Lib.hid (R_8.out.step hb)
          clear R_8
          have BK_9 := Lib.hid (BK_8.out.trans (hb.mono BK_8.out.size))
          clear BK_8
          clear hb
          have N_9 := Lib.hid (hI9)
          clear ho hI9 hl2
          refine hK.out _ _ F_9.out.it (fun hHeld => ?_); clear hK K; (try simp only [Act.put, List.setIfInBounds_toArray, List.set_cons_zero, List.set_cons_succ])
          refine wpAnyH_ready (rs := [19]) (by kernel_rfl) (by simp) ?_; refine AllReadyH.cons (o := ⟨some 60, _, _, _, _, _⟩) rfl (fun K hK => ?_) AllReadyH.nil; go_simp
          go_at_call 18
          refine (isIn_g A8 nl c8 N (t : Int) w9 HNL.out N_9.out (by have := HNL.out; omega)).mono ?_
          rintro e w10 ⟨rfl, hb⟩
          rw [← HPM.out]
          have P_10 := Lib.hid (P_9.out.step hb)
          clear P_9
          have B_10 := Lib.hid (B_9.out.trans (hb.mono B_9.out.size))
          clear B_9
          have F_10 := Lib.hid (F_9.out.step hb)
          clear F_9
          have R_10 := Lib.hid (R_9.out.step hb)
          clear R_9
          have BK_10 := Lib.hid (BK_9.out.trans (hb.mono BK_9.out.size))
          clear BK_9
          have N_10 := Lib.hid (N_9.out.step hb)
          clear N_9
          clear hb
          refine hK.out _ _ F_10.out.it (fun hHeld => ?_); clear hK K; (try simp only [Act.put, List.setIfInBounds_toArray, List.set_cons_zero, List.set_cons_succ])
          refine wpAnyH_take (i := 20) (oi := ⟨some 61, _, _, _, _, _⟩) (v := ?_) rfl (by kernel_rfl) (by kernel_rfl) (by kernel_rfl) (fun _ _ _ h => h) (Or.inl ⟨by rfl, ?_⟩) (by assumption) ?_; rotate_left; (focus (intro w hSw; (try dsimp only at hSw); go_simp; (try with_reducible rfl))); (try simp only [Act.put, List.setIfInBounds_toArray, List.set_cons_zero, List.set_cons_succ])
          refine wpAnyH_take (i := 21) (oi := ⟨some 62, _, _, _, _, _⟩) (v := ?_) rfl (by kernel_rfl) (by kernel_rfl) (by kernel_rfl) (fun _ _ _ h => h) (Or.inl ⟨by rfl, ?_⟩) (by assumption) ?_; rotate_left; (focus (intro w hSw; (try dsimp only at hSw); go_simp; (try with_reducible rfl))); (try simp only [Act.put, List.setIfInBounds_toArray, List.set_cons_zero, List.set_cons_succ])
          refine wpAnyH_done (by kernel_rfl) ?_ _
          go_wp2
          go_roundw
          case rel => exact ⟨k + 1, by omega, by go_num, BK_10.out, BK_10.out.size⟩
          case measure => simp [intOf]; omega
        · skip
          refine wp_region_held_drew (S := fun w' => w'.cell? ⟨w1.heap.size, 0, none⟩ = some (.slice A1 n1 c1)) (by kernel_rfl) F_6.out.it (fun hHeld => ?_)
          refine wpAnyH_take (i := 0) (oi := ⟨some 41, _, _, _, _, _⟩) (v := ?_) rfl (by kernel_rfl) (by kernel_rfl) (by kernel_rfl) (fun _ _ _ h => h) (Or.inl ⟨by rfl, ?_⟩) (by assumption) ?_; rotate_left; (focus (intro w hSw; (try dsimp only at hSw); go_simp; (try with_reducible rfl))); (try simp only [Act.put, List.setIfInBounds_toArray, List.set_cons_zero, List.set_cons_succ])
          refine wpAnyH_take (i := 1) (oi := ⟨some 42, _, _, _, _, _⟩) (v := ?_) rfl (by kernel_rfl) (by kernel_rfl) (by kernel_rfl) (fun _ _ _ h => h) (Or.inl ⟨by rfl, ?_⟩) (by assumption) ?_; rotate_left; (focus (intro w hSw; (try dsimp only at hSw); go_simp; (try with_reducible rfl))); (try simp only [Act.put, List.setIfInBounds_toArray, List.set_cons_zero, List.set_cons_succ])
          refine wpAnyH_ready (rs := [2]) (by kernel_rfl) (by simp) ?_; refine AllReadyH.cons (o := ⟨some 43, _, _, _, _, _⟩) rfl (fun K hK => ?_) AllReadyH.nil; go_simp
          go_at_call 18
          refine (HI1.out w6.drew R_6.out).mono ?_
          rintro e w7 ⟨rfl, hb'⟩
          have hb : Below w6.heap.size w6 w7 := below_of_drew hb'
          have P_7 := Lib.hid (P_6.out.step hb)
          clear P_6
          have B_7 := Lib.hid (B_6.out.trans (hb.mono B_6.out.size))
          clear B_6
          have F_7 := Lib.hid (F_6.out.step hb)
          clear F_6
          have R_7 := Lib.hid (R_6.out.step hb)
          clear R_6
          have BK_7 := Lib.hid (BK_6.out.trans (hb.mono BK_6.out.size))
          clear BK_6
          clear hb hb'
          refine hK.out _ _ F_7.out.it (fun hHeld => ?_); clear hK K; (try simp only [Act.put, List.setIfInBounds_toArray, List.set_cons_zero, List.set_cons_succ])
          refine wpAnyH_take (i := 3) (oi := ⟨some 44, _, _, _, _, _⟩) (v := ?_) rfl (by kernel_rfl) (by kernel_rfl) (by kernel_rfl) (fun _ _ _ h => h) (Or.inl ⟨by rfl, ?_⟩) (by assumption) ?_; rotate_left; (focus (intro w hSw; (try dsimp only at hSw); go_simp; (try with_reducible rfl))); (try simp only [Act.put, List.setIfInBounds_toArray, List.set_cons_zero, List.set_cons_succ])
          refine wpAnyH_take (i := 4) (oi := ⟨some 45, _, _, _, _, _⟩) (v := ?_) rfl (by kernel_rfl) (by kernel_rfl) (by kernel_rfl) (fun _ _ _ h => h) (Or.inl ⟨by rfl, ?_⟩) (by assumption) ?_; rotate_left; (focus (intro w hSw; (try dsimp only at hSw); go_simp; (try with_reducible rfl))); (try simp only [Act.put, List.setIfInBounds_toArray, List.set_cons_zero, List.set_cons_succ])
          refine wpAnyH_take (i := 5) (oi := ⟨some 46, _, _, _, _, _⟩) (v := ?_) rfl (by kernel_rfl) (by kernel_rfl) (by kernel_rfl) (fun _ _ _ h => h) (Or.inl ⟨by rfl, ?_⟩) (by assumption) ?_; rotate_left; (focus (intro w hSw; (try dsimp only at hSw); go_simp; (try with_reducible rfl))); (try simp only [Act.put, List.setIfInBounds_toArray, List.set_cons_zero, List.set_cons_succ])
          refine wpAnyH_take (i := 7) (oi := ⟨some 48, _, _, _, _, _⟩) (v := ?_) rfl (by kernel_rfl) (by kernel_rfl) (by kernel_rfl) (fun _ _ _ h => h) (Or.inl ⟨by rfl, ?_⟩) (by assumption) ?_; rotate_left; (focus (intro w hSw; (try dsimp only at hSw); go_simp; (try with_reducible rfl))); (try simp only [Act.put, List.setIfInBounds_toArray, List.set_cons_zero, List.set_cons_succ])
          refine wpAnyH_ready (rs := [6]) (by kernel_rfl) (by simp) ?_; refine AllReadyH.cons (o := ⟨some 47, _, _, _, _, _⟩) rfl (fun K hK => ?_) AllReadyH.nil; go_simp
          go_at_call 14
          refine (HUS.out w7 P_7.out).mono ?_
          rintro e w8 ⟨v7, rfl, ho, hb⟩
          obtain ⟨A9, c9, rfl, hI9⟩ := OwnI.form ho
          obtain ⟨ul, hl2⟩ : ∃ l, l = U.length := ⟨_, rfl⟩
          have HUL := Lib.hid hl2
          rw [← hl2]
          have P_8 := Lib.hid (P_7.out.step hb)
          clear P_7
          have B_8 := Lib.hid (B_7.out.trans (hb.mono B_7.out.size))
          clear B_7
          have F_8 := Lib.hid (F_7.out.step hb)
          clear F_7
          have R_8 := Lib.hid (R_7.out.step hb)
          clear R_7
          have BK_8 := Lib.hid (BK_7.out.trans (hb.mono BK_7.out.size))
          clear BK_7
          clear hb
          have U_8 := Lib.hid (hI9)
          clear ho hI9 hl2
          refine hK.out _ _ F_8.out.it (fun hHeld => ?_); clear hK K; (try simp only [Act.put, List.setIfInBounds_toArray, List.set_cons_zero, List.set_cons_succ])
          refine wpAnyH_ready (rs := [8]) (by kernel_rfl) (by simp) ?_; refine AllReadyH.cons (o := ⟨some 49, _, _, _, _, _⟩) rfl (fun K hK => ?_) AllReadyH.nil; go_simp
          go_at_call 24
          refine (within_g A9 A3 ul c9 rl c3 U R w8 HUL.out U_8.out (by have := HUL.out; omega) HRL.out R_8.out (by omega) (HW.out (by first | rfl | trivial))).mono ?_
          rintro e w9 ⟨rfl, hb⟩
          have P_9 := Lib.hid (P_8.out.step hb)
          clear P_8
          have B_9 := Lib.hid (B_8.out.trans (hb.mono B_8.out.size))
          clear B_8
          have F_9 := Lib.hid (F_8.out.step hb)
          clear F_8
          have R_9 := Lib.hid (R_8.out.step hb)
          clear R_8
          have BK_9 := Lib.hid (BK_8.out.trans (hb.mono BK_8.out.size))
          clear BK_8
          have U_9 := Lib.hid (U_8.out.step hb)
          clear U_8
          clear hb
          refine hK.out _ _ F_9.out.it (fun hHeld => ?_); clear hK K; (try simp only [Act.put, List.setIfInBounds_toArray, List.set_cons_zero, List.set_cons_succ])
          refine wpAnyH_take (i := 9) (oi := ⟨some 50, _, _, _, _, _⟩) (v := ?_) rfl (by kernel_rfl) (by kernel_rfl) (by kernel_rfl) (fun _ _ _ h => h) (Or.inl ⟨by rfl, ?_⟩) (by assumption) ?_; rotate_left; (focus (intro w hSw; (try dsimp only at hSw); go_simp; (try with_reducible rfl))); (try simp only [Act.put, List.setIfInBounds_toArray, List.set_cons_zero, List.set_cons_succ])
          refine wpAnyH_take (i := 10) (oi := ⟨some 51, _, _, _, _, _⟩) (v := ?_) rfl (by kernel_rfl) (by kernel_rfl) (by kernel_rfl) (fun _ _ _ h => h) (Or.inl ⟨by rfl, ?_⟩) (by assumption) ?_; rotate_left; (focus (intro w hSw; (try dsimp only at hSw); go_simp; (try with_reducible rfl))); (try simp only [Act.put, List.setIfInBounds_toArray, List.set_cons_zero, List.set_cons_succ])
          refine wpAnyH_take (i := 11) (oi := ⟨some 52, _, _, _, _, _⟩) (v := ?_) rfl (by kernel_rfl) (by kernel_rfl) (by kernel_rfl) (fun _ _ _ h => h) (Or.inl ⟨by rfl, ?_⟩) (by assumption) ?_; rotate_left; (focus (intro w hSw; (try dsimp only at hSw); go_simp; (try with_reducible rfl))); (try simp only [Act.put, List.setIfInBounds_toArray, List.set_cons_zero, List.set_cons_succ])
          refine wpAnyH_take (i := 12) (oi := ⟨some 53, _, _, _, _, _⟩) (v := ?_) rfl (by kernel_rfl) (by kernel_rfl) (by kernel_rfl) (fun _ _ _ h => h) (Or.inl ⟨by rfl, ?_⟩) (by assumption) ?_; rotate_left; (focus (intro w hSw; (try dsimp only at hSw); go_simp; (try with_reducible rfl))); (try simp only [Act.put, List.setIfInBounds_toArray, List.set_cons_zero, List.set_cons_succ])
          refine wpAnyH_take (i := 13) (oi := ⟨some 54, _, _, _, _, _⟩) (v := ?_) rfl (by kernel_rfl) (by kernel_rfl) (by kernel_rfl) (fun _ _ _ h => h) (Or.inl ⟨by rfl, ?_⟩) (by assumption) ?_; rotate_left; (focus (intro w hSw; (try dsimp only at hSw); go_simp; (try with_reducible rfl))); (try simp only [Act.put, List.setIfInBounds_toArray, List.set_cons_zero, List.set_cons_succ])
          refine wpAnyH_take (i := 15) (oi := ⟨some 56, _, _, _, _, _⟩) (v := ?_) rfl (by kernel_rfl) (by kernel_rfl) (by kernel_rfl) (fun _ _ _ h => h) (Or.inl ⟨by rfl, ?_⟩) (by assumption) ?_; rotate_left; (focus (intro w hSw; (try dsimp only at hSw); go_simp; (try with_reducible rfl))); (try simp only [Act.put, List.setIfInBounds_toArray, List.set_cons_zero, List.set_cons_succ])
          refine wpAnyH_take (i := 16) (oi := ⟨some 57, _, _, _, _, _⟩) (v := ?_) rfl (by kernel_rfl) (by kernel_rfl) (by kernel_rfl) (fun _ _ _ h => h) (Or.inl ⟨by rfl, ?_⟩) (by assumption) ?_; rotate_left; (focus (intro w hSw; (try dsimp only at hSw); go_simp; (try with_reducible rfl))); (try simp only [Act.put, List.setIfInBounds_toArray, List.set_cons_zero, List.set_cons_succ])
          refine wpAnyH_take (i := 18) (oi := ⟨some 59, _, _, _, _, _⟩) (v := ?_) rfl (by kernel_rfl) (by kernel_rfl) (by kernel_rfl) (fun _ _ _ h => h) (Or.inl ⟨by rfl, ?_⟩) (by assumption) ?_; rotate_left; (focus (intro w hSw; (try dsimp only at hSw); go_simp; (try with_reducible rfl))); (try simp only [Act.put, List.setIfInBounds_toArray, List.set_cons_zero, List.set_cons_succ])
          refine wpAnyH_ready (rs := [14]) (by kernel_rfl) (by simp) ?_; refine AllReadyH.cons (o := ⟨some 55, _, _, _, _, _⟩) rfl (fun K hK => ?_) AllReadyH.nil; go_simp
          go_at_call 18
          refine (HI1.out w9 R_9.out).mono ?_
          rintro e w10 ⟨rfl, hb⟩
          have P_10 := Lib.hid (P_9.out.step hb)
          clear P_9
          have B_10 := Lib.hid (B_9.out.trans (hb.mono B_9.out.size))
          clear B_9
          have F_10 := Lib.hid (F_9.out.step hb)
          clear F_9
          have R_10 := Lib.hid (R_9.out.step hb)
          clear R_9
          have BK_10 := Lib.hid (BK_9.out.trans (hb.mono BK_9.out.size))
          clear BK_9
          have U_10 := Lib.hid (U_9.out.step hb)
          clear U_9
          clear hb
          refine hK.out _ _ F_10.out.it (fun hHeld => ?_); clear hK K; (try simp only [Act.put, List.setIfInBounds_toArray, List.set_cons_zero, List.set_cons_succ])
          refine wpAnyH_ready (rs := [17]) (by kernel_rfl) (by simp) ?_; refine AllReadyH.cons (o := ⟨some 58, _, _, _, _, _⟩) rfl (fun K hK => ?_) AllReadyH.nil; go_simp
          go_at_call 25
          refine (HND.out w10 P_10.out).mono ?_
          rintro e w11 ⟨v7, rfl, ho, hb⟩
          obtain ⟨A8, c8, rfl, hI9⟩ := OwnI.form ho
          obtain ⟨nl, hl2⟩ : ∃ l, l = N.length := ⟨_, rfl⟩
          have HNL := Lib.hid hl2
          rw [← hl2]
          have P_11 := Lib.hid (P_10.out.step hb)
          clear P_10
          have B_11 := Lib.hid (B_10.out.trans (hb.mono B_10.out.size))
          clear B_10
          have F_11 := Lib.hid (F_10.out.step hb)
          clear F_10
          have R_11 := Lib.hid (R_10.out.step hb)
          clear R_10
          have BK_11 := Lib.hid (BK_10.out.trans (hb.mono BK_10.out.size))
          clear BK_10
          have U_11 := Lib.hid (U_10.out.step hb)
          clear U_10
          clear hb
          have N_11 := Lib.hid (hI9)
          clear ho hI9 hl2
          refine hK.out _ _ F_11.out.it (fun hHeld => ?_); clear hK K; (try simp only [Act.put, List.setIfInBounds_toArray, List.set_cons_zero, List.set_cons_succ])
          refine wpAnyH_ready (rs := [19]) (by kernel_rfl) (by simp) ?_; refine AllReadyH.cons (o := ⟨some 60, _, _, _, _, _⟩) rfl (fun K hK => ?_) AllReadyH.nil; go_simp
          go_at_call 18
          refine (isIn_g A8 nl c8 N (t : Int) w11 HNL.out N_11.out (by have := HNL.out; omega)).mono ?_
          rintro e w12 ⟨rfl, hb⟩
          rw [← HPM.out]
          have P_12 := Lib.hid (P_11.out.step hb)
          clear P_11
          have B_12 := Lib.hid (B_11.out.trans (hb.mono B_11.out.size))
          clear B_11
          have F_12 := Lib.hid (F_11.out.step hb)
          clear F_11
          have R_12 := Lib.hid (R_11.out.step hb)
          clear R_11
          have BK_12 := Lib.hid (BK_11.out.trans (hb.mono BK_11.out.size))
          clear BK_11
          have U_12 := Lib.hid (U_11.out.step hb)
          clear U_11
          have N_12 := Lib.hid (N_11.out.step hb)
          clear N_11
          clear hb
          refine hK.out _ _ F_12.out.it (fun hHeld => ?_); clear hK K; (try simp only [Act.put, List.setIfInBounds_toArray, List.set_cons_zero, List.set_cons_succ])
          refine wpAnyH_take (i := 20) (oi := ⟨some 61, _, _, _, _, _⟩) (v := ?_) rfl (by kernel_rfl) (by kernel_rfl) (by kernel_rfl) (fun _ _ _ h => h) (Or.inl ⟨by rfl, ?_⟩) (by assumption) ?_; rotate_left; (focus (intro w hSw; (try dsimp only at hSw); go_simp; (try with_reducible rfl))); (try simp only [Act.put, List.setIfInBounds_toArray, List.set_cons_zero, List.set_cons_succ])
          refine wpAnyH_take (i := 21) (oi := ⟨some 62, _, _, _, _, _⟩) (v := ?_) rfl (by kernel_rfl) (by kernel_rfl) (by kernel_rfl) (fun _ _ _ h => h) (Or.inl ⟨by rfl, ?_⟩) (by assumption) ?_; rotate_left; (focus (intro w hSw; (try dsimp only at hSw); go_simp; (try with_reducible rfl))); (try simp only [Act.put, List.setIfInBounds_toArray, List.set_cons_zero, List.set_cons_succ])
          refine wpAnyH_done (by kernel_rfl) ?_ _
          go_wp2
          go_roundw
          case rel => exact ⟨k + 1, by omega, by go_num, BK_12.out, BK_12.out.size⟩
          case measure => simp [intOf]; omega
      · obtain rfl : k = n1 := by omega
        have HAS := Lib.hid fun (w' : World) (h : IS w' w'.heap.size A3 R) => laws_ascends A3 rl c3 R w' _ (Nat.le_refl _) HRL.out h (by omega) HF3.out
        have q0 := F_6.out.it
        go_wp2_with fail
        refine (HAS.out w6 R_6.out).mono ?_
        rintro e w7 ⟨rfl, hb⟩
        have P_7 := Lib.hid (P_6.out.step hb)
        clear P_6
        have B_7 := Lib.hid (B_6.out.trans (hb.mono B_6.out.size))
        clear B_6
        have F_7 := Lib.hid (F_6.out.step hb)
        clear F_6
        have R_7 := Lib.hid (R_6.out.step hb)
        clear R_6
        have BK_7 := Lib.hid (BK_6.out.trans (hb.mono BK_6.out.size))
        clear BK_6
        clear hb
        clear q0
        obtain ⟨b3, off3, rfl, hb3, e3⟩ := R_7.out (by have := HRL.out; omega)
        have x3 := e3 0 (by have := HRL.out; omega)
        rw [HF4.out, Nat.add_zero] at x3
        clear e3
        have hrl0 : (0 : Int) < (rl : Int) := by omega
        go_wp2
        go_ret
        exact ⟨ret_b (by simp), B_7.out⟩
end Go.Proofs.Ytdhjflhpenkchaa
