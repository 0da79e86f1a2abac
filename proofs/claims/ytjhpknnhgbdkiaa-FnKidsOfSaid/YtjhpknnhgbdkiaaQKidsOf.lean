/- laws.FnKidsOf returns true for all bytes, and writes nothing that was there. (Made by genpl.py.) -/
import Derived.Test.YtjhpknnhgbdkiaaR24
import Derived.Test.YtjhpknnhgbdkiaaP9a
import Derived.Test.YtjhpknnhgbdkiaaM38
import Derived.Deep.RegionHeld3
import Derived.BigQuiet
import Derived.Deep.QuietTactic

namespace Go.Proofs.Ytjhpknnhgbdkiaa
set_option linter.unusedSimpArgs false
set_option linter.unusedVariables false
open Go.RowKit

set_option maxRecDepth 100000 in
set_option maxHeartbeats 6400000 in
theorem plaw_KidsOf (A : Option Addr) (n c : Nat) (bs : List Int) (w : World) (hn : n = bs.length) (hnc : n ≤ c) (h : BS w w.heap.size A bs) (hy : BY bs) (hm : n ≤ 9223372036854775807) :
    Calls Try.prog 3 #[.slice A n c] w fun e w' => e = .returned (.bool true) ∧ Below w.heap.size w w' := by
  by_cases hs : 1048576 < n
  · clear hn hnc h hy
    go_enter Try.func3, Try.ntmps3
    go_wp2
    go_ret
    exact ⟨rfl, Below.refl _ _⟩
  have HC := Lib.hid (spec_DrawKidsOf A n c bs w hn hnc h hy (by omega))
  clear hn hnc h hy
  go_enter Try.func3, Try.ntmps3
  go_wp2_with fail
  refine HC.out.mono ?_
  rintro e w1 ⟨A1, n1, c1, ds, o, rfl, ho1, ho2, hp1, hn1, hn12, hnc1, hOB, hlens, hP, hb⟩
  have HN1 := Lib.hid hp1
  have HOB := Lib.hid hOB
  have HLE := Lib.hid hlens
  have P_1 := Lib.hid (hP)
  have B_1 := Lib.hid (hb)
  clear hP hp1 hb HC hOB hlens
  have HIM := Lib.hid fun (w' : World) (h : OS w' w'.heap.size A1 ds) =>  top_impl_KidsOf ds o HOB.out A1 n1 c1 w' HN1.out hnc1 h
  have HSP := Lib.hid fun (w' : World) (h : OS w' w'.heap.size A1 ds) =>  top_spec_KidsOf ds o HOB.out A1 n1 c1 w' HN1.out hnc1 h
  have HVO := Lib.hid fun (w' : World) (h : OS w' w'.heap.size A1 ds) =>  top_impl_ValidOwners ds HOB.out A1 n1 c1 w' HN1.out hnc1 h
  have hml := kidsF_len ds o
  have HF := Lib.hid fun (hv : validO ds = true) (t : Nat) (e : o = (t : Int)) (ht : t < ds.length) => (by rw [e]; exact kids_facts hv t ht : (∀ i, i < ds.length → decide ((i : Int) ∈ kidsF ds o) = ((ds.getD i default).o && (ds.getD i default).p == o)) ∧ (∀ j, j + 1 < (kidsF ds o).length → (kidsF ds o).getD j 0 < (kidsF ds o).getD (j + 1) 0) ∧ ((ds.getD t default).o = false → kidsF ds o = []))
  generalize validO ds = v at *
  generalize kidsF ds o = R at *
  go_wp2_with fail
  refine (HIM.out w1 P_1.out).mono ?_
  rintro e w2 ⟨v, rfl, ho, hb⟩
  have P_2 := Lib.hid (P_1.out.step hb)
  clear P_1
  have B_2 := Lib.hid (B_1.out.trans (hb.mono B_1.out.size))
  clear B_1
  clear hb
  obtain ⟨A3, c3, rfl, hI9⟩ := OwnI.form ho
  obtain ⟨rl, hl2⟩ : ∃ l, l = R.length := ⟨_, rfl⟩
  have HRL := Lib.hid hl2
  rw [← hl2]
  have R_2 := Lib.hid (hI9)
  clear ho hI9 hl2
  rw [← HRL.out] at hml
  go_wp2_with fail
  refine (HSP.out w2 P_2.out).mono ?_
  rintro e w3 ⟨v, rfl, ho, hb⟩
  obtain ⟨A4, c4, rfl, hI9⟩ := OwnI.form ho
  have P_3 := Lib.hid (P_2.out.step hb)
  clear P_2
  have B_3 := Lib.hid (B_2.out.trans (hb.mono B_2.out.size))
  clear B_2
  have R_3 := Lib.hid (R_2.out.step hb)
  clear R_2
  clear hb
  rw [← HRL.out]
  have HEQ := Lib.hid (laws_equalInts A3 A4 rl rl c3 c4 R R w3 w3.heap.size (Nat.le_refl _) HRL.out HRL.out R_3.out hI9 (by omega) (by omega))
  rw [show decide (R = R) = true from decide_eq_true rfl] at HEQ
  clear ho hI9
  go_wp2_with fail
  refine (HEQ.out).mono ?_
  rintro e w4 ⟨rfl, hb⟩
  have P_4 := Lib.hid (P_3.out.step hb)
  clear P_3
  have B_4 := Lib.hid (B_3.out.trans (hb.mono B_3.out.size))
  clear B_3
  have R_4 := Lib.hid (R_3.out.step hb)
  clear R_3
  clear hb
  clear HEQ
  go_wp2_with fail
  refine (HVO.out w4 P_4.out).mono ?_
  rintro e w5 ⟨rfl, hb⟩
  have P_5 := Lib.hid (P_4.out.step hb)
  clear P_4
  have B_5 := Lib.hid (B_4.out.trans (hb.mono B_4.out.size))
  clear B_4
  have R_5 := Lib.hid (R_4.out.step hb)
  clear R_4
  clear hb
  cases v
  · skip
    go_wp2_with fail
    refine (HSP.out w5 P_5.out).mono ?_
    rintro e w6 ⟨v, rfl, ho, hb⟩
    obtain ⟨A4, c4, rfl, hI9⟩ := OwnI.form ho
    have P_6 := Lib.hid (P_5.out.step hb)
    clear P_5
    have B_6 := Lib.hid (B_5.out.trans (hb.mono B_5.out.size))
    clear B_5
    have R_6 := Lib.hid (R_5.out.step hb)
    clear R_5
    clear hb
    rw [← HRL.out]
    have HEQ := Lib.hid (laws_equalInts A3 A4 rl rl c3 c4 R R w6 w6.heap.size (Nat.le_refl _) HRL.out HRL.out R_6.out hI9 (by omega) (by omega))
    rw [show decide (R = R) = true from decide_eq_true rfl] at HEQ
    clear ho hI9
    go_wp2_with fail
    refine (HEQ.out).mono ?_
    rintro e w7 ⟨rfl, hb⟩
    have P_7 := Lib.hid (P_6.out.step hb)
    clear P_6
    have B_7 := Lib.hid (B_6.out.trans (hb.mono B_6.out.size))
    clear B_6
    have R_7 := Lib.hid (R_6.out.step hb)
    clear R_6
    clear hb
    clear HEQ
    go_wp2
    go_ret
    exact ⟨rfl, B_7.out⟩
  · by_cases hx0 : o < 0
    · skip
      go_wp2_with fail
      refine (HSP.out w5 P_5.out).mono ?_
      rintro e w6 ⟨v, rfl, ho, hb⟩
      obtain ⟨A4, c4, rfl, hI9⟩ := OwnI.form ho
      have P_6 := Lib.hid (P_5.out.step hb)
      clear P_5
      have B_6 := Lib.hid (B_5.out.trans (hb.mono B_5.out.size))
      clear B_5
      have R_6 := Lib.hid (R_5.out.step hb)
      clear R_5
      clear hb
      rw [← HRL.out]
      have HEQ := Lib.hid (laws_equalInts A3 A4 rl rl c3 c4 R R w6 w6.heap.size (Nat.le_refl _) HRL.out HRL.out R_6.out hI9 (by omega) (by omega))
      rw [show decide (R = R) = true from decide_eq_true rfl] at HEQ
      clear ho hI9
      go_wp2_with fail
      refine (HEQ.out).mono ?_
      rintro e w7 ⟨rfl, hb⟩
      have P_7 := Lib.hid (P_6.out.step hb)
      clear P_6
      have B_7 := Lib.hid (B_6.out.trans (hb.mono B_6.out.size))
      clear B_6
      have R_7 := Lib.hid (R_6.out.step hb)
      clear R_6
      clear hb
      clear HEQ
      go_wp2
      go_ret
      exact ⟨rfl, B_7.out⟩
    · by_cases hxn : (n1 : Int) ≤ o
      · skip
        go_wp2_with fail
        refine (HSP.out w5 P_5.out).mono ?_
        rintro e w6 ⟨v, rfl, ho, hb⟩
        obtain ⟨A4, c4, rfl, hI9⟩ := OwnI.form ho
        have P_6 := Lib.hid (P_5.out.step hb)
        clear P_5
        have B_6 := Lib.hid (B_5.out.trans (hb.mono B_5.out.size))
        clear B_5
        have R_6 := Lib.hid (R_5.out.step hb)
        clear R_5
        clear hb
        rw [← HRL.out]
        have HEQ := Lib.hid (laws_equalInts A3 A4 rl rl c3 c4 R R w6 w6.heap.size (Nat.le_refl _) HRL.out HRL.out R_6.out hI9 (by omega) (by omega))
        rw [show decide (R = R) = true from decide_eq_true rfl] at HEQ
        clear ho hI9
        go_wp2_with fail
        refine (HEQ.out).mono ?_
        rintro e w7 ⟨rfl, hb⟩
        have P_7 := Lib.hid (P_6.out.step hb)
        clear P_6
        have B_7 := Lib.hid (B_6.out.trans (hb.mono B_6.out.size))
        clear B_6
        have R_7 := Lib.hid (R_6.out.step hb)
        clear R_6
        clear hb
        clear HEQ
        go_wp2
        go_ret
        exact ⟨rfl, B_7.out⟩
      · obtain ⟨t, rfl⟩ : ∃ t : Nat, o = (t : Int) := ⟨o.toNat, by omega⟩
        have htn : t < n1 := by omega
        obtain ⟨f1, f2, f3⟩ := HF.out (by first | rfl | trivial) t rfl (by have := HN1.out; omega)
        have HM2 := Lib.hid f1
        have HA2 := Lib.hid f2
        have HE2 := Lib.hid f3
        have HTN := Lib.hid htn
        clear HF HIM HSP HVO f1 f2 f3
        go_wp2
        clear htn hxn hx0
        try (rename (0 ≤ (t : Int) ∧ ¬ n1 ≤ t) => h7; clear h7)
        go_loopw [6] (fun u wr => ∃ k : Nat, k ≤ n1 ∧ u = .int .i64 k ∧ Hid (Below w5.heap.size w5 wr) ∧ w5.heap.size ≤ wr.heap.size) (fun u _ => n1 - (intOf u).toNat)
        case atStart => exact ⟨0, Nat.zero_le _, rfl, Below.refl _ _, Nat.le_refl _⟩
        case round =>
          obtain ⟨k, hk, rfl, HB, hwr⟩ := hrel
          obtain ⟨w6, hwK⟩ : ∃ W, W = wr := ⟨_, rfl⟩
          rw [← hwK]
          rw [← hwK] at HB hwr
          clear hwK
          have P_6 := Lib.hid (P_5.out.step HB.out)
          have B_6 := Lib.hid (B_5.out.trans (HB.out.mono B_5.out.size))
          have R_6 := Lib.hid (R_5.out.step HB.out)
          have BK_6 := HB
          clear HB
          by_cases hlt : k < n1
          · skip
            obtain ⟨b, off, rfl, hbB, d0, d1, ⟨A6, n6, c6, d2, hn6, i6⟩, A7, n7, c7, d3, hn7, i7⟩ := P_6.out.at_ k (by have := HN1.out; omega)
            have hmm := HM2.out k (by have := HN1.out; omega)
            clear d2 hn6 i6 d3 hn7 i7
            generalize (ds.getD k default).o = po at *
            generalize (ds.getD k default).p = pp at *
            have HI1 := Lib.hid fun (w' : World) (h : IS w' w'.heap.size A3 R) => isIn_g A3 rl c3 R (k : Int) w' HRL.out h (by omega)
            rw [hmm] at HI1
            clear hmm
            cases po
            · simp only [Bool.false_and] at HI1
              have d0_6 : Hid (C1 b (off + k * 4) (.int .i64 pp) w6) := ⟨hbB, d0⟩
              have d1_6 : Hid (C1 b (off + k * 4 + 1) (.bool false) w6) := ⟨hbB, d1⟩
              clear d0 d1
              go_wp2
              refine wp_region_held_drew (S := fun w' => w'.cell? ⟨b, off + k * 4, none⟩ = some (.int .i64 pp) ∧ w'.cell? ⟨b, off + k * 4 + 1, none⟩ = some (.bool false)) (by kernel_rfl) ⟨d0_6.out.2, d1_6.out.2⟩ (fun hHeld => ?_)
              refine wpAnyH_take (i := 0) (oi := ⟨some 50, _, _, _, _, _⟩) (v := ?_) rfl (by kernel_rfl) (by kernel_rfl) (by kernel_rfl) (fun _ _ _ h => h) (Or.inl ⟨by rfl, ?_⟩) (by assumption) ?_; rotate_left; (focus (intro w hSw; (try dsimp only at hSw); go_simp; (try with_reducible rfl))); (try simp only [Act.put, List.setIfInBounds_toArray, List.set_cons_zero, List.set_cons_succ])
              refine wpAnyH_take (i := 1) (oi := ⟨some 51, _, _, _, _, _⟩) (v := ?_) rfl (by kernel_rfl) (by kernel_rfl) (by kernel_rfl) (fun _ _ _ h => h) (Or.inl ⟨by rfl, ?_⟩) (by assumption) ?_; rotate_left; (focus (intro w hSw; (try dsimp only at hSw); go_simp; (try with_reducible rfl))); (try simp only [Act.put, List.setIfInBounds_toArray, List.set_cons_zero, List.set_cons_succ])
              refine wpAnyH_take (i := 3) (oi := ⟨some 53, _, _, _, _, _⟩) (v := ?_) rfl (by kernel_rfl) (by kernel_rfl) (by kernel_rfl) (fun _ _ _ h => h) (Or.inl ⟨by rfl, ?_⟩) (by assumption) ?_; rotate_left; (focus (intro w hSw; (try dsimp only at hSw); go_simp; (try with_reducible rfl))); (try simp only [Act.put, List.setIfInBounds_toArray, List.set_cons_zero, List.set_cons_succ])
              refine wpAnyH_take (i := 4) (oi := ⟨some 54, _, _, _, _, _⟩) (v := ?_) rfl (by kernel_rfl) (by kernel_rfl) (by kernel_rfl) (fun _ _ _ h => h) (Or.inl ⟨by rfl, ?_⟩) (by assumption) ?_; rotate_left; (focus (intro w hSw; (try dsimp only at hSw); go_simp; (try with_reducible rfl))); (try simp only [Act.put, List.setIfInBounds_toArray, List.set_cons_zero, List.set_cons_succ])
              refine wpAnyH_take (i := 5) (oi := ⟨some 55, _, _, _, _, _⟩) (v := ?_) rfl (by kernel_rfl) (by kernel_rfl) (by kernel_rfl) (fun _ _ _ h => h) (Or.inl ⟨by rfl, ?_⟩) (by assumption) ?_; rotate_left; (focus (intro w hSw; (try dsimp only at hSw); go_simp; (try with_reducible rfl))); (try simp only [Act.put, List.setIfInBounds_toArray, List.set_cons_zero, List.set_cons_succ])
              refine wpAnyH_take (i := 6) (oi := ⟨some 56, _, _, _, _, _⟩) (v := ?_) rfl (by kernel_rfl) (by kernel_rfl) (by kernel_rfl) (fun _ _ _ h => h) (Or.inl ⟨by rfl, ?_⟩) (by assumption) ?_; rotate_left; (focus (intro w hSw; (try dsimp only at hSw); go_simp; (try with_reducible rfl))); (try simp only [Act.put, List.setIfInBounds_toArray, List.set_cons_zero, List.set_cons_succ])
              refine wpAnyH_take (i := 7) (oi := ⟨some 57, _, _, _, _, _⟩) (v := ?_) rfl (by kernel_rfl) (by kernel_rfl) (by kernel_rfl) (fun _ _ _ h => h) (Or.inl ⟨by rfl, ?_⟩) (by assumption) ?_; rotate_left; (focus (intro w hSw; (try dsimp only at hSw); go_simp; (try with_reducible rfl))); (try simp only [Act.put, List.setIfInBounds_toArray, List.set_cons_zero, List.set_cons_succ])
              refine wpAnyH_ready (rs := [2]) (by kernel_rfl) (by simp) ?_; refine AllReadyH.cons (o := ⟨some 52, _, _, _, _, _⟩) rfl (fun K hK => ?_) AllReadyH.nil; go_simp
              go_at_call 14
              refine (HI1.out w6.drew R_6.out).mono ?_
              rintro e w7 ⟨rfl, hb'⟩
              have hb : Below w6.heap.size w6 w7 := below_of_drew hb'
              have P_7 := Lib.hid (P_6.out.step hb)
              clear P_6
              have B_7 := Lib.hid (B_6.out.trans (hb.mono B_6.out.size))
              clear B_6
              have R_7 := Lib.hid (R_6.out.step hb)
              clear R_6
              have BK_7 := Lib.hid (BK_6.out.trans (hb.mono BK_6.out.size))
              clear BK_6
              have d0_7 := Lib.hid (d0_6.out.step hb)
              clear d0_6
              have d1_7 := Lib.hid (d1_6.out.step hb)
              clear d1_6
              clear hb hb'
              refine hK.out _ _ ⟨d0_7.out.2, d1_7.out.2⟩ (fun hHeld => ?_); clear hK K; (try simp only [Act.put, List.setIfInBounds_toArray, List.set_cons_zero, List.set_cons_succ])
              refine wpAnyH_take (i := 8) (oi := ⟨some 58, _, _, _, _, _⟩) (v := ?_) rfl (by kernel_rfl) (by kernel_rfl) (by kernel_rfl) (fun _ _ _ h => h) (Or.inl ⟨by rfl, ?_⟩) (by assumption) ?_; rotate_left; (focus (intro w hSw; (try dsimp only at hSw); go_simp; (try with_reducible rfl))); (try simp only [Act.put, List.setIfInBounds_toArray, List.set_cons_zero, List.set_cons_succ])
              refine wpAnyH_take (i := 9) (oi := ⟨some 59, _, _, _, _, _⟩) (v := undef) rfl (by kernel_rfl) (by kernel_rfl) (by kernel_rfl) (fun _ _ _ h => h) (Or.inr ⟨by rfl, rfl⟩) (by assumption) ?_; (try simp only [Act.put, List.setIfInBounds_toArray, List.set_cons_zero, List.set_cons_succ])
              refine wpAnyH_take (i := 10) (oi := ⟨some 60, _, _, _, _, _⟩) (v := undef) rfl (by kernel_rfl) (by kernel_rfl) (by kernel_rfl) (fun _ _ _ h => h) (Or.inr ⟨by rfl, rfl⟩) (by assumption) ?_; (try simp only [Act.put, List.setIfInBounds_toArray, List.set_cons_zero, List.set_cons_succ])
              refine wpAnyH_take (i := 11) (oi := ⟨some 61, _, _, _, _, _⟩) (v := undef) rfl (by kernel_rfl) (by kernel_rfl) (by kernel_rfl) (fun _ _ _ h => h) (Or.inr ⟨by rfl, rfl⟩) (by assumption) ?_; (try simp only [Act.put, List.setIfInBounds_toArray, List.set_cons_zero, List.set_cons_succ])
              refine wpAnyH_take (i := 12) (oi := ⟨some 62, _, _, _, _, _⟩) (v := undef) rfl (by kernel_rfl) (by kernel_rfl) (by kernel_rfl) (fun _ _ _ h => h) (Or.inr ⟨by rfl, rfl⟩) (by assumption) ?_; (try simp only [Act.put, List.setIfInBounds_toArray, List.set_cons_zero, List.set_cons_succ])
              refine wpAnyH_take (i := 13) (oi := ⟨some 63, _, _, _, _, _⟩) (v := undef) rfl (by kernel_rfl) (by kernel_rfl) (by kernel_rfl) (fun _ _ _ h => h) (Or.inr ⟨by rfl, rfl⟩) (by assumption) ?_; (try simp only [Act.put, List.setIfInBounds_toArray, List.set_cons_zero, List.set_cons_succ])
              refine wpAnyH_take (i := 14) (oi := ⟨some 64, _, _, _, _, _⟩) (v := undef) rfl (by kernel_rfl) (by kernel_rfl) (by kernel_rfl) (fun _ _ _ h => h) (Or.inr ⟨by rfl, rfl⟩) (by assumption) ?_; (try simp only [Act.put, List.setIfInBounds_toArray, List.set_cons_zero, List.set_cons_succ])
              refine wpAnyH_take (i := 15) (oi := ⟨some 65, _, _, _, _, _⟩) (v := undef) rfl (by kernel_rfl) (by kernel_rfl) (by kernel_rfl) (fun _ _ _ h => h) (Or.inr ⟨by rfl, rfl⟩) (by assumption) ?_; (try simp only [Act.put, List.setIfInBounds_toArray, List.set_cons_zero, List.set_cons_succ])
              refine wpAnyH_take (i := 16) (oi := ⟨some 66, _, _, _, _, _⟩) (v := ?_) rfl (by kernel_rfl) (by kernel_rfl) (by kernel_rfl) (fun _ _ _ h => h) (Or.inl ⟨by rfl, ?_⟩) (by assumption) ?_; rotate_left; (focus (intro w hSw; (try dsimp only at hSw); go_simp; (try with_reducible rfl))); (try simp only [Act.put, List.setIfInBounds_toArray, List.set_cons_zero, List.set_cons_succ])
              refine wpAnyH_take (i := 17) (oi := ⟨some 67, _, _, _, _, _⟩) (v := ?_) rfl (by kernel_rfl) (by kernel_rfl) (by kernel_rfl) (fun _ _ _ h => h) (Or.inl ⟨by rfl, ?_⟩) (by assumption) ?_; rotate_left; (focus (intro w hSw; (try dsimp only at hSw); go_simp; (try with_reducible rfl))); (try simp only [Act.put, List.setIfInBounds_toArray, List.set_cons_zero, List.set_cons_succ])
              refine wpAnyH_done (by kernel_rfl) ?_ _
              go_wp2
              go_roundw
              case rel => exact ⟨k + 1, by omega, by go_num, BK_7.out, BK_7.out.size⟩
              case measure => simp [intOf]; omega
            · simp only [Bool.true_and] at HI1
              have d0_6 : Hid (C1 b (off + k * 4) (.int .i64 pp) w6) := ⟨hbB, d0⟩
              have d1_6 : Hid (C1 b (off + k * 4 + 1) (.bool true) w6) := ⟨hbB, d1⟩
              clear d0 d1
              generalize hpt : (pp == (t : Int)) = q at *
              have hqq : (q != q) = false := by simp
              go_wp2
              refine wp_region_held_drew (S := fun w' => w'.cell? ⟨b, off + k * 4, none⟩ = some (.int .i64 pp) ∧ w'.cell? ⟨b, off + k * 4 + 1, none⟩ = some (.bool true)) (by kernel_rfl) ⟨d0_6.out.2, d1_6.out.2⟩ (fun hHeld => ?_)
              refine wpAnyH_take (i := 0) (oi := ⟨some 50, _, _, _, _, _⟩) (v := ?_) rfl (by kernel_rfl) (by kernel_rfl) (by kernel_rfl) (fun _ _ _ h => h) (Or.inl ⟨by rfl, ?_⟩) (by assumption) ?_; rotate_left; (focus (intro w hSw; (try dsimp only at hSw); go_simp; (try with_reducible rfl))); (try simp only [Act.put, List.setIfInBounds_toArray, List.set_cons_zero, List.set_cons_succ])
              refine wpAnyH_take (i := 1) (oi := ⟨some 51, _, _, _, _, _⟩) (v := ?_) rfl (by kernel_rfl) (by kernel_rfl) (by kernel_rfl) (fun _ _ _ h => h) (Or.inl ⟨by rfl, ?_⟩) (by assumption) ?_; rotate_left; (focus (intro w hSw; (try dsimp only at hSw); go_simp; (try with_reducible rfl))); (try simp only [Act.put, List.setIfInBounds_toArray, List.set_cons_zero, List.set_cons_succ])
              refine wpAnyH_take (i := 3) (oi := ⟨some 53, _, _, _, _, _⟩) (v := ?_) rfl (by kernel_rfl) (by kernel_rfl) (by kernel_rfl) (fun _ _ _ h => h) (Or.inl ⟨by rfl, ?_⟩) (by assumption) ?_; rotate_left; (focus (intro w hSw; (try dsimp only at hSw); go_simp; (try with_reducible rfl))); (try simp only [Act.put, List.setIfInBounds_toArray, List.set_cons_zero, List.set_cons_succ])
              refine wpAnyH_take (i := 4) (oi := ⟨some 54, _, _, _, _, _⟩) (v := ?_) rfl (by kernel_rfl) (by kernel_rfl) (by kernel_rfl) (fun _ _ _ h => h) (Or.inl ⟨by rfl, ?_⟩) (by assumption) ?_; rotate_left; (focus (intro w hSw; (try dsimp only at hSw); go_simp; (try with_reducible rfl))); (try simp only [Act.put, List.setIfInBounds_toArray, List.set_cons_zero, List.set_cons_succ])
              refine wpAnyH_take (i := 5) (oi := ⟨some 55, _, _, _, _, _⟩) (v := ?_) rfl (by kernel_rfl) (by kernel_rfl) (by kernel_rfl) (fun _ _ _ h => h) (Or.inl ⟨by rfl, ?_⟩) (by assumption) ?_; rotate_left; (focus (intro w hSw; (try dsimp only at hSw); go_simp; (try with_reducible rfl))); (try simp only [Act.put, List.setIfInBounds_toArray, List.set_cons_zero, List.set_cons_succ])
              refine wpAnyH_take (i := 6) (oi := ⟨some 56, _, _, _, _, _⟩) (v := ?_) rfl (by kernel_rfl) (by kernel_rfl) (by kernel_rfl) (fun _ _ _ h => h) (Or.inl ⟨by rfl, ?_⟩) (by assumption) ?_; rotate_left; (focus (intro w hSw; (try dsimp only at hSw); go_simp; (try with_reducible rfl))); (try simp only [Act.put, List.setIfInBounds_toArray, List.set_cons_zero, List.set_cons_succ])
              refine wpAnyH_take (i := 7) (oi := ⟨some 57, _, _, _, _, _⟩) (v := ?_) rfl (by kernel_rfl) (by kernel_rfl) (by kernel_rfl) (fun _ _ _ h => h) (Or.inl ⟨by rfl, ?_⟩) (by assumption) ?_; rotate_left; (focus (intro w hSw; (try dsimp only at hSw); go_simp; (try with_reducible rfl))); (try simp only [Act.put, List.setIfInBounds_toArray, List.set_cons_zero, List.set_cons_succ])
              refine wpAnyH_ready (rs := [2]) (by kernel_rfl) (by simp) ?_; refine AllReadyH.cons (o := ⟨some 52, _, _, _, _, _⟩) rfl (fun K hK => ?_) AllReadyH.nil; go_simp
              go_at_call 14
              refine (HI1.out w6.drew R_6.out).mono ?_
              rintro e w7 ⟨rfl, hb'⟩
              have hb : Below w6.heap.size w6 w7 := below_of_drew hb'
              have P_7 := Lib.hid (P_6.out.step hb)
              clear P_6
              have B_7 := Lib.hid (B_6.out.trans (hb.mono B_6.out.size))
              clear B_6
              have R_7 := Lib.hid (R_6.out.step hb)
              clear R_6
              have BK_7 := Lib.hid (BK_6.out.trans (hb.mono BK_6.out.size))
              clear BK_6
              have d0_7 := Lib.hid (d0_6.out.step hb)
              clear d0_6
              have d1_7 := Lib.hid (d1_6.out.step hb)
              clear d1_6
              clear hb hb'
              refine hK.out _ _ ⟨d0_7.out.2, d1_7.out.2⟩ (fun hHeld => ?_); clear hK K; (try simp only [Act.put, List.setIfInBounds_toArray, List.set_cons_zero, List.set_cons_succ])
              refine wpAnyH_take (i := 8) (oi := ⟨some 58, _, _, _, _, _⟩) (v := ?_) rfl (by kernel_rfl) (by kernel_rfl) (by kernel_rfl) (fun _ _ _ h => h) (Or.inl ⟨by rfl, ?_⟩) (by assumption) ?_; rotate_left; (focus (intro w hSw; (try dsimp only at hSw); go_simp; (try with_reducible rfl))); (try simp only [Act.put, List.setIfInBounds_toArray, List.set_cons_zero, List.set_cons_succ])
              refine wpAnyH_take (i := 9) (oi := ⟨some 59, _, _, _, _, _⟩) (v := ?_) rfl (by kernel_rfl) (by kernel_rfl) (by kernel_rfl) (fun _ _ _ h => h) (Or.inl ⟨by rfl, ?_⟩) (by assumption) ?_; rotate_left; (focus (intro w hSw; (try dsimp only at hSw); go_simp; (try with_reducible rfl))); (try simp only [Act.put, List.setIfInBounds_toArray, List.set_cons_zero, List.set_cons_succ])
              refine wpAnyH_take (i := 10) (oi := ⟨some 60, _, _, _, _, _⟩) (v := ?_) rfl (by kernel_rfl) (by kernel_rfl) (by kernel_rfl) (fun _ _ _ h => h) (Or.inl ⟨by rfl, ?_⟩) (by assumption) ?_; rotate_left; (focus (intro w hSw; (try dsimp only at hSw); go_simp; (try with_reducible rfl))); (try simp only [Act.put, List.setIfInBounds_toArray, List.set_cons_zero, List.set_cons_succ])
              refine wpAnyH_take (i := 11) (oi := ⟨some 61, _, _, _, _, _⟩) (v := ?_) rfl (by kernel_rfl) (by kernel_rfl) (by kernel_rfl) (fun _ _ _ h => h) (Or.inl ⟨by rfl, ?_⟩) (by assumption) ?_; rotate_left; (focus (intro w hSw; (try dsimp only at hSw); go_simp; (try with_reducible rfl))); (try simp only [Act.put, List.setIfInBounds_toArray, List.set_cons_zero, List.set_cons_succ])
              refine wpAnyH_take (i := 12) (oi := ⟨some 62, _, _, _, _, _⟩) (v := ?_) rfl (by kernel_rfl) (by kernel_rfl) (by kernel_rfl) (fun _ _ _ h => h) (Or.inl ⟨by rfl, ?_⟩) (by assumption) ?_; rotate_left; (focus (intro w hSw; (try dsimp only at hSw); go_simp; (try with_reducible rfl))); (try simp only [Act.put, List.setIfInBounds_toArray, List.set_cons_zero, List.set_cons_succ])
              refine wpAnyH_take (i := 13) (oi := ⟨some 63, _, _, _, _, _⟩) (v := ?_) rfl (by kernel_rfl) (by kernel_rfl) (by kernel_rfl) (fun _ _ _ h => h) (Or.inl ⟨by rfl, ?_⟩) (by assumption) ?_; rotate_left; (focus (intro w hSw; (try dsimp only at hSw); go_simp; (try with_reducible rfl))); (try simp only [Act.put, List.setIfInBounds_toArray, List.set_cons_zero, List.set_cons_succ])
              refine wpAnyH_take (i := 14) (oi := ⟨some 64, _, _, _, _, _⟩) (v := ?_) rfl (by kernel_rfl) (by kernel_rfl) (by kernel_rfl) (fun _ _ _ h => h) (Or.inl ⟨by rfl, ?_⟩) (by assumption) ?_; rotate_left; (focus (intro w hSw; (try dsimp only at hSw); go_simp; (try with_reducible rfl))); (try simp only [Act.put, List.setIfInBounds_toArray, List.set_cons_zero, List.set_cons_succ])
              refine wpAnyH_take (i := 15) (oi := ⟨some 65, _, _, _, _, _⟩) (v := ?_) rfl (by kernel_rfl) (by kernel_rfl) (by kernel_rfl) (fun _ _ _ h => h) (Or.inl ⟨by rfl, ?_⟩) (by assumption) ?_; rotate_left; (focus (intro w hSw; (try dsimp only at hSw); go_simp; (try with_reducible rfl))); (try simp only [Act.put, List.setIfInBounds_toArray, List.set_cons_zero, List.set_cons_succ])
              refine wpAnyH_take (i := 16) (oi := ⟨some 66, _, _, _, _, _⟩) (v := ?_) rfl (by kernel_rfl) (by kernel_rfl) (by kernel_rfl) (fun _ _ _ h => h) (Or.inl ⟨by rfl, ?_⟩) (by assumption) ?_; rotate_left; (focus (intro w hSw; (try dsimp only at hSw); go_simp; (try with_reducible rfl))); (try simp only [Act.put, List.setIfInBounds_toArray, List.set_cons_zero, List.set_cons_succ])
              refine wpAnyH_take (i := 17) (oi := ⟨some 67, _, _, _, _, _⟩) (v := ?_) rfl (by kernel_rfl) (by kernel_rfl) (by kernel_rfl) (fun _ _ _ h => h) (Or.inl ⟨by rfl, ?_⟩) (by assumption) ?_; rotate_left; (focus (intro w hSw; (try dsimp only at hSw); go_simp; (try with_reducible rfl))); (try simp only [Act.put, List.setIfInBounds_toArray, List.set_cons_zero, List.set_cons_succ])
              refine wpAnyH_done (by kernel_rfl) ?_ _
              go_wp2
              go_roundw
              case rel => exact ⟨k + 1, by omega, by go_num, BK_7.out, BK_7.out.size⟩
              case measure => simp [intOf]; omega
          · obtain rfl : k = n1 := by omega
            have HAS := Lib.hid fun (w' : World) (h : IS w' w'.heap.size A3 R) => laws_ascends A3 rl c3 R w' _ (Nat.le_refl _) HRL.out h (by omega) HA2.out
            go_wp2_with fail
            refine (HAS.out w6 R_6.out).mono ?_
            rintro e w7 ⟨rfl, hb⟩
            have P_7 := Lib.hid (P_6.out.step hb)
            clear P_6
            have B_7 := Lib.hid (B_6.out.trans (hb.mono B_6.out.size))
            clear B_6
            have R_7 := Lib.hid (R_6.out.step hb)
            clear R_6
            have BK_7 := Lib.hid (BK_6.out.trans (hb.mono BK_6.out.size))
            clear BK_6
            clear hb
            obtain ⟨b, off, rfl, hbB, d0, d1, ⟨A6, n6, c6, d2, hn6, i6⟩, A7, n7, c7, d3, hn7, i7⟩ := P_7.out.at_ t (by have := HN1.out; have := HTN.out; omega)
            clear d0 d2 hn6 i6 d3 hn7 i7
            have hef := HE2.out
            have htn := HTN.out
            have htn2 : (t : Int) < (k : Int) := by omega
            generalize (ds.getD t default).o = po at *
            cases po
            · have hr0 : rl = 0 := by rw [HRL.out, hef rfl]; rfl
              subst hr0
              clear hef
              go_wp2
              go_ret
              exact ⟨rfl, B_7.out⟩
            · clear hef
              go_wp2
              go_ret
              exact ⟨rfl, B_7.out⟩
end Go.Proofs.Ytjhpknnhgbdkiaa
