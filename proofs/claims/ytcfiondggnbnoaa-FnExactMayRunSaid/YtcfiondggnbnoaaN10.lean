/- What can be written: the standing contract of spec.goodWrites. (Made by n10.py.) -/
import Derived.Test.YtcfiondggnbnoaaN9
import Derived.Test.YtcfiondggnbnoaaS12
import Derived.Deep.RegionHeld3

namespace Go.Proofs.Ytcfiondggnbnoaa
set_option linter.unusedSimpArgs false
set_option linter.unusedVariables false
open Go.RowKit

/-- Different cells of a graph. -/
def wrB (gs : List Nd) (xs : List Int) : Bool := decide (∀ k, k < xs.length → isC gs (xs.getD k 0) = true) && decide xs.Nodup
/-- What spec.goodWrites answers. -/
def gwB (gs : List Nd) (xs vs : List Int) : Bool := decide (xs.length = vs.length) && (decide (xs.length ≤ 10) && (allR vs 0 999 && wrB gs xs))
theorem wrB_cell_no (gs : List Nd) (xs : List Int) (k : Nat) (hk : k < xs.length) (h : isC gs (xs.getD k 0) = false) : wrB gs xs = false := by
  unfold wrB; rw [decide_eq_false (fun hc => by rw [hc k hk] at h; cases h)]; rfl
theorem wrB_dup_no (gs : List Nd) (xs : List Int) (h : ¬ xs.Nodup) : wrB gs xs = false := by unfold wrB; rw [decide_eq_false h]; simp
theorem wrB_yes (gs : List Nd) (xs : List Int) (h : ∀ k, k < xs.length → isC gs (xs.getD k 0) = true) (h2 : xs.Nodup) : wrB gs xs = true := by unfold wrB; rw [decide_eq_true h, decide_eq_true h2]; rfl
theorem gwB_wr (gs : List Nd) (xs vs : List Int) (h1 : xs.length = vs.length) (h2 : xs.length ≤ 10) (h3 : allR vs 0 999 = true) : gwB gs xs vs = wrB gs xs := by unfold gwB; rw [decide_eq_true h1, decide_eq_true h2, h3]; simp

set_option maxRecDepth 100000 in
set_option maxHeartbeats 6400000 in
theorem spec_goodWrites (A1 E1 E2 : Option Addr) (n1 c1 m1 d1 m2 d2 : Nat) (gs : List Nd) (xs vs : List Int) (w1 : World) (hn : n1 = gs.length) (hG : n1 ≤ 2000000) (hm1 : m1 = xs.length) (hmd : m1 ≤ d1) (hm2 : m2 = vs.length) (hs2 : m2 ≤ 2000000) (h : GS w1 w1.heap.size A1 gs) (h1 : IS w1 w1.heap.size E1 xs) (h2 : IS w1 w1.heap.size E2 vs) :
    Calls Try.prog 44 #[.agg #[.slice A1 n1 c1], .slice E1 m1 d1, .slice E2 m2 d2] w1 fun e w' => e = .returned (.bool (gwB gs xs vs)) ∧ Below w1.heap.size w1 w' := by
  have HN1 := Lib.hid hn
  have HM1 := Lib.hid hm1
  have HM2 := Lib.hid hm2
  have P_1 := Lib.hid (h)
  have I_1 := Lib.hid (h1)
  have V_1 := Lib.hid (h2)
  have B_1 := Lib.hid (Below.refl w1.heap.size w1)
  by_cases hmm : m1 = m2
  case' neg =>
    have HF : Hid (gwB gs xs vs = false) := by show _ = _; unfold gwB; rw [decide_eq_false (by omega)]; rfl
    have h0 : ((m1 : Int) != (m2 : Int)) = true := by simp; omega
    clear hn hm1 hm2 h h1 h2 hmm
    go_enter Try.func44, Try.ntmps44
    go_wp2
    go_ret
    exact ⟨ret_b HF.out.symm, (Below.refl _ _).alloc (Nat.le_refl _) _⟩
  case pos =>
    subst hmm
    have h0 : ((m1 : Int) != (m1 : Int)) = false := by simp
    by_cases h10 : 10 < m1
    · have HF : Hid (gwB gs xs vs = false) := by show _ = _; unfold gwB; rw [decide_eq_true (by omega), decide_eq_false (by omega)]; rfl
      clear hn hm1 hm2 h h1 h2
      have h10i : (10 : Int) < (m1 : Int) := by omega
      go_enter Try.func44, Try.ntmps44
      go_wp2
      go_ret
      exact ⟨ret_b HF.out.symm, (Below.refl _ _).alloc (Nat.le_refl _) _⟩
    · have h10i : ¬ (10 : Int) < (m1 : Int) := by omega
      have HGW := Lib.hid fun (ha : allR vs 0 999 = true) => gwB_wr gs xs vs (by omega) (by omega) ha
      have HGN : Hid (allR vs 0 999 = false → gwB gs xs vs = false) := fun ha => by unfold gwB; rw [ha]; simp
      clear hn hm1 hm2 h h1 h2
      have HAI := Lib.hid fun (w' : World) (h : IS w' w'.heap.size E2 vs) => spec_allIn E2 m1 d2 vs 0 999 w' w'.heap.size (Nat.le_refl _) HM2.out h (by omega)
      generalize allR vs 0 999 = a at *
      go_enter Try.func44, Try.ntmps44
      go_wp2_with fail
      obtain ⟨w2, hw2⟩ : ∃ W, W = w1.alloc (.cells #[.slice A1 n1 c1] 30) := ⟨_, rfl⟩
      have hb : Below w1.heap.size w1 w2 := by rw [hw2]; exact (Below.refl _ _).alloc (Nat.le_refl _) _
      have P_2 := Lib.hid (P_1.out.step hb)
      clear P_1
      have I_2 := Lib.hid (I_1.out.step hb)
      clear I_1
      have V_2 := Lib.hid (V_1.out.step hb)
      clear V_1
      have B_2 := Lib.hid (B_1.out.trans (hb.mono B_1.out.size))
      clear B_1
      have F_2 : Hid (As w1.heap.size (w1.heap.size + 1) (fun w' => w'.cell? ⟨w1.heap.size, 0, none⟩ = some (.slice A1 n1 c1)) w2) := by rw [hw2]; exact box_new _ _ _
      clear hb
      rw [← hw2]
      clear hw2
      refine (HAI.out w2 V_2.out).mono ?_
      rintro e w9 ⟨rfl, rfl⟩
      cases a
      · have HF := Lib.hid (HGN.out (by first | rfl | trivial))
        go_wp2
        go_ret
        exact ⟨ret_b HF.out.symm, B_2.out⟩
      · have HF := Lib.hid (HGW.out (by first | rfl | trivial))
        clear HGW HGN HAI
        go_wp2
        go_loopw [7] (fun u wr => ∃ k : Nat, k ≤ m1 ∧ u = .int .i64 k ∧ Hid ((xs.take k).Nodup) ∧ Hid (∀ j, j < k → isC gs (xs.getD j 0) = true) ∧ Hid (Below w2.heap.size w2 wr) ∧ w2.heap.size ≤ wr.heap.size) (fun u _ => m1 - (intOf u).toNat)
        case atStart => exact ⟨0, Nat.zero_le _, rfl, by simp [Hid], fun j hj => by omega, Below.refl _ _, Nat.le_refl _⟩
        case round =>
          obtain ⟨k, hk, rfl, HD, HA, HB, hwr⟩ := hrel
          obtain ⟨w3, hwK⟩ : ∃ W, W = wr := ⟨_, rfl⟩
          rw [← hwK]
          rw [← hwK] at HB hwr
          clear hwK
          have P_3 := Lib.hid (P_2.out.step HB.out)
          have I_3 := Lib.hid (I_2.out.step HB.out)
          have V_3 := Lib.hid (V_2.out.step HB.out)
          have B_3 := Lib.hid (B_2.out.trans (HB.out.mono B_2.out.size))
          have F_3 := Lib.hid (F_2.out.step HB.out)
          have BK_3 := HB
          clear HB
          by_cases hlt : k < m1
          · have hkx : k < xs.length := by have := HM1.out; omega
            obtain ⟨b6, o6, rfl, hb6, e6⟩ := I_3.out (by omega)
            have x6 := e6 k hkx
            clear e6
            have HY := Lib.hid (nodup_take_step xs k hkx)
            have HNO := Lib.hid (nodup_take_no xs k hkx)
            have HCN := Lib.hid (wrB_cell_no gs xs k hkx)
            have HAS : Hid (isC gs (xs.getD k 0) = true → ∀ j, j < k + 1 → isC gs (xs.getD j 0) = true) := fun h j hj => by
              rcases Nat.lt_or_ge j k with h1 | h1
              · exact HA.out j h1
              · obtain rfl : j = k := by omega
                exact h
            have HCE := Lib.hid fun (x : Int) (w' : World) (h : GS w' w'.heap.size A1 gs) => spec_isCell A1 n1 c1 gs x w' w'.heap.size (Nat.le_refl _) HN1.out h (by omega)
            have HPL := Lib.hid fun (w' : World) (h : IS w' w'.heap.size (some ⟨b6, o6, none⟩) xs) => spec_placeIn (some ⟨b6, o6, none⟩) k d1 (xs.take k) (xs.getD k 0) w' w'.heap.size (Nat.le_refl _) (by simp; omega) (h.take_ k (by omega)) (by omega)
            have hpg := plc_ge (xs.take k) (xs.getD k 0)
            generalize xs.getD k 0 = x at *
            have x6_3 : Hid (C1 b6 (o6 + k) (.int .i64 x) w3) := ⟨hb6, x6⟩
            clear x6 HA
            have hkm : (k : Int) < (m1 : Int) := by omega
            have hkd : k ≤ d1 := by omega
            have HCX := Lib.hid (HCE.out x)
            clear HCE
            generalize isC gs x = ic at *
            cases ic
            · have HF2 := Lib.hid (HF.out.trans (HCN.out (by first | rfl | trivial)))
              clear hpg HY HNO HCN HAS
              go_wp2
              refine wp_region_held_drew (S := fun w' => w'.cell? ⟨w1.heap.size, 0, none⟩ = some (.slice A1 n1 c1) ∧ w'.cell? ⟨b6, o6 + k, none⟩ = some (.int .i64 x)) (by kernel_rfl) ⟨F_3.out.it, x6_3.out.2⟩ (fun hHeld => ?_)
              refine wpAnyH_take (i := 0) (oi := ⟨some 29, _, _, _, _, _⟩) (v := ?_) rfl (by kernel_rfl) (by kernel_rfl) (by kernel_rfl) (fun _ _ _ h => h) (Or.inl ⟨by rfl, ?_⟩) (by assumption) ?_; rotate_left; (focus (intro w hSw; (try dsimp only at hSw); go_simp; (try with_reducible rfl))); (try simp only [Act.put, List.setIfInBounds_toArray, List.set_cons_zero, List.set_cons_succ])
              refine wpAnyH_take (i := 1) (oi := ⟨some 30, _, _, _, _, _⟩) (v := ?_) rfl (by kernel_rfl) (by kernel_rfl) (by kernel_rfl) (fun _ _ _ h => h) (Or.inl ⟨by rfl, ?_⟩) (by assumption) ?_; rotate_left; (focus (intro w hSw; (try dsimp only at hSw); go_simp; (try with_reducible rfl))); (try simp only [Act.put, List.setIfInBounds_toArray, List.set_cons_zero, List.set_cons_succ])
              refine wpAnyH_take (i := 2) (oi := ⟨some 31, _, _, _, _, _⟩) (v := ?_) rfl (by kernel_rfl) (by kernel_rfl) (by kernel_rfl) (fun _ _ _ h => h) (Or.inl ⟨by rfl, ?_⟩) (by assumption) ?_; rotate_left; (focus (intro w hSw; (try dsimp only at hSw); go_simp; (try with_reducible rfl))); (try simp only [Act.put, List.setIfInBounds_toArray, List.set_cons_zero, List.set_cons_succ])
              refine wpAnyH_take (i := 3) (oi := ⟨some 32, _, _, _, _, _⟩) (v := ?_) rfl (by kernel_rfl) (by kernel_rfl) (by kernel_rfl) (fun _ _ _ h => h) (Or.inl ⟨by rfl, ?_⟩) (by assumption) ?_; rotate_left; (focus (intro w hSw; (try dsimp only at hSw); go_simp; (try with_reducible rfl))); (try simp only [Act.put, List.setIfInBounds_toArray, List.set_cons_zero, List.set_cons_succ])
              refine wpAnyH_take (i := 4) (oi := ⟨some 33, _, _, _, _, _⟩) (v := ?_) rfl (by kernel_rfl) (by kernel_rfl) (by kernel_rfl) (fun _ _ _ h => h) (Or.inl ⟨by rfl, ?_⟩) (by assumption) ?_; rotate_left; (focus (intro w hSw; (try dsimp only at hSw); go_simp; (try with_reducible rfl))); (try simp only [Act.put, List.setIfInBounds_toArray, List.set_cons_zero, List.set_cons_succ])
              refine wpAnyH_ready (rs := [5]) (by kernel_rfl) (by simp) ?_; refine AllReadyH.cons (o := ⟨some 34, _, _, _, _, _⟩) rfl (fun K hK => ?_) AllReadyH.nil; go_simp
              go_at_call 62
              refine (HCX.out w3.drew P_3.out).mono ?_
              rintro e w4 ⟨rfl, hb'⟩
              have hb : Below w3.heap.size w3 w4 := below_of_drew hb'
              have P_4 := Lib.hid (P_3.out.step hb)
              clear P_3
              have I_4 := Lib.hid (I_3.out.step hb)
              clear I_3
              have V_4 := Lib.hid (V_3.out.step hb)
              clear V_3
              have B_4 := Lib.hid (B_3.out.trans (hb.mono B_3.out.size))
              clear B_3
              have F_4 := Lib.hid (F_3.out.step hb)
              clear F_3
              have BK_4 := Lib.hid (BK_3.out.trans (hb.mono BK_3.out.size))
              clear BK_3
              have x6_4 := Lib.hid (x6_3.out.step hb)
              clear x6_3
              clear hb hb'
              refine hK.out _ _ ⟨F_4.out.it, x6_4.out.2⟩ (fun hHeld => ?_); clear hK K; (try simp only [Act.put, List.setIfInBounds_toArray, List.set_cons_zero, List.set_cons_succ])
              refine wpAnyH_take (i := 6) (oi := ⟨some 35, _, _, _, _, _⟩) (v := ?_) rfl (by kernel_rfl) (by kernel_rfl) (by kernel_rfl) (fun _ _ _ h => h) (Or.inl ⟨by rfl, ?_⟩) (by assumption) ?_; rotate_left; (focus (intro w hSw; (try dsimp only at hSw); go_simp; (try with_reducible rfl))); (try simp only [Act.put, List.setIfInBounds_toArray, List.set_cons_zero, List.set_cons_succ])
              refine wpAnyH_take (i := 7) (oi := ⟨some 36, _, _, _, _, _⟩) (v := ?_) rfl (by kernel_rfl) (by kernel_rfl) (by kernel_rfl) (fun _ _ _ h => h) (Or.inl ⟨by rfl, ?_⟩) (by assumption) ?_; rotate_left; (focus (intro w hSw; (try dsimp only at hSw); go_simp; (try with_reducible rfl))); (try simp only [Act.put, List.setIfInBounds_toArray, List.set_cons_zero, List.set_cons_succ])
              refine wpAnyH_take (i := 8) (oi := ⟨some 37, _, _, _, _, _⟩) (v := undef) rfl (by kernel_rfl) (by kernel_rfl) (by kernel_rfl) (fun _ _ _ h => h) (Or.inr ⟨by rfl, rfl⟩) (by assumption) ?_; (try simp only [Act.put, List.setIfInBounds_toArray, List.set_cons_zero, List.set_cons_succ])
              refine wpAnyH_take (i := 9) (oi := ⟨some 38, _, _, _, _, _⟩) (v := undef) rfl (by kernel_rfl) (by kernel_rfl) (by kernel_rfl) (fun _ _ _ h => h) (Or.inr ⟨by rfl, rfl⟩) (by assumption) ?_; (try simp only [Act.put, List.setIfInBounds_toArray, List.set_cons_zero, List.set_cons_succ])
              refine wpAnyH_take (i := 10) (oi := ⟨some 39, _, _, _, _, _⟩) (v := undef) rfl (by kernel_rfl) (by kernel_rfl) (by kernel_rfl) (fun _ _ _ h => h) (Or.inr ⟨by rfl, rfl⟩) (by assumption) ?_; (try simp only [Act.put, List.setIfInBounds_toArray, List.set_cons_zero, List.set_cons_succ])
              refine wpAnyH_take (i := 11) (oi := ⟨some 40, _, _, _, _, _⟩) (v := undef) rfl (by kernel_rfl) (by kernel_rfl) (by kernel_rfl) (fun _ _ _ h => h) (Or.inr ⟨by rfl, rfl⟩) (by assumption) ?_; (try simp only [Act.put, List.setIfInBounds_toArray, List.set_cons_zero, List.set_cons_succ])
              refine wpAnyH_take (i := 12) (oi := ⟨some 41, _, _, _, _, _⟩) (v := undef) rfl (by kernel_rfl) (by kernel_rfl) (by kernel_rfl) (fun _ _ _ h => h) (Or.inr ⟨by rfl, rfl⟩) (by assumption) ?_; (try simp only [Act.put, List.setIfInBounds_toArray, List.set_cons_zero, List.set_cons_succ])
              refine wpAnyH_take (i := 13) (oi := ⟨some 42, _, _, _, _, _⟩) (v := undef) rfl (by kernel_rfl) (by kernel_rfl) (by kernel_rfl) (fun _ _ _ h => h) (Or.inr ⟨by rfl, rfl⟩) (by assumption) ?_; (try simp only [Act.put, List.setIfInBounds_toArray, List.set_cons_zero, List.set_cons_succ])
              refine wpAnyH_take (i := 14) (oi := ⟨some 43, _, _, _, _, _⟩) (v := undef) rfl (by kernel_rfl) (by kernel_rfl) (by kernel_rfl) (fun _ _ _ h => h) (Or.inr ⟨by rfl, rfl⟩) (by assumption) ?_; (try simp only [Act.put, List.setIfInBounds_toArray, List.set_cons_zero, List.set_cons_succ])
              refine wpAnyH_take (i := 15) (oi := ⟨some 44, _, _, _, _, _⟩) (v := undef) rfl (by kernel_rfl) (by kernel_rfl) (by kernel_rfl) (fun _ _ _ h => h) (Or.inr ⟨by rfl, rfl⟩) (by assumption) ?_; (try simp only [Act.put, List.setIfInBounds_toArray, List.set_cons_zero, List.set_cons_succ])
              refine wpAnyH_take (i := 16) (oi := ⟨some 45, _, _, _, _, _⟩) (v := undef) rfl (by kernel_rfl) (by kernel_rfl) (by kernel_rfl) (fun _ _ _ h => h) (Or.inr ⟨by rfl, rfl⟩) (by assumption) ?_; (try simp only [Act.put, List.setIfInBounds_toArray, List.set_cons_zero, List.set_cons_succ])
              refine wpAnyH_take (i := 17) (oi := ⟨some 46, _, _, _, _, _⟩) (v := ?_) rfl (by kernel_rfl) (by kernel_rfl) (by kernel_rfl) (fun _ _ _ h => h) (Or.inl ⟨by rfl, ?_⟩) (by assumption) ?_; rotate_left; (focus (intro w hSw; (try dsimp only at hSw); go_simp; (try with_reducible rfl))); (try simp only [Act.put, List.setIfInBounds_toArray, List.set_cons_zero, List.set_cons_succ])
              refine wpAnyH_done (by kernel_rfl) ?_ _
              go_wp2
              go_ret
              exact ⟨ret_b HF2.out.symm, B_4.out⟩
            · have HAS2 := Lib.hid (HAS.out (by first | rfl | trivial))
              clear HAS HCN
              generalize plc (xs.take k) x = q at *
              by_cases hm : x ∈ xs.take k
              · have HF2 := Lib.hid (HF.out.trans (wrB_dup_no gs xs (HNO.out hm)))
                have hq : (0 : Int) ≤ q := by rw [decide_eq_true hm] at hpg; exact of_decide_eq_true hpg
                clear hpg HY HNO hm
                go_wp2
                refine wp_region_held_drew (S := fun w' => w'.cell? ⟨w1.heap.size, 0, none⟩ = some (.slice A1 n1 c1) ∧ w'.cell? ⟨b6, o6 + k, none⟩ = some (.int .i64 x)) (by kernel_rfl) ⟨F_3.out.it, x6_3.out.2⟩ (fun hHeld => ?_)
                refine wpAnyH_take (i := 0) (oi := ⟨some 29, _, _, _, _, _⟩) (v := ?_) rfl (by kernel_rfl) (by kernel_rfl) (by kernel_rfl) (fun _ _ _ h => h) (Or.inl ⟨by rfl, ?_⟩) (by assumption) ?_; rotate_left; (focus (intro w hSw; (try dsimp only at hSw); go_simp; (try with_reducible rfl))); (try simp only [Act.put, List.setIfInBounds_toArray, List.set_cons_zero, List.set_cons_succ])
                refine wpAnyH_take (i := 1) (oi := ⟨some 30, _, _, _, _, _⟩) (v := ?_) rfl (by kernel_rfl) (by kernel_rfl) (by kernel_rfl) (fun _ _ _ h => h) (Or.inl ⟨by rfl, ?_⟩) (by assumption) ?_; rotate_left; (focus (intro w hSw; (try dsimp only at hSw); go_simp; (try with_reducible rfl))); (try simp only [Act.put, List.setIfInBounds_toArray, List.set_cons_zero, List.set_cons_succ])
                refine wpAnyH_take (i := 2) (oi := ⟨some 31, _, _, _, _, _⟩) (v := ?_) rfl (by kernel_rfl) (by kernel_rfl) (by kernel_rfl) (fun _ _ _ h => h) (Or.inl ⟨by rfl, ?_⟩) (by assumption) ?_; rotate_left; (focus (intro w hSw; (try dsimp only at hSw); go_simp; (try with_reducible rfl))); (try simp only [Act.put, List.setIfInBounds_toArray, List.set_cons_zero, List.set_cons_succ])
                refine wpAnyH_take (i := 3) (oi := ⟨some 32, _, _, _, _, _⟩) (v := ?_) rfl (by kernel_rfl) (by kernel_rfl) (by kernel_rfl) (fun _ _ _ h => h) (Or.inl ⟨by rfl, ?_⟩) (by assumption) ?_; rotate_left; (focus (intro w hSw; (try dsimp only at hSw); go_simp; (try with_reducible rfl))); (try simp only [Act.put, List.setIfInBounds_toArray, List.set_cons_zero, List.set_cons_succ])
                refine wpAnyH_take (i := 4) (oi := ⟨some 33, _, _, _, _, _⟩) (v := ?_) rfl (by kernel_rfl) (by kernel_rfl) (by kernel_rfl) (fun _ _ _ h => h) (Or.inl ⟨by rfl, ?_⟩) (by assumption) ?_; rotate_left; (focus (intro w hSw; (try dsimp only at hSw); go_simp; (try with_reducible rfl))); (try simp only [Act.put, List.setIfInBounds_toArray, List.set_cons_zero, List.set_cons_succ])
                refine wpAnyH_ready (rs := [5]) (by kernel_rfl) (by simp) ?_; refine AllReadyH.cons (o := ⟨some 34, _, _, _, _, _⟩) rfl (fun K hK => ?_) AllReadyH.nil; go_simp
                go_at_call 62
                refine (HCX.out w3.drew P_3.out).mono ?_
                rintro e w4 ⟨rfl, hb'⟩
                have hb : Below w3.heap.size w3 w4 := below_of_drew hb'
                have P_4 := Lib.hid (P_3.out.step hb)
                clear P_3
                have I_4 := Lib.hid (I_3.out.step hb)
                clear I_3
                have V_4 := Lib.hid (V_3.out.step hb)
                clear V_3
                have B_4 := Lib.hid (B_3.out.trans (hb.mono B_3.out.size))
                clear B_3
                have F_4 := Lib.hid (F_3.out.step hb)
                clear F_3
                have BK_4 := Lib.hid (BK_3.out.trans (hb.mono BK_3.out.size))
                clear BK_3
                have x6_4 := Lib.hid (x6_3.out.step hb)
                clear x6_3
                clear hb hb'
                refine hK.out _ _ ⟨F_4.out.it, x6_4.out.2⟩ (fun hHeld => ?_); clear hK K; (try simp only [Act.put, List.setIfInBounds_toArray, List.set_cons_zero, List.set_cons_succ])
                refine wpAnyH_take (i := 6) (oi := ⟨some 35, _, _, _, _, _⟩) (v := ?_) rfl (by kernel_rfl) (by kernel_rfl) (by kernel_rfl) (fun _ _ _ h => h) (Or.inl ⟨by rfl, ?_⟩) (by assumption) ?_; rotate_left; (focus (intro w hSw; (try dsimp only at hSw); go_simp; (try with_reducible rfl))); (try simp only [Act.put, List.setIfInBounds_toArray, List.set_cons_zero, List.set_cons_succ])
                refine wpAnyH_take (i := 7) (oi := ⟨some 36, _, _, _, _, _⟩) (v := ?_) rfl (by kernel_rfl) (by kernel_rfl) (by kernel_rfl) (fun _ _ _ h => h) (Or.inl ⟨by rfl, ?_⟩) (by assumption) ?_; rotate_left; (focus (intro w hSw; (try dsimp only at hSw); go_simp; (try with_reducible rfl))); (try simp only [Act.put, List.setIfInBounds_toArray, List.set_cons_zero, List.set_cons_succ])
                refine wpAnyH_take (i := 8) (oi := ⟨some 37, _, _, _, _, _⟩) (v := ?_) rfl (by kernel_rfl) (by kernel_rfl) (by kernel_rfl) (fun _ _ _ h => h) (Or.inl ⟨by rfl, ?_⟩) (by assumption) ?_; rotate_left; (focus (intro w hSw; (try dsimp only at hSw); go_simp; (try with_reducible rfl))); (try simp only [Act.put, List.setIfInBounds_toArray, List.set_cons_zero, List.set_cons_succ])
                refine wpAnyH_take (i := 9) (oi := ⟨some 38, _, _, _, _, _⟩) (v := ?_) rfl (by kernel_rfl) (by kernel_rfl) (by kernel_rfl) (fun _ _ _ h => h) (Or.inl ⟨by rfl, ?_⟩) (by assumption) ?_; rotate_left; (focus (intro w hSw; (try dsimp only at hSw); go_simp; (try with_reducible rfl))); (try simp only [Act.put, List.setIfInBounds_toArray, List.set_cons_zero, List.set_cons_succ])
                refine wpAnyH_take (i := 10) (oi := ⟨some 39, _, _, _, _, _⟩) (v := ?_) rfl (by kernel_rfl) (by kernel_rfl) (by kernel_rfl) (fun _ _ _ h => h) (Or.inl ⟨by rfl, ?_⟩) (by assumption) ?_; rotate_left; (focus (intro w hSw; (try dsimp only at hSw); go_simp; (try with_reducible rfl))); (try simp only [Act.put, List.setIfInBounds_toArray, List.set_cons_zero, List.set_cons_succ])
                refine wpAnyH_take (i := 11) (oi := ⟨some 40, _, _, _, _, _⟩) (v := ?_) rfl (by kernel_rfl) (by kernel_rfl) (by kernel_rfl) (fun _ _ _ h => h) (Or.inl ⟨by rfl, ?_⟩) (by assumption) ?_; rotate_left; (focus (intro w hSw; (try dsimp only at hSw); go_simp; (try with_reducible rfl))); (try simp only [Act.put, List.setIfInBounds_toArray, List.set_cons_zero, List.set_cons_succ])
                refine wpAnyH_take (i := 12) (oi := ⟨some 41, _, _, _, _, _⟩) (v := ?_) rfl (by kernel_rfl) (by kernel_rfl) (by kernel_rfl) (fun _ _ _ h => h) (Or.inl ⟨by rfl, ?_⟩) (by assumption) ?_; rotate_left; (focus (intro w hSw; (try dsimp only at hSw); go_simp; (try with_reducible rfl))); (try simp only [Act.put, List.setIfInBounds_toArray, List.set_cons_zero, List.set_cons_succ])
                refine wpAnyH_take (i := 13) (oi := ⟨some 42, _, _, _, _, _⟩) (v := ?_) rfl (by kernel_rfl) (by kernel_rfl) (by kernel_rfl) (fun _ _ _ h => h) (Or.inl ⟨by rfl, ?_⟩) (by assumption) ?_; rotate_left; (focus (intro w hSw; (try dsimp only at hSw); go_simp; (try with_reducible rfl))); (try simp only [Act.put, List.setIfInBounds_toArray, List.set_cons_zero, List.set_cons_succ])
                refine wpAnyH_take (i := 14) (oi := ⟨some 43, _, _, _, _, _⟩) (v := ?_) rfl (by kernel_rfl) (by kernel_rfl) (by kernel_rfl) (fun _ _ _ h => h) (Or.inl ⟨by rfl, ?_⟩) (by assumption) ?_; rotate_left; (focus (intro w hSw; (try dsimp only at hSw); go_simp; (try with_reducible rfl))); (try simp only [Act.put, List.setIfInBounds_toArray, List.set_cons_zero, List.set_cons_succ])
                refine wpAnyH_ready (rs := [15]) (by kernel_rfl) (by simp) ?_; refine AllReadyH.cons (o := ⟨some 44, _, _, _, _, _⟩) rfl (fun K hK => ?_) AllReadyH.nil; go_simp
                go_at_call 51
                refine (HPL.out w4 I_4.out).mono ?_
                rintro e w8 ⟨rfl, rfl⟩
                refine hK.out _ _ ⟨F_4.out.it, x6_4.out.2⟩ (fun hHeld => ?_); clear hK K; (try simp only [Act.put, List.setIfInBounds_toArray, List.set_cons_zero, List.set_cons_succ])
                refine wpAnyH_take (i := 16) (oi := ⟨some 45, _, _, _, _, _⟩) (v := ?_) rfl (by kernel_rfl) (by kernel_rfl) (by kernel_rfl) (fun _ _ _ h => h) (Or.inl ⟨by rfl, ?_⟩) (by assumption) ?_; rotate_left; (focus (intro w hSw; (try dsimp only at hSw); go_simp; (try with_reducible rfl))); (try simp only [Act.put, List.setIfInBounds_toArray, List.set_cons_zero, List.set_cons_succ])
                refine wpAnyH_take (i := 17) (oi := ⟨some 46, _, _, _, _, _⟩) (v := ?_) rfl (by kernel_rfl) (by kernel_rfl) (by kernel_rfl) (fun _ _ _ h => h) (Or.inl ⟨by rfl, ?_⟩) (by assumption) ?_; rotate_left; (focus (intro w hSw; (try dsimp only at hSw); go_simp; (try with_reducible rfl))); (try simp only [Act.put, List.setIfInBounds_toArray, List.set_cons_zero, List.set_cons_succ])
                refine wpAnyH_done (by kernel_rfl) ?_ _
                go_wp2
                go_ret
                exact ⟨ret_b HF2.out.symm, B_4.out⟩
              · have HT2 := Lib.hid (HY.out HD.out hm)
                have hq : ¬ (0 : Int) ≤ q := by rw [decide_eq_false hm] at hpg; exact of_decide_eq_false hpg
                clear hpg HY HNO hm
                go_wp2
                refine wp_region_held_drew (S := fun w' => w'.cell? ⟨w1.heap.size, 0, none⟩ = some (.slice A1 n1 c1) ∧ w'.cell? ⟨b6, o6 + k, none⟩ = some (.int .i64 x)) (by kernel_rfl) ⟨F_3.out.it, x6_3.out.2⟩ (fun hHeld => ?_)
                refine wpAnyH_take (i := 0) (oi := ⟨some 29, _, _, _, _, _⟩) (v := ?_) rfl (by kernel_rfl) (by kernel_rfl) (by kernel_rfl) (fun _ _ _ h => h) (Or.inl ⟨by rfl, ?_⟩) (by assumption) ?_; rotate_left; (focus (intro w hSw; (try dsimp only at hSw); go_simp; (try with_reducible rfl))); (try simp only [Act.put, List.setIfInBounds_toArray, List.set_cons_zero, List.set_cons_succ])
                refine wpAnyH_take (i := 1) (oi := ⟨some 30, _, _, _, _, _⟩) (v := ?_) rfl (by kernel_rfl) (by kernel_rfl) (by kernel_rfl) (fun _ _ _ h => h) (Or.inl ⟨by rfl, ?_⟩) (by assumption) ?_; rotate_left; (focus (intro w hSw; (try dsimp only at hSw); go_simp; (try with_reducible rfl))); (try simp only [Act.put, List.setIfInBounds_toArray, List.set_cons_zero, List.set_cons_succ])
                refine wpAnyH_take (i := 2) (oi := ⟨some 31, _, _, _, _, _⟩) (v := ?_) rfl (by kernel_rfl) (by kernel_rfl) (by kernel_rfl) (fun _ _ _ h => h) (Or.inl ⟨by rfl, ?_⟩) (by assumption) ?_; rotate_left; (focus (intro w hSw; (try dsimp only at hSw); go_simp; (try with_reducible rfl))); (try simp only [Act.put, List.setIfInBounds_toArray, List.set_cons_zero, List.set_cons_succ])
                refine wpAnyH_take (i := 3) (oi := ⟨some 32, _, _, _, _, _⟩) (v := ?_) rfl (by kernel_rfl) (by kernel_rfl) (by kernel_rfl) (fun _ _ _ h => h) (Or.inl ⟨by rfl, ?_⟩) (by assumption) ?_; rotate_left; (focus (intro w hSw; (try dsimp only at hSw); go_simp; (try with_reducible rfl))); (try simp only [Act.put, List.setIfInBounds_toArray, List.set_cons_zero, List.set_cons_succ])
                refine wpAnyH_take (i := 4) (oi := ⟨some 33, _, _, _, _, _⟩) (v := ?_) rfl (by kernel_rfl) (by kernel_rfl) (by kernel_rfl) (fun _ _ _ h => h) (Or.inl ⟨by rfl, ?_⟩) (by assumption) ?_; rotate_left; (focus (intro w hSw; (try dsimp only at hSw); go_simp; (try with_reducible rfl))); (try simp only [Act.put, List.setIfInBounds_toArray, List.set_cons_zero, List.set_cons_succ])
                refine wpAnyH_ready (rs := [5]) (by kernel_rfl) (by simp) ?_; refine AllReadyH.cons (o := ⟨some 34, _, _, _, _, _⟩) rfl (fun K hK => ?_) AllReadyH.nil; go_simp
                go_at_call 62
                refine (HCX.out w3.drew P_3.out).mono ?_
                rintro e w4 ⟨rfl, hb'⟩
                have hb : Below w3.heap.size w3 w4 := below_of_drew hb'
                have P_4 := Lib.hid (P_3.out.step hb)
                clear P_3
                have I_4 := Lib.hid (I_3.out.step hb)
                clear I_3
                have V_4 := Lib.hid (V_3.out.step hb)
                clear V_3
                have B_4 := Lib.hid (B_3.out.trans (hb.mono B_3.out.size))
                clear B_3
                have F_4 := Lib.hid (F_3.out.step hb)
                clear F_3
                have BK_4 := Lib.hid (BK_3.out.trans (hb.mono BK_3.out.size))
                clear BK_3
                have x6_4 := Lib.hid (x6_3.out.step hb)
                clear x6_3
                clear hb hb'
                refine hK.out _ _ ⟨F_4.out.it, x6_4.out.2⟩ (fun hHeld => ?_); clear hK K; (try simp only [Act.put, List.setIfInBounds_toArray, List.set_cons_zero, List.set_cons_succ])
                refine wpAnyH_take (i := 6) (oi := ⟨some 35, _, _, _, _, _⟩) (v := ?_) rfl (by kernel_rfl) (by kernel_rfl) (by kernel_rfl) (fun _ _ _ h => h) (Or.inl ⟨by rfl, ?_⟩) (by assumption) ?_; rotate_left; (focus (intro w hSw; (try dsimp only at hSw); go_simp; (try with_reducible rfl))); (try simp only [Act.put, List.setIfInBounds_toArray, List.set_cons_zero, List.set_cons_succ])
                refine wpAnyH_take (i := 7) (oi := ⟨some 36, _, _, _, _, _⟩) (v := ?_) rfl (by kernel_rfl) (by kernel_rfl) (by kernel_rfl) (fun _ _ _ h => h) (Or.inl ⟨by rfl, ?_⟩) (by assumption) ?_; rotate_left; (focus (intro w hSw; (try dsimp only at hSw); go_simp; (try with_reducible rfl))); (try simp only [Act.put, List.setIfInBounds_toArray, List.set_cons_zero, List.set_cons_succ])
                refine wpAnyH_take (i := 8) (oi := ⟨some 37, _, _, _, _, _⟩) (v := ?_) rfl (by kernel_rfl) (by kernel_rfl) (by kernel_rfl) (fun _ _ _ h => h) (Or.inl ⟨by rfl, ?_⟩) (by assumption) ?_; rotate_left; (focus (intro w hSw; (try dsimp only at hSw); go_simp; (try with_reducible rfl))); (try simp only [Act.put, List.setIfInBounds_toArray, List.set_cons_zero, List.set_cons_succ])
                refine wpAnyH_take (i := 9) (oi := ⟨some 38, _, _, _, _, _⟩) (v := ?_) rfl (by kernel_rfl) (by kernel_rfl) (by kernel_rfl) (fun _ _ _ h => h) (Or.inl ⟨by rfl, ?_⟩) (by assumption) ?_; rotate_left; (focus (intro w hSw; (try dsimp only at hSw); go_simp; (try with_reducible rfl))); (try simp only [Act.put, List.setIfInBounds_toArray, List.set_cons_zero, List.set_cons_succ])
                refine wpAnyH_take (i := 10) (oi := ⟨some 39, _, _, _, _, _⟩) (v := ?_) rfl (by kernel_rfl) (by kernel_rfl) (by kernel_rfl) (fun _ _ _ h => h) (Or.inl ⟨by rfl, ?_⟩) (by assumption) ?_; rotate_left; (focus (intro w hSw; (try dsimp only at hSw); go_simp; (try with_reducible rfl))); (try simp only [Act.put, List.setIfInBounds_toArray, List.set_cons_zero, List.set_cons_succ])
                refine wpAnyH_take (i := 11) (oi := ⟨some 40, _, _, _, _, _⟩) (v := ?_) rfl (by kernel_rfl) (by kernel_rfl) (by kernel_rfl) (fun _ _ _ h => h) (Or.inl ⟨by rfl, ?_⟩) (by assumption) ?_; rotate_left; (focus (intro w hSw; (try dsimp only at hSw); go_simp; (try with_reducible rfl))); (try simp only [Act.put, List.setIfInBounds_toArray, List.set_cons_zero, List.set_cons_succ])
                refine wpAnyH_take (i := 12) (oi := ⟨some 41, _, _, _, _, _⟩) (v := ?_) rfl (by kernel_rfl) (by kernel_rfl) (by kernel_rfl) (fun _ _ _ h => h) (Or.inl ⟨by rfl, ?_⟩) (by assumption) ?_; rotate_left; (focus (intro w hSw; (try dsimp only at hSw); go_simp; (try with_reducible rfl))); (try simp only [Act.put, List.setIfInBounds_toArray, List.set_cons_zero, List.set_cons_succ])
                refine wpAnyH_take (i := 13) (oi := ⟨some 42, _, _, _, _, _⟩) (v := ?_) rfl (by kernel_rfl) (by kernel_rfl) (by kernel_rfl) (fun _ _ _ h => h) (Or.inl ⟨by rfl, ?_⟩) (by assumption) ?_; rotate_left; (focus (intro w hSw; (try dsimp only at hSw); go_simp; (try with_reducible rfl))); (try simp only [Act.put, List.setIfInBounds_toArray, List.set_cons_zero, List.set_cons_succ])
                refine wpAnyH_take (i := 14) (oi := ⟨some 43, _, _, _, _, _⟩) (v := ?_) rfl (by kernel_rfl) (by kernel_rfl) (by kernel_rfl) (fun _ _ _ h => h) (Or.inl ⟨by rfl, ?_⟩) (by assumption) ?_; rotate_left; (focus (intro w hSw; (try dsimp only at hSw); go_simp; (try with_reducible rfl))); (try simp only [Act.put, List.setIfInBounds_toArray, List.set_cons_zero, List.set_cons_succ])
                refine wpAnyH_ready (rs := [15]) (by kernel_rfl) (by simp) ?_; refine AllReadyH.cons (o := ⟨some 44, _, _, _, _, _⟩) rfl (fun K hK => ?_) AllReadyH.nil; go_simp
                go_at_call 51
                refine (HPL.out w4 I_4.out).mono ?_
                rintro e w8 ⟨rfl, rfl⟩
                refine hK.out _ _ ⟨F_4.out.it, x6_4.out.2⟩ (fun hHeld => ?_); clear hK K; (try simp only [Act.put, List.setIfInBounds_toArray, List.set_cons_zero, List.set_cons_succ])
                refine wpAnyH_take (i := 16) (oi := ⟨some 45, _, _, _, _, _⟩) (v := ?_) rfl (by kernel_rfl) (by kernel_rfl) (by kernel_rfl) (fun _ _ _ h => h) (Or.inl ⟨by rfl, ?_⟩) (by assumption) ?_; rotate_left; (focus (intro w hSw; (try dsimp only at hSw); go_simp; (try with_reducible rfl))); (try simp only [Act.put, List.setIfInBounds_toArray, List.set_cons_zero, List.set_cons_succ])
                refine wpAnyH_take (i := 17) (oi := ⟨some 46, _, _, _, _, _⟩) (v := ?_) rfl (by kernel_rfl) (by kernel_rfl) (by kernel_rfl) (fun _ _ _ h => h) (Or.inl ⟨by rfl, ?_⟩) (by assumption) ?_; rotate_left; (focus (intro w hSw; (try dsimp only at hSw); go_simp; (try with_reducible rfl))); (try simp only [Act.put, List.setIfInBounds_toArray, List.set_cons_zero, List.set_cons_succ])
                refine wpAnyH_done (by kernel_rfl) ?_ _
                go_wp2
                go_roundw
                case rel => exact ⟨k + 1, by omega, by go_num, HT2.out, HAS2.out, BK_4.out, BK_4.out.size⟩
                case measure => simp [intOf]; omega
          · obtain rfl : m1 = k := by omega
            have HF2 := Lib.hid (HF.out.trans (wrB_yes gs xs (fun j hj => HA.out j (by have := HM1.out; omega)) (by have := HD.out; rwa [HM1.out, List.take_of_length_le (Nat.le_refl _)] at this)))
            go_wp2
            go_ret
            exact ⟨ret_b HF2.out.symm, B_3.out⟩
end Go.Proofs.Ytcfiondggnbnoaa
