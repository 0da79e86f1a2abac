/- laws.FnNewHistory returns true for all bytes, and writes nothing that was there. (Made by genpl.py.) -/
import Derived.Test.YtfooafnfdeofoaaR17
import Derived.Test.YtfooafnfdeofoaaH6

namespace Go.Proofs.Ytfooafnfdeofoaa
set_option linter.unusedSimpArgs false
set_option linter.unusedVariables false
open Go.RowKit

set_option maxRecDepth 100000 in
set_option maxHeartbeats 6400000 in
theorem plaw_NewHistory (A : Option Addr) (n c : Nat) (bs : List Int) (w : World) (hn : n = bs.length) (hnc : n ≤ c) (h : BS w w.heap.size A bs) (hy : BY bs) (hm : n ≤ 9223372036854775807) :
    Calls Try.prog 4 #[.slice A n c] w fun e w' => e = .returned (.bool true) ∧ Below w.heap.size w w' := by
  by_cases hs : 1048576 < n
  · clear hn hnc h hy
    go_enter Try.func4, Try.ntmps4
    go_wp2
    go_ret
    exact ⟨rfl, Below.refl _ _⟩
  have HC := Lib.hid (spec_DrawNewHistory A n c bs w hn hnc h hy (by omega))
  clear hn hnc h hy
  go_enter Try.func4, Try.ntmps4
  go_wp2_with fail
  refine HC.out.mono ?_
  rintro e w1 ⟨A1, n1, c1, gs, E1, m1, d1, xs, rfl, hp1, hp2, hp3, hnc1, hsm, hm1, hx1, hx2, hmd, hP, hI, hb⟩
  have HN1 := Lib.hid hp1
  have HG := Lib.hid (GB.of_drawnH (by omega) hsm)
  have P_1 := Lib.hid (hP)
  have HM1 := Lib.hid hm1
  have I_1 := Lib.hid (hI)
  have B_1 := Lib.hid (hb)
  clear hP hp1 hb HC hsm hI hm1
  go_wp2_with fail
  obtain ⟨w2, hw2⟩ : ∃ W, W = w1.alloc (.cells #[.slice A1 n1 c1] 25) := ⟨_, rfl⟩
  have hb : Below w1.heap.size w1 w2 := by rw [hw2]; exact (Below.refl _ _).alloc (Nat.le_refl _) _
  have P_2 := Lib.hid (P_1.out.step hb)
  clear P_1
  have I_2 := Lib.hid (I_1.out.step hb)
  clear I_1
  have B_2 := Lib.hid (B_1.out.trans (hb.mono B_1.out.size))
  clear B_1
  have F_2 : Hid (As w1.heap.size (w1.heap.size + 1) (fun w' => w'.cell? ⟨w1.heap.size, 0, none⟩ = some (.slice A1 n1 c1)) w2) := by rw [hw2]; exact box_new _ _ _
  clear hb
  rw [← hw2]
  clear hw2
  have HVC := Lib.hid fun (w' : World) (h : GS w' w'.heap.size A1 gs) (h' : IS w' w'.heap.size E1 xs) => top_impl_ValidCells gs xs HG.out (by have := HM1.out; omega) A1 n1 c1 E1 m1 d1 w' HN1.out hnc1 h HM1.out h'
  have HIM := Lib.hid fun (w' : World) (h : GS w' w'.heap.size A1 gs) (h' : IS w' w'.heap.size E1 xs) => top_impl_NewHistory gs xs HG.out (by have := HM1.out; omega) A1 n1 c1 E1 m1 d1 w' HN1.out hnc1 h HM1.out h'
  have HSP := Lib.hid fun (w' : World) (h : GS w' w'.heap.size A1 gs) (h' : IS w' w'.heap.size E1 xs) => top_spec_NewHistory gs xs HG.out (by have := HM1.out; omega) A1 n1 c1 E1 m1 d1 w' HN1.out hnc1 h HM1.out h'
  have HHB := Lib.hid (newH_HB gs xs)
  have HNK := Lib.hid fun (h : okC gs xs = true) => new_ok h
  have hm11 : m1 ≤ 11 := by omega
  generalize newH gs xs = st at *
  generalize okC gs xs = v at *
  have q0 := F_2.out.it
  go_wp2_with fail
  refine (HIM.out w2 P_2.out I_2.out).mono ?_
  rintro e w3 ⟨A3, m3, c3, rfl, ho, hb⟩
  have hm3 := ho.1
  have hE3 : SS w3 w3.heap.size A3 st.ss := ho.hist
  have P_3 := Lib.hid (P_2.out.step hb)
  clear P_2
  have I_3 := Lib.hid (I_2.out.step hb)
  clear I_2
  have B_3 := Lib.hid (B_2.out.trans (hb.mono B_2.out.size))
  clear B_2
  have F_3 := Lib.hid (F_2.out.step hb)
  clear F_2
  clear hb
  clear q0
  have S_3 := Lib.hid (hE3)
  have HM3 := Lib.hid hm3
  clear hm3 ho hE3
  obtain ⟨ix, hix⟩ : ∃ z, z = st.ix := ⟨_, rfl⟩
  have HIX := Lib.hid hix
  rw [← hix]
  clear hix
  go_wp2_with fail
  obtain ⟨w4, hw4⟩ : ∃ W, W = w3.alloc (.cells #[.slice A3 m3 c3, .int .i64 ix] 28) := ⟨_, rfl⟩
  have hb : Below w3.heap.size w3 w4 := by rw [hw4]; exact (Below.refl _ _).alloc (Nat.le_refl _) _
  have P_4 := Lib.hid (P_3.out.step hb)
  clear P_3
  have I_4 := Lib.hid (I_3.out.step hb)
  clear I_3
  have B_4 := Lib.hid (B_3.out.trans (hb.mono B_3.out.size))
  clear B_3
  have F_4 := Lib.hid (F_3.out.step hb)
  clear F_3
  have S_4 := Lib.hid (S_3.out.step hb)
  clear S_3
  have X_4 : Hid (As w3.heap.size (w3.heap.size + 1) (fun w' => w'.cell? ⟨w3.heap.size, 0, none⟩ = some (.slice A3 m3 c3) ∧ w'.cell? ⟨w3.heap.size, 1, none⟩ = some (.int .i64 ix)) w4) := by rw [hw4]; exact box2_new _ _ _ _
  clear hb
  rw [← hw4]
  clear hw4
  have HEQ := Lib.hid fun (A4 : Option Addr) (c4 : Nat) (w' : World) (h : SS w' w'.heap.size A3 st.ss) (h' : SS w' w'.heap.size A4 st.ss) => laws_equalHistory A3 A4 m3 c3 c4 st w' HM3.out h h' HHB.out
  rw [← HIX.out] at HEQ
  go_wp2
  have qF0 := F_4.out.it
  obtain ⟨xX0, yX0⟩ := X_4.out.it
  refine wp_region_held_drew (S := fun w' => w'.cell? ⟨w1.heap.size, 0, none⟩ = some (.slice A1 n1 c1) ∧ w'.cell? ⟨w3.heap.size, 0, none⟩ = some (.slice A3 m3 c3) ∧ w'.cell? ⟨w3.heap.size, 1, none⟩ = some (.int .i64 ix)) (by kernel_rfl) ⟨qF0, xX0, yX0⟩ (fun hHeld => ?_)
  refine wpAnyH_take (i := 0) (oi := ⟨some 23, _, _, _, _, _⟩) (v := ?_) rfl (by kernel_rfl) (by kernel_rfl) (by kernel_rfl) (fun _ _ _ h => h) (Or.inl ⟨by rfl, ?_⟩) (by assumption) ?_; rotate_left; (focus (intro w hSw; (try dsimp only at hSw); go_simp; (try with_reducible rfl))); (try simp only [Act.put, List.setIfInBounds_toArray, List.set_cons_zero, List.set_cons_succ])
  refine wpAnyH_take (i := 1) (oi := ⟨some 24, _, _, _, _, _⟩) (v := ?_) rfl (by kernel_rfl) (by kernel_rfl) (by kernel_rfl) (fun _ _ _ h => h) (Or.inl ⟨by rfl, ?_⟩) (by assumption) ?_; rotate_left; (focus (intro w hSw; (try dsimp only at hSw); go_simp; (try with_reducible rfl))); (try simp only [Act.put, List.setIfInBounds_toArray, List.set_cons_zero, List.set_cons_succ])
  refine wpAnyH_take (i := 2) (oi := ⟨some 25, _, _, _, _, _⟩) (v := ?_) rfl (by kernel_rfl) (by kernel_rfl) (by kernel_rfl) (fun _ _ _ h => h) (Or.inl ⟨by rfl, ?_⟩) (by assumption) ?_; rotate_left; (focus (intro w hSw; (try dsimp only at hSw); go_simp; (try with_reducible rfl))); (try simp only [Act.put, List.setIfInBounds_toArray, List.set_cons_zero, List.set_cons_succ])
  refine wpAnyH_ready (rs := [3]) (by kernel_rfl) (by simp) ?_; refine AllReadyH.cons (o := ⟨some 26, _, _, _, _, _⟩) rfl (fun K hK => ?_) AllReadyH.nil; go_simp
  go_at_call 14
  refine (HSP.out w4.drew P_4.out I_4.out).mono ?_
  rintro e w5 ⟨A4, m4, c4, rfl, ho, hb'⟩
  have hb : Below w4.heap.size w4 w5 := below_of_drew hb'
  have hm4 : m3 = m4 := by rw [HM3.out, ho.1]
  subst hm4
  have hE4 : SS w5 w5.heap.size A4 st.ss := ho.hist
  have P_5 := Lib.hid (P_4.out.step hb)
  clear P_4
  have I_5 := Lib.hid (I_4.out.step hb)
  clear I_4
  have B_5 := Lib.hid (B_4.out.trans (hb.mono B_4.out.size))
  clear B_4
  have F_5 := Lib.hid (F_4.out.step hb)
  clear F_4
  have S_5 := Lib.hid (S_4.out.step hb)
  clear S_4
  have X_5 := Lib.hid (X_4.out.step hb)
  clear X_4
  clear hb hb'
  rw [← HIX.out]
  have qF9 := F_5.out.it
  obtain ⟨xX9, yX9⟩ := X_5.out.it
  refine hK.out _ _ ⟨qF9, xX9, yX9⟩ (fun hHeld => ?_); clear hK K; (try simp only [Act.put, List.setIfInBounds_toArray, List.set_cons_zero, List.set_cons_succ])
  refine wpAnyH_ready (rs := [4]) (by kernel_rfl) (by simp) ?_; refine AllReadyH.cons (o := ⟨some 27, _, _, _, _, _⟩) rfl (fun K hK => ?_) AllReadyH.nil; go_simp
  go_at_call 13
  refine (HEQ.out A4 c4 w5 S_5.out hE4).mono ?_
  rintro e w6 ⟨rfl, hb⟩
  have P_6 := Lib.hid (P_5.out.step hb)
  clear P_5
  have I_6 := Lib.hid (I_5.out.step hb)
  clear I_5
  have B_6 := Lib.hid (B_5.out.trans (hb.mono B_5.out.size))
  clear B_5
  have F_6 := Lib.hid (F_5.out.step hb)
  clear F_5
  have S_6 := Lib.hid (S_5.out.step hb)
  clear S_5
  have X_6 := Lib.hid (X_5.out.step hb)
  clear X_5
  clear hb
  clear ho hE4
  have qF9 := F_6.out.it
  obtain ⟨xX9, yX9⟩ := X_6.out.it
  refine hK.out _ _ ⟨qF9, xX9, yX9⟩ (fun hHeld => ?_); clear hK K; (try simp only [Act.put, List.setIfInBounds_toArray, List.set_cons_zero, List.set_cons_succ])
  refine wpAnyH_take (i := 5) (oi := ⟨some 28, _, _, _, _, _⟩) (v := ?_) rfl (by kernel_rfl) (by kernel_rfl) (by kernel_rfl) (fun _ _ _ h => h) (Or.inl ⟨by rfl, ?_⟩) (by assumption) ?_; rotate_left; (focus (intro w hSw; (try dsimp only at hSw); go_simp; (try with_reducible rfl))); (try simp only [Act.put, List.setIfInBounds_toArray, List.set_cons_zero, List.set_cons_succ])
  refine wpAnyH_take (i := 6) (oi := ⟨some 29, _, _, _, _, _⟩) (v := ?_) rfl (by kernel_rfl) (by kernel_rfl) (by kernel_rfl) (fun _ _ _ h => h) (Or.inl ⟨by rfl, ?_⟩) (by assumption) ?_; rotate_left; (focus (intro w hSw; (try dsimp only at hSw); go_simp; (try with_reducible rfl))); (try simp only [Act.put, List.setIfInBounds_toArray, List.set_cons_zero, List.set_cons_succ])
  refine wpAnyH_take (i := 7) (oi := ⟨some 30, _, _, _, _, _⟩) (v := ?_) rfl (by kernel_rfl) (by kernel_rfl) (by kernel_rfl) (fun _ _ _ h => h) (Or.inl ⟨by rfl, ?_⟩) (by assumption) ?_; rotate_left; (focus (intro w hSw; (try dsimp only at hSw); go_simp; (try with_reducible rfl))); (try simp only [Act.put, List.setIfInBounds_toArray, List.set_cons_zero, List.set_cons_succ])
  refine wpAnyH_take (i := 8) (oi := ⟨some 31, _, _, _, _, _⟩) (v := ?_) rfl (by kernel_rfl) (by kernel_rfl) (by kernel_rfl) (fun _ _ _ h => h) (Or.inl ⟨by rfl, ?_⟩) (by assumption) ?_; rotate_left; (focus (intro w hSw; (try dsimp only at hSw); go_simp; (try with_reducible rfl))); (try simp only [Act.put, List.setIfInBounds_toArray, List.set_cons_zero, List.set_cons_succ])
  refine wpAnyH_ready (rs := [9]) (by kernel_rfl) (by simp) ?_; refine AllReadyH.cons (o := ⟨some 32, _, _, _, _, _⟩) rfl (fun K hK => ?_) AllReadyH.nil; go_simp
  go_at_call 15
  refine (HVC.out w6 P_6.out I_6.out).mono ?_
  rintro e w7 ⟨rfl, hb⟩
  have P_7 := Lib.hid (P_6.out.step hb)
  clear P_6
  have I_7 := Lib.hid (I_6.out.step hb)
  clear I_6
  have B_7 := Lib.hid (B_6.out.trans (hb.mono B_6.out.size))
  clear B_6
  have F_7 := Lib.hid (F_6.out.step hb)
  clear F_6
  have S_7 := Lib.hid (S_6.out.step hb)
  clear S_6
  have X_7 := Lib.hid (X_6.out.step hb)
  clear X_6
  clear hb
  have qF9 := F_7.out.it
  obtain ⟨xX9, yX9⟩ := X_7.out.it
  refine hK.out _ _ ⟨qF9, xX9, yX9⟩ (fun hHeld => ?_); clear hK K; (try simp only [Act.put, List.setIfInBounds_toArray, List.set_cons_zero, List.set_cons_succ])
  refine wpAnyH_take (i := 10) (oi := ⟨some 33, _, _, _, _, _⟩) (v := ?_) rfl (by kernel_rfl) (by kernel_rfl) (by kernel_rfl) (fun _ _ _ h => h) (Or.inl ⟨by rfl, ?_⟩) (by assumption) ?_; rotate_left; (focus (intro w hSw; (try dsimp only at hSw); go_simp; (try with_reducible rfl))); (try simp only [Act.put, List.setIfInBounds_toArray, List.set_cons_zero, List.set_cons_succ])
  refine wpAnyH_take (i := 11) (oi := ⟨some 34, _, _, _, _, _⟩) (v := ?_) rfl (by kernel_rfl) (by kernel_rfl) (by kernel_rfl) (fun _ _ _ h => h) (Or.inl ⟨by rfl, ?_⟩) (by assumption) ?_; rotate_left; (focus (intro w hSw; (try dsimp only at hSw); go_simp; (try with_reducible rfl))); (try simp only [Act.put, List.setIfInBounds_toArray, List.set_cons_zero, List.set_cons_succ])
  refine wpAnyH_done (by kernel_rfl) ?_ _
  clear qF0 xX0 yX0 qF9 xX9 yX9
  cases v
  · skip
    go_wp2
    have qF0 := F_7.out.it
    obtain ⟨xX0, yX0⟩ := X_7.out.it
    refine wp_region_held_drew (S := fun w' => w'.cell? ⟨w1.heap.size, 0, none⟩ = some (.slice A1 n1 c1) ∧ w'.cell? ⟨w3.heap.size, 0, none⟩ = some (.slice A3 m3 c3) ∧ w'.cell? ⟨w3.heap.size, 1, none⟩ = some (.int .i64 ix)) (by kernel_rfl) ⟨qF0, xX0, yX0⟩ (fun hHeld => ?_)
    refine wpAnyH_take (i := 0) (oi := ⟨some 35, _, _, _, _, _⟩) (v := ?_) rfl (by kernel_rfl) (by kernel_rfl) (by kernel_rfl) (fun _ _ _ h => h) (Or.inl ⟨by rfl, ?_⟩) (by assumption) ?_; rotate_left; (focus (intro w hSw; (try dsimp only at hSw); go_simp; (try with_reducible rfl))); (try simp only [Act.put, List.setIfInBounds_toArray, List.set_cons_zero, List.set_cons_succ])
    refine wpAnyH_take (i := 1) (oi := ⟨some 36, _, _, _, _, _⟩) (v := ?_) rfl (by kernel_rfl) (by kernel_rfl) (by kernel_rfl) (fun _ _ _ h => h) (Or.inl ⟨by rfl, ?_⟩) (by assumption) ?_; rotate_left; (focus (intro w hSw; (try dsimp only at hSw); go_simp; (try with_reducible rfl))); (try simp only [Act.put, List.setIfInBounds_toArray, List.set_cons_zero, List.set_cons_succ])
    refine wpAnyH_take (i := 2) (oi := ⟨some 37, _, _, _, _, _⟩) (v := ?_) rfl (by kernel_rfl) (by kernel_rfl) (by kernel_rfl) (fun _ _ _ h => h) (Or.inl ⟨by rfl, ?_⟩) (by assumption) ?_; rotate_left; (focus (intro w hSw; (try dsimp only at hSw); go_simp; (try with_reducible rfl))); (try simp only [Act.put, List.setIfInBounds_toArray, List.set_cons_zero, List.set_cons_succ])
    refine wpAnyH_ready (rs := [3]) (by kernel_rfl) (by simp) ?_; refine AllReadyH.cons (o := ⟨some 38, _, _, _, _, _⟩) rfl (fun K hK => ?_) AllReadyH.nil; go_simp
    go_at_call 14
    refine (HSP.out w7.drew P_7.out I_7.out).mono ?_
    rintro e w8 ⟨A4, m4, c4, rfl, ho, hb'⟩
    have hb : Below w7.heap.size w7 w8 := below_of_drew hb'
    have hm4 : m3 = m4 := by rw [HM3.out, ho.1]
    subst hm4
    have hE4 : SS w8 w8.heap.size A4 st.ss := ho.hist
    have P_8 := Lib.hid (P_7.out.step hb)
    clear P_7
    have I_8 := Lib.hid (I_7.out.step hb)
    clear I_7
    have B_8 := Lib.hid (B_7.out.trans (hb.mono B_7.out.size))
    clear B_7
    have F_8 := Lib.hid (F_7.out.step hb)
    clear F_7
    have S_8 := Lib.hid (S_7.out.step hb)
    clear S_7
    have X_8 := Lib.hid (X_7.out.step hb)
    clear X_7
    clear hb hb'
    rw [← HIX.out]
    have qF9 := F_8.out.it
    obtain ⟨xX9, yX9⟩ := X_8.out.it
    refine hK.out _ _ ⟨qF9, xX9, yX9⟩ (fun hHeld => ?_); clear hK K; (try simp only [Act.put, List.setIfInBounds_toArray, List.set_cons_zero, List.set_cons_succ])
    refine wpAnyH_ready (rs := [4]) (by kernel_rfl) (by simp) ?_; refine AllReadyH.cons (o := ⟨some 39, _, _, _, _, _⟩) rfl (fun K hK => ?_) AllReadyH.nil; go_simp
    go_at_call 13
    refine (HEQ.out A4 c4 w8 S_8.out hE4).mono ?_
    rintro e w9 ⟨rfl, hb⟩
    have P_9 := Lib.hid (P_8.out.step hb)
    clear P_8
    have I_9 := Lib.hid (I_8.out.step hb)
    clear I_8
    have B_9 := Lib.hid (B_8.out.trans (hb.mono B_8.out.size))
    clear B_8
    have F_9 := Lib.hid (F_8.out.step hb)
    clear F_8
    have S_9 := Lib.hid (S_8.out.step hb)
    clear S_8
    have X_9 := Lib.hid (X_8.out.step hb)
    clear X_8
    clear hb
    clear ho hE4
    have qF9 := F_9.out.it
    obtain ⟨xX9, yX9⟩ := X_9.out.it
    refine hK.out _ _ ⟨qF9, xX9, yX9⟩ (fun hHeld => ?_); clear hK K; (try simp only [Act.put, List.setIfInBounds_toArray, List.set_cons_zero, List.set_cons_succ])
    refine wpAnyH_take (i := 5) (oi := ⟨some 2, _, _, _, _, _⟩) (v := ?_) rfl (by kernel_rfl) (by kernel_rfl) (by kernel_rfl) (fun _ _ _ h => h) (Or.inl ⟨by rfl, ?_⟩) (by assumption) ?_; rotate_left; (focus (intro w hSw; (try dsimp only at hSw); go_simp; (try with_reducible rfl))); (try simp only [Act.put, List.setIfInBounds_toArray, List.set_cons_zero, List.set_cons_succ])
    refine wpAnyH_done (by kernel_rfl) ?_ _
    go_wp2
    go_ret
    exact ⟨rfl, B_9.out⟩
  · obtain ⟨hst, hval, hback, hon⟩ := HNK.out (by first | rfl | trivial)
    subst hst
    have HMB := Lib.hid fun (w' : World) (h : GS w' w'.heap.size A1 gs) (h' : SS w' w'.heap.size A3 [xs]) => top_impl_MoveHistory gs ⟨[xs], 0⟩ (-1) HG.out HHB.out A1 n1 c1 A3 m3 c3 w' HN1.out hnc1 h HM3.out h' (by omega) (by omega)
    have HMO := Lib.hid fun (w' : World) (h : GS w' w'.heap.size A1 gs) (h' : SS w' w'.heap.size A3 [xs]) => top_impl_MoveHistory gs ⟨[xs], 0⟩ 1 HG.out HHB.out A1 n1 c1 A3 m3 c3 w' HN1.out hnc1 h HM3.out h' (by omega) (by omega)
    have HVH := Lib.hid fun (w' : World) (h : GS w' w'.heap.size A1 gs) (h' : SS w' w'.heap.size A3 [xs]) => top_impl_ValidHistory gs ⟨[xs], 0⟩ HG.out HHB.out A1 n1 c1 A3 m3 c3 w' HN1.out hnc1 h HM3.out h'
    rw [hback] at HMB
    rw [hon] at HMO
    rw [hval] at HVH
    generalize moveH gs ⟨[xs], 0⟩ (-1) = sb at *
    generalize moveI gs ⟨[xs], 0⟩ (-1) = ib at *
    generalize moveH gs ⟨[xs], 0⟩ 1 = so at *
    generalize moveI gs ⟨[xs], 0⟩ 1 = io at *
    have hm31 : m3 = 1 := HM3.out
    have hix0 : ix = 0 := HIX.out
    subst hix0 hm31
    clear hback hon hval HNK HVC HIM HSP HEQ
    have qFc := F_7.out.it
    obtain ⟨xXc, yXc⟩ := X_7.out.it
    go_wp2_with fail
    refine (HMB.out w7 P_7.out S_7.out).mono ?_
    rintro e w8 ⟨A5, n5, c5, A6, m6, c6, mid5, rfl, -, -, -, -, -, hb⟩
    have P_8 := Lib.hid (P_7.out.step hb)
    clear P_7
    have I_8 := Lib.hid (I_7.out.step hb)
    clear I_7
    have B_8 := Lib.hid (B_7.out.trans (hb.mono B_7.out.size))
    clear B_7
    have F_8 := Lib.hid (F_7.out.step hb)
    clear F_7
    have S_8 := Lib.hid (S_7.out.step hb)
    clear S_7
    have X_8 := Lib.hid (X_7.out.step hb)
    clear X_7
    clear hb qFc xXc yXc
    have qFd := F_8.out.it
    obtain ⟨xXd, yXd⟩ := X_8.out.it
    have lF : w1.heap.size < w8.heap.size := F_8.out.le
    have lX : w3.heap.size < w8.heap.size := X_8.out.le
    go_wp2_with fail
    obtain ⟨w9, hw9⟩ : ∃ W, W = w8.alloc (.cells #[.slice A5 n5 c5, .int .i64 sb.ix] 28) := ⟨_, rfl⟩
    have hb : Below w8.heap.size w8 w9 := by rw [hw9]; exact (Below.refl _ _).alloc (Nat.le_refl _) _
    have P_9 := Lib.hid (P_8.out.step hb)
    clear P_8
    have I_9 := Lib.hid (I_8.out.step hb)
    clear I_8
    have B_9 := Lib.hid (B_8.out.trans (hb.mono B_8.out.size))
    clear B_8
    have F_9 := Lib.hid (F_8.out.step hb)
    clear F_8
    have S_9 := Lib.hid (S_8.out.step hb)
    clear S_8
    have X_9 := Lib.hid (X_8.out.step hb)
    clear X_8
    have Y_9 : Hid (As w8.heap.size (w8.heap.size + 1) (fun w' => w'.cell? ⟨w8.heap.size, 0, none⟩ = some (.slice A5 n5 c5) ∧ w'.cell? ⟨w8.heap.size, 1, none⟩ = some (.int .i64 sb.ix)) w9) := by rw [hw9]; exact box2_new _ _ _ _
    clear hb
    rw [← hw9]
    clear hw9 qFd xXd yXd lF lX
    have qFc := F_9.out.it
    obtain ⟨xXc, yXc⟩ := X_9.out.it
    obtain ⟨xYc, yYc⟩ := Y_9.out.it
    go_wp2_with fail
    refine (HMO.out w9 P_9.out S_9.out).mono ?_
    rintro e w10 ⟨A7, n7, c7, A8, m8, c8, mid7, rfl, -, -, -, -, -, hb⟩
    have P_10 := Lib.hid (P_9.out.step hb)
    clear P_9
    have I_10 := Lib.hid (I_9.out.step hb)
    clear I_9
    have B_10 := Lib.hid (B_9.out.trans (hb.mono B_9.out.size))
    clear B_9
    have F_10 := Lib.hid (F_9.out.step hb)
    clear F_9
    have S_10 := Lib.hid (S_9.out.step hb)
    clear S_9
    have X_10 := Lib.hid (X_9.out.step hb)
    clear X_9
    have Y_10 := Lib.hid (Y_9.out.step hb)
    clear Y_9
    clear hb qFc xXc yXc xYc yYc
    have qFd := F_10.out.it
    obtain ⟨xXd, yXd⟩ := X_10.out.it
    obtain ⟨xYd, yYd⟩ := Y_10.out.it
    have lF : w1.heap.size < w10.heap.size := F_10.out.le
    have lX : w3.heap.size < w10.heap.size := X_10.out.le
    have lY : w8.heap.size < w10.heap.size := Y_10.out.le
    go_wp2_with fail
    obtain ⟨w11, hw11⟩ : ∃ W, W = w10.alloc (.cells #[.slice A7 n7 c7, .int .i64 so.ix] 28) := ⟨_, rfl⟩
    have hb : Below w10.heap.size w10 w11 := by rw [hw11]; exact (Below.refl _ _).alloc (Nat.le_refl _) _
    have P_11 := Lib.hid (P_10.out.step hb)
    clear P_10
    have I_11 := Lib.hid (I_10.out.step hb)
    clear I_10
    have B_11 := Lib.hid (B_10.out.trans (hb.mono B_10.out.size))
    clear B_10
    have F_11 := Lib.hid (F_10.out.step hb)
    clear F_10
    have S_11 := Lib.hid (S_10.out.step hb)
    clear S_10
    have X_11 := Lib.hid (X_10.out.step hb)
    clear X_10
    have Y_11 := Lib.hid (Y_10.out.step hb)
    clear Y_10
    have Z_11 : Hid (As w10.heap.size (w10.heap.size + 1) (fun w' => w'.cell? ⟨w10.heap.size, 0, none⟩ = some (.slice A7 n7 c7) ∧ w'.cell? ⟨w10.heap.size, 1, none⟩ = some (.int .i64 so.ix)) w11) := by rw [hw11]; exact box2_new _ _ _ _
    clear hb
    rw [← hw11]
    clear hw11 qFd xXd yXd xYd yYd lF lX lY
    have qFe := F_11.out.it
    obtain ⟨xXe, yXe⟩ := X_11.out.it
    go_wp2_with fail
    refine (HVH.out w11 P_11.out S_11.out).mono ?_
    rintro e w12 ⟨rfl, hb⟩
    have P_12 := Lib.hid (P_11.out.step hb)
    clear P_11
    have I_12 := Lib.hid (I_11.out.step hb)
    clear I_11
    have B_12 := Lib.hid (B_11.out.trans (hb.mono B_11.out.size))
    clear B_11
    have F_12 := Lib.hid (F_11.out.step hb)
    clear F_11
    have S_12 := Lib.hid (S_11.out.step hb)
    clear S_11
    have X_12 := Lib.hid (X_11.out.step hb)
    clear X_11
    have Y_12 := Lib.hid (Y_11.out.step hb)
    clear Y_11
    have Z_12 := Lib.hid (Z_11.out.step hb)
    clear Z_11
    clear hb qFe xXe yXe
    have qFf := F_12.out.it
    obtain ⟨xXf, yXf⟩ := X_12.out.it
    obtain ⟨b3, off3, rfl, hb3, hc3⟩ := S_12.out (by simp)
    obtain ⟨A9, n9, c9, e9, hn9, hI9⟩ := hc3 0 (by simp)
    have hn9b : n9 = xs.length := hn9
    have hI9b : IS w12 w12.heap.size A9 xs := hI9
    rw [Nat.add_zero] at e9
    have hn9m : n9 = m1 := by have := HM1.out; omega
    subst hn9m
    have HEI := Lib.hid (laws_equalInts A9 E1 n9 n9 c9 d1 xs xs w12 w12.heap.size (Nat.le_refl _) HM1.out HM1.out hI9b I_12.out (by omega) (by omega))
    rw [show decide (xs = xs) = true from decide_eq_true rfl] at HEI
    clear hn9 hI9 hn9b hI9b hc3
    go_wp2_with fail
    refine HEI.out.mono ?_
    rintro e w13 ⟨rfl, hb⟩
    clear e9
    have P_13 := Lib.hid (P_12.out.step hb)
    clear P_12
    have I_13 := Lib.hid (I_12.out.step hb)
    clear I_12
    have B_13 := Lib.hid (B_12.out.trans (hb.mono B_12.out.size))
    clear B_12
    have F_13 := Lib.hid (F_12.out.step hb)
    clear F_12
    have S_13 := Lib.hid (S_12.out.step hb)
    clear S_12
    have X_13 := Lib.hid (X_12.out.step hb)
    clear X_12
    have Y_13 := Lib.hid (Y_12.out.step hb)
    clear Y_12
    have Z_13 := Lib.hid (Z_12.out.step hb)
    clear Z_12
    clear hb qFf xXf yXf
    go_wp2
    go_ret
    exact ⟨rfl, B_13.out⟩
end Go.Proofs.Ytfooafnfdeofoaa
