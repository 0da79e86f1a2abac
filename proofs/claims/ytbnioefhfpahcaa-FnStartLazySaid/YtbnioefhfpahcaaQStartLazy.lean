/- laws.FnStartLazy returns true for all bytes, and writes nothing that was there. (Made by genpl.py.) -/
import Derived.Test.YtbnioefhfpahcaaS1
import Derived.Test.YtbnioefhfpahcaaR22
import Derived.Test.YtbnioefhfpahcaaM15
import Derived.Test.YtbnioefhfpahcaaT25
import Derived.Deep.RegionHeld3

namespace Go.Proofs.Ytbnioefhfpahcaa
set_option linter.unusedSimpArgs false
set_option linter.unusedVariables false
open Go.RowKit

set_option maxRecDepth 100000 in
set_option maxHeartbeats 6400000 in
theorem plaw_StartLazy (A : Option Addr) (n c : Nat) (bs : List Int) (w : World) (hn : n = bs.length) (hnc : n ≤ c) (h : BS w w.heap.size A bs) (hy : BY bs) (hm : n ≤ 9223372036854775807) :
    Calls Try.prog 3 #[.slice A n c] w fun e w' => e = .returned (.bool true) ∧ Below w.heap.size w w' := by
  by_cases hs : 1048576 < n
  · clear hn hnc h hy
    go_enter Try.func3, Try.ntmps3
    go_wp2
    go_ret
    exact ⟨rfl, Below.refl _ _⟩
  have HC := Lib.hid (spec_DrawStartLazy A n c bs w hn hnc h hy (by omega))
  clear hn hnc h hy
  go_enter Try.func3, Try.ntmps3
  go_wp2_with fail
  refine HC.out.mono ?_
  rintro e w1 ⟨A1, n1, c1, gs, E1, m1, d1, xs, rfl, hp1, hp2, hp3, hnc1, hsm, hm1, hx1, hx2, hmd, hP, hI, hb⟩
  have HN1 := Lib.hid hp1
  have HG := Lib.hid (GB.of_drawn (by omega) hsm)
  have P_1 := Lib.hid (hP)
  have HM1 := Lib.hid hm1
  have I_1 := Lib.hid (hI)
  have B_1 := Lib.hid (hb)
  clear hP hp1 hb HC hsm hI hm1
  go_wp2_with fail
  obtain ⟨w2, hw2⟩ : ∃ W, W = w1.alloc (.cells #[.slice A1 n1 c1] 25) := ⟨_, rfl⟩
  have hb : Below w1.heap.size w1 w2 := by rw [hw2]; exact (Below.refl _ _).alloc (Nat.le_refl _) _
  have P_2 := Lib.hid (P_1.out.step hb)
  clear P_1
  have I_2 := Lib.hid (I_1.out.step hb)
  clear I_1
  have B_2 := Lib.hid (B_1.out.trans (hb.mono B_1.out.size))
  clear B_1
  have F_2 : Hid (As w1.heap.size (w1.heap.size + 1) (fun w' => w'.cell? ⟨w1.heap.size, 0, none⟩ = some (.slice A1 n1 c1)) w2) := by rw [hw2]; exact box_new _ _ _
  clear hb
  rw [← hw2]
  clear hw2
  have HVC := Lib.hid fun (w' : World) (h : GS w' w'.heap.size A1 gs) (h' : IS w' w'.heap.size E1 xs) => top_impl_ValidCells gs xs HG.out (by have := HM1.out; omega) A1 n1 c1 E1 m1 d1 w' HN1.out hnc1 h HM1.out h'
  have HIM := Lib.hid fun (w' : World) (h : GS w' w'.heap.size A1 gs) (h' : IS w' w'.heap.size E1 xs) => top_impl_StartLazy gs xs HG.out (by have := HM1.out; omega) A1 n1 c1 E1 m1 d1 w' HN1.out hnc1 h HM1.out h'
  have HSP := Lib.hid fun (w' : World) (h : GS w' w'.heap.size A1 gs) (h' : IS w' w'.heap.size E1 xs) => top_spec_StartLazy gs xs HG.out (by have := HM1.out; omega) A1 n1 c1 E1 m1 d1 w' HN1.out hnc1 h HM1.out h'
  have HVE := Lib.hid fun (A c' E p ec C q qc) (m : Nat) (w' : World) (hm : m = (startL gs xs).vs.length) (hp : p = (startL gs xs).rs.length) (hq : q = (startL gs xs).cs.length) (h : GS w' w'.heap.size A1 gs) (h' : LS4 w' w'.heap.size A E C (startL gs xs)) => top_impl_ValidLazy gs (startL gs xs) HG.out (startL_LB gs xs) A1 n1 c1 A m c' E p ec C q qc w' HN1.out hnc1 h hm hp hq h'
  have HCE := Lib.hid fun (A c' E p ec C q qc) (m : Nat) (w' : World) (hm : m = (startL gs xs).vs.length) (hp : p = (startL gs xs).rs.length) (hq : q = (startL gs xs).cs.length) (h : GS w' w'.heap.size A1 gs) (h' : LS4 w' w'.heap.size A E C (startL gs xs)) => top_impl_LazyCells gs (startL gs xs) HG.out (startL_LB gs xs) A1 n1 c1 A m c' E p ec C q qc w' HN1.out hnc1 h hm hp hq h'
  have HST := Lib.hid fun (A c' E p ec C q qc) (m : Nat) (w' : World) (hm : m = (startL gs xs).vs.length) (hp : p = (startL gs xs).rs.length) (hq : q = (startL gs xs).cs.length) (h : GS w' w'.heap.size A1 gs) (h' : LS4 w' w'.heap.size A E C (startL gs xs)) => top_impl_StaleOf gs (startL gs xs) HG.out (startL_LB gs xs) A1 n1 c1 A m c' E p ec C q qc w' HN1.out hnc1 h hm hp hq h'
  have HSV := Lib.hid (lz_valid gs xs)
  have HCS := Lib.hid (lz_cells gs xs)
  have HSP2 := Lib.hid (lz_stale gs xs)
  have HEB := Lib.hid (startL_LB gs xs)
  have hsl : (staleF gs (startL gs xs)).length ≤ 10 := staleF_len gs (startL gs xs)
  generalize okC gs xs = v at *
  generalize validL gs (startL gs xs) = ve at *
  generalize lcellsF gs (startL gs xs) = cf at *
  generalize staleF gs (startL gs xs) = ST at *
  generalize startL gs xs = S at *
  have q0 := F_2.out.it
  go_wp2_with fail
  refine (HIM.out w2 P_2.out I_2.out).mono ?_
  rintro e w3 ⟨A3, m3, c3, E3, p3, e3, C3, t3, d3, rfl, ho, hb⟩
  have hm3 := ho.1
  have hp3 := ho.2.1
  have ht3 := ho.2.2.1
  have hE3 : LS4 w3 w3.heap.size A3 E3 C3 S := (lazy_start ho).lazy4
  have P_3 := Lib.hid (P_2.out.step hb)
  clear P_2
  have I_3 := Lib.hid (I_2.out.step hb)
  clear I_2
  have B_3 := Lib.hid (B_2.out.trans (hb.mono B_2.out.size))
  clear B_2
  have F_3 := Lib.hid (F_2.out.step hb)
  clear F_2
  clear hb
  clear q0
  have S_3 := Lib.hid (hE3)
  have HM3 := Lib.hid hm3
  have HP3 := Lib.hid hp3
  have HT3 := Lib.hid ht3
  clear hm3 hp3 ht3 ho hE3
  go_wp2_with fail
  obtain ⟨w4, hw4⟩ : ∃ W, W = w3.alloc (.cells #[.slice A3 m3 c3, .slice E3 p3 e3, .slice C3 t3 d3] 31) := ⟨_, rfl⟩
  have hb : Below w3.heap.size w3 w4 := by rw [hw4]; exact (Below.refl _ _).alloc (Nat.le_refl _) _
  have P_4 := Lib.hid (P_3.out.step hb)
  clear P_3
  have I_4 := Lib.hid (I_3.out.step hb)
  clear I_3
  have B_4 := Lib.hid (B_3.out.trans (hb.mono B_3.out.size))
  clear B_3
  have F_4 := Lib.hid (F_3.out.step hb)
  clear F_3
  have S_4 := Lib.hid (S_3.out.step hb)
  clear S_3
  have X_4 : Hid (As w3.heap.size (w3.heap.size + 1) (fun w' => w'.cell? ⟨w3.heap.size, 0, none⟩ = some (.slice A3 m3 c3) ∧ w'.cell? ⟨w3.heap.size, 1, none⟩ = some (.slice E3 p3 e3) ∧ w'.cell? ⟨w3.heap.size, 2, none⟩ = some (.slice C3 t3 d3)) w4) := by rw [hw4]; exact box3_new _ _ _ _ _
  clear hb
  rw [← hw4]
  clear hw4
  go_wp2
  have q0 := F_4.out.it
  obtain ⟨x0, y0, z0⟩ := X_4.out.it
  refine wp_region_held_drew (S := fun w' => w'.cell? ⟨w1.heap.size, 0, none⟩ = some (.slice A1 n1 c1) ∧ w'.cell? ⟨w3.heap.size, 0, none⟩ = some (.slice A3 m3 c3) ∧ w'.cell? ⟨w3.heap.size, 1, none⟩ = some (.slice E3 p3 e3) ∧ w'.cell? ⟨w3.heap.size, 2, none⟩ = some (.slice C3 t3 d3)) (by kernel_rfl) ⟨q0, x0, y0, z0⟩ (fun hHeld => ?_)
  refine wpAnyH_take (i := 0) (oi := ⟨some 19, _, _, _, _, _⟩) (v := ?_) rfl (by kernel_rfl) (by kernel_rfl) (by kernel_rfl) (fun _ _ _ h => h) (Or.inl ⟨by rfl, ?_⟩) (by assumption) ?_; rotate_left; (focus (intro w hSw; (try dsimp only at hSw); go_simp; (try with_reducible rfl))); (try simp only [Act.put, List.setIfInBounds_toArray, List.set_cons_zero, List.set_cons_succ])
  refine wpAnyH_take (i := 1) (oi := ⟨some 20, _, _, _, _, _⟩) (v := ?_) rfl (by kernel_rfl) (by kernel_rfl) (by kernel_rfl) (fun _ _ _ h => h) (Or.inl ⟨by rfl, ?_⟩) (by assumption) ?_; rotate_left; (focus (intro w hSw; (try dsimp only at hSw); go_simp; (try with_reducible rfl))); (try simp only [Act.put, List.setIfInBounds_toArray, List.set_cons_zero, List.set_cons_succ])
  refine wpAnyH_take (i := 2) (oi := ⟨some 21, _, _, _, _, _⟩) (v := ?_) rfl (by kernel_rfl) (by kernel_rfl) (by kernel_rfl) (fun _ _ _ h => h) (Or.inl ⟨by rfl, ?_⟩) (by assumption) ?_; rotate_left; (focus (intro w hSw; (try dsimp only at hSw); go_simp; (try with_reducible rfl))); (try simp only [Act.put, List.setIfInBounds_toArray, List.set_cons_zero, List.set_cons_succ])
  refine wpAnyH_ready (rs := [3]) (by kernel_rfl) (by simp) ?_; refine AllReadyH.cons (o := ⟨some 22, _, _, _, _, _⟩) rfl (fun K hK => ?_) AllReadyH.nil; go_simp
  go_at_call 7
  refine (HSP.out w4.drew P_4.out I_4.out).mono ?_
  rintro e w5 ⟨A4, m4, c4, E4, p4, e4, C4, t4, d4, rfl, ho, hb'⟩
  have hb : Below w4.heap.size w4 w5 := below_of_drew hb'
  have hm4 : m3 = m4 := by rw [HM3.out, ho.1]
  have hp4 : p3 = p4 := by rw [HP3.out, ho.2.1]
  have ht4 : t3 = t4 := by rw [HT3.out, ho.2.2.1]
  subst hm4 hp4 ht4
  have hE4 : LS4 w5 w5.heap.size A4 E4 C4 S := (lazy_start ho).lazy4
  have P_5 := Lib.hid (P_4.out.step hb)
  clear P_4
  have I_5 := Lib.hid (I_4.out.step hb)
  clear I_4
  have B_5 := Lib.hid (B_4.out.trans (hb.mono B_4.out.size))
  clear B_4
  have F_5 := Lib.hid (F_4.out.step hb)
  clear F_4
  have S_5 := Lib.hid (S_4.out.step hb)
  clear S_4
  have X_5 := Lib.hid (X_4.out.step hb)
  clear X_4
  clear hb hb'
  have q9 := F_5.out.it
  obtain ⟨x9, y9, z9⟩ := X_5.out.it
  refine hK.out _ _ ⟨q9, x9, y9, z9⟩ (fun hHeld => ?_); clear hK K; (try simp only [Act.put, List.setIfInBounds_toArray, List.set_cons_zero, List.set_cons_succ])
  refine wpAnyH_ready (rs := [4]) (by kernel_rfl) (by simp) ?_; refine AllReadyH.cons (o := ⟨some 23, _, _, _, _, _⟩) rfl (fun K hK => ?_) AllReadyH.nil; go_simp
  go_at_call 6
  refine (laws_equalLazy A3 E3 C3 A4 E4 C4 _ c3 _ e3 _ d3 c4 e4 d4 S w5 HM3.out HP3.out HT3.out S_5.out hE4 HEB.out).mono ?_
  rintro e w6 ⟨rfl, hb⟩
  have P_6 := Lib.hid (P_5.out.step hb)
  clear P_5
  have I_6 := Lib.hid (I_5.out.step hb)
  clear I_5
  have B_6 := Lib.hid (B_5.out.trans (hb.mono B_5.out.size))
  clear B_5
  have F_6 := Lib.hid (F_5.out.step hb)
  clear F_5
  have S_6 := Lib.hid (S_5.out.step hb)
  clear S_5
  have X_6 := Lib.hid (X_5.out.step hb)
  clear X_5
  clear hb
  clear ho hE4
  have q9 := F_6.out.it
  obtain ⟨x9, y9, z9⟩ := X_6.out.it
  refine hK.out _ _ ⟨q9, x9, y9, z9⟩ (fun hHeld => ?_); clear hK K; (try simp only [Act.put, List.setIfInBounds_toArray, List.set_cons_zero, List.set_cons_succ])
  refine wpAnyH_take (i := 5) (oi := ⟨some 24, _, _, _, _, _⟩) (v := ?_) rfl (by kernel_rfl) (by kernel_rfl) (by kernel_rfl) (fun _ _ _ h => h) (Or.inl ⟨by rfl, ?_⟩) (by assumption) ?_; rotate_left; (focus (intro w hSw; (try dsimp only at hSw); go_simp; (try with_reducible rfl))); (try simp only [Act.put, List.setIfInBounds_toArray, List.set_cons_zero, List.set_cons_succ])
  refine wpAnyH_take (i := 6) (oi := ⟨some 25, _, _, _, _, _⟩) (v := ?_) rfl (by kernel_rfl) (by kernel_rfl) (by kernel_rfl) (fun _ _ _ h => h) (Or.inl ⟨by rfl, ?_⟩) (by assumption) ?_; rotate_left; (focus (intro w hSw; (try dsimp only at hSw); go_simp; (try with_reducible rfl))); (try simp only [Act.put, List.setIfInBounds_toArray, List.set_cons_zero, List.set_cons_succ])
  refine wpAnyH_take (i := 7) (oi := ⟨some 26, _, _, _, _, _⟩) (v := ?_) rfl (by kernel_rfl) (by kernel_rfl) (by kernel_rfl) (fun _ _ _ h => h) (Or.inl ⟨by rfl, ?_⟩) (by assumption) ?_; rotate_left; (focus (intro w hSw; (try dsimp only at hSw); go_simp; (try with_reducible rfl))); (try simp only [Act.put, List.setIfInBounds_toArray, List.set_cons_zero, List.set_cons_succ])
  refine wpAnyH_take (i := 8) (oi := ⟨some 27, _, _, _, _, _⟩) (v := ?_) rfl (by kernel_rfl) (by kernel_rfl) (by kernel_rfl) (fun _ _ _ h => h) (Or.inl ⟨by rfl, ?_⟩) (by assumption) ?_; rotate_left; (focus (intro w hSw; (try dsimp only at hSw); go_simp; (try with_reducible rfl))); (try simp only [Act.put, List.setIfInBounds_toArray, List.set_cons_zero, List.set_cons_succ])
  refine wpAnyH_ready (rs := [9]) (by kernel_rfl) (by simp) ?_; refine AllReadyH.cons (o := ⟨some 28, _, _, _, _, _⟩) rfl (fun K hK => ?_) AllReadyH.nil; go_simp
  go_at_call 8
  refine (HVC.out w6 P_6.out I_6.out).mono ?_
  rintro e w7 ⟨rfl, hb⟩
  have P_7 := Lib.hid (P_6.out.step hb)
  clear P_6
  have I_7 := Lib.hid (I_6.out.step hb)
  clear I_6
  have B_7 := Lib.hid (B_6.out.trans (hb.mono B_6.out.size))
  clear B_6
  have F_7 := Lib.hid (F_6.out.step hb)
  clear F_6
  have S_7 := Lib.hid (S_6.out.step hb)
  clear S_6
  have X_7 := Lib.hid (X_6.out.step hb)
  clear X_6
  clear hb
  have q9 := F_7.out.it
  obtain ⟨x9, y9, z9⟩ := X_7.out.it
  refine hK.out _ _ ⟨q9, x9, y9, z9⟩ (fun hHeld => ?_); clear hK K; (try simp only [Act.put, List.setIfInBounds_toArray, List.set_cons_zero, List.set_cons_succ])
  refine wpAnyH_take (i := 10) (oi := ⟨some 29, _, _, _, _, _⟩) (v := ?_) rfl (by kernel_rfl) (by kernel_rfl) (by kernel_rfl) (fun _ _ _ h => h) (Or.inl ⟨by rfl, ?_⟩) (by assumption) ?_; rotate_left; (focus (intro w hSw; (try dsimp only at hSw); go_simp; (try with_reducible rfl))); (try simp only [Act.put, List.setIfInBounds_toArray, List.set_cons_zero, List.set_cons_succ])
  refine wpAnyH_take (i := 11) (oi := ⟨some 30, _, _, _, _, _⟩) (v := ?_) rfl (by kernel_rfl) (by kernel_rfl) (by kernel_rfl) (fun _ _ _ h => h) (Or.inl ⟨by rfl, ?_⟩) (by assumption) ?_; rotate_left; (focus (intro w hSw; (try dsimp only at hSw); go_simp; (try with_reducible rfl))); (try simp only [Act.put, List.setIfInBounds_toArray, List.set_cons_zero, List.set_cons_succ])
  refine wpAnyH_done (by kernel_rfl) ?_ _
  cases v
  · skip
    clear q0 x0 y0 z0 q9 x9 y9 z9
    go_wp2
    have q0 := F_7.out.it
    obtain ⟨x0, y0, z0⟩ := X_7.out.it
    refine wp_region_held_drew (S := fun w' => w'.cell? ⟨w1.heap.size, 0, none⟩ = some (.slice A1 n1 c1) ∧ w'.cell? ⟨w3.heap.size, 0, none⟩ = some (.slice A3 m3 c3) ∧ w'.cell? ⟨w3.heap.size, 1, none⟩ = some (.slice E3 p3 e3) ∧ w'.cell? ⟨w3.heap.size, 2, none⟩ = some (.slice C3 t3 d3)) (by kernel_rfl) ⟨q0, x0, y0, z0⟩ (fun hHeld => ?_)
    refine wpAnyH_take (i := 0) (oi := ⟨some 31, _, _, _, _, _⟩) (v := ?_) rfl (by kernel_rfl) (by kernel_rfl) (by kernel_rfl) (fun _ _ _ h => h) (Or.inl ⟨by rfl, ?_⟩) (by assumption) ?_; rotate_left; (focus (intro w hSw; (try dsimp only at hSw); go_simp; (try with_reducible rfl))); (try simp only [Act.put, List.setIfInBounds_toArray, List.set_cons_zero, List.set_cons_succ])
    refine wpAnyH_take (i := 1) (oi := ⟨some 32, _, _, _, _, _⟩) (v := ?_) rfl (by kernel_rfl) (by kernel_rfl) (by kernel_rfl) (fun _ _ _ h => h) (Or.inl ⟨by rfl, ?_⟩) (by assumption) ?_; rotate_left; (focus (intro w hSw; (try dsimp only at hSw); go_simp; (try with_reducible rfl))); (try simp only [Act.put, List.setIfInBounds_toArray, List.set_cons_zero, List.set_cons_succ])
    refine wpAnyH_take (i := 2) (oi := ⟨some 33, _, _, _, _, _⟩) (v := ?_) rfl (by kernel_rfl) (by kernel_rfl) (by kernel_rfl) (fun _ _ _ h => h) (Or.inl ⟨by rfl, ?_⟩) (by assumption) ?_; rotate_left; (focus (intro w hSw; (try dsimp only at hSw); go_simp; (try with_reducible rfl))); (try simp only [Act.put, List.setIfInBounds_toArray, List.set_cons_zero, List.set_cons_succ])
    refine wpAnyH_ready (rs := [3]) (by kernel_rfl) (by simp) ?_; refine AllReadyH.cons (o := ⟨some 34, _, _, _, _, _⟩) rfl (fun K hK => ?_) AllReadyH.nil; go_simp
    go_at_call 7
    refine (HSP.out w7.drew P_7.out I_7.out).mono ?_
    rintro e w8 ⟨A4, m4, c4, E4, p4, e4, C4, t4, d4, rfl, ho, hb'⟩
    have hb : Below w7.heap.size w7 w8 := below_of_drew hb'
    have hm4 : m3 = m4 := by rw [HM3.out, ho.1]
    have hp4 : p3 = p4 := by rw [HP3.out, ho.2.1]
    have ht4 : t3 = t4 := by rw [HT3.out, ho.2.2.1]
    subst hm4 hp4 ht4
    have hE4 : LS4 w8 w8.heap.size A4 E4 C4 S := (lazy_start ho).lazy4
    have P_8 := Lib.hid (P_7.out.step hb)
    clear P_7
    have I_8 := Lib.hid (I_7.out.step hb)
    clear I_7
    have B_8 := Lib.hid (B_7.out.trans (hb.mono B_7.out.size))
    clear B_7
    have F_8 := Lib.hid (F_7.out.step hb)
    clear F_7
    have S_8 := Lib.hid (S_7.out.step hb)
    clear S_7
    have X_8 := Lib.hid (X_7.out.step hb)
    clear X_7
    clear hb hb'
    have q9 := F_8.out.it
    obtain ⟨x9, y9, z9⟩ := X_8.out.it
    refine hK.out _ _ ⟨q9, x9, y9, z9⟩ (fun hHeld => ?_); clear hK K; (try simp only [Act.put, List.setIfInBounds_toArray, List.set_cons_zero, List.set_cons_succ])
    refine wpAnyH_ready (rs := [4]) (by kernel_rfl) (by simp) ?_; refine AllReadyH.cons (o := ⟨some 35, _, _, _, _, _⟩) rfl (fun K hK => ?_) AllReadyH.nil; go_simp
    go_at_call 6
    refine (laws_equalLazy A3 E3 C3 A4 E4 C4 _ c3 _ e3 _ d3 c4 e4 d4 S w8 HM3.out HP3.out HT3.out S_8.out hE4 HEB.out).mono ?_
    rintro e w9 ⟨rfl, hb⟩
    have P_9 := Lib.hid (P_8.out.step hb)
    clear P_8
    have I_9 := Lib.hid (I_8.out.step hb)
    clear I_8
    have B_9 := Lib.hid (B_8.out.trans (hb.mono B_8.out.size))
    clear B_8
    have F_9 := Lib.hid (F_8.out.step hb)
    clear F_8
    have S_9 := Lib.hid (S_8.out.step hb)
    clear S_8
    have X_9 := Lib.hid (X_8.out.step hb)
    clear X_8
    clear hb
    clear ho hE4
    have q9 := F_9.out.it
    obtain ⟨x9, y9, z9⟩ := X_9.out.it
    refine hK.out _ _ ⟨q9, x9, y9, z9⟩ (fun hHeld => ?_); clear hK K; (try simp only [Act.put, List.setIfInBounds_toArray, List.set_cons_zero, List.set_cons_succ])
    refine wpAnyH_take (i := 5) (oi := ⟨some 2, _, _, _, _, _⟩) (v := ?_) rfl (by kernel_rfl) (by kernel_rfl) (by kernel_rfl) (fun _ _ _ h => h) (Or.inl ⟨by rfl, ?_⟩) (by assumption) ?_; rotate_left; (focus (intro w hSw; (try dsimp only at hSw); go_simp; (try with_reducible rfl))); (try simp only [Act.put, List.setIfInBounds_toArray, List.set_cons_zero, List.set_cons_succ])
    refine wpAnyH_done (by kernel_rfl) ?_ _
    go_wp2
    go_ret
    exact ⟨rfl, B_9.out⟩
  · have hst := HSP2.out (by first | rfl | trivial)
    have hve := HSV.out (by first | rfl | trivial)
    have hcf := HCS.out (by first | rfl | trivial)
    have HTT := Lib.hid hst
    subst hve hcf
    clear HSV HCS HSP2 HSP HIM hst q0 x0 y0 z0 q9 x9 y9 z9
    have hv3 : m3 ≤ 2000000 := by have := HEB.out.1; have := HM3.out; omega
    have q0 := F_7.out.it
    obtain ⟨x0, y0, z0⟩ := X_7.out.it
    go_wp2_with fail
    refine (HST.out _ _ _ _ _ _ _ _ _ w7 HM3.out HP3.out HT3.out P_7.out S_7.out).mono ?_
    rintro e w8 ⟨v, rfl, ho, hb⟩
    obtain ⟨A5, c5, rfl, hI9⟩ := OwnI.form ho
    have P_8 := Lib.hid (P_7.out.step hb)
    clear P_7
    have I_8 := Lib.hid (I_7.out.step hb)
    clear I_7
    have B_8 := Lib.hid (B_7.out.trans (hb.mono B_7.out.size))
    clear B_7
    have F_8 := Lib.hid (F_7.out.step hb)
    clear F_7
    have S_8 := Lib.hid (S_7.out.step hb)
    clear S_7
    have X_8 := Lib.hid (X_7.out.step hb)
    clear X_7
    clear hb q0 x0 y0 z0 HST
    obtain ⟨sl, hsl2⟩ : ∃ l, l = ST.length := ⟨_, rfl⟩
    have HSL := Lib.hid hsl2
    have T_8 := Lib.hid (hI9)
    clear ho hI9
    rw [← hsl2] at hsl
    rw [← hsl2]
    clear hsl2
    go_wp2
    go_loopw [7] (fun u wr => ∃ k : Nat, k ≤ n1 ∧ u = .int .i64 k ∧ Hid (Below w8.heap.size w8 wr) ∧ w8.heap.size ≤ wr.heap.size) (fun u _ => n1 - (intOf u).toNat)
    case atStart => exact ⟨0, Nat.zero_le _, rfl, Below.refl _ _, Nat.le_refl _⟩
    case round =>
      obtain ⟨k, hk, rfl, HB, hwr⟩ := hrel
      obtain ⟨w9, hwK⟩ : ∃ W, W = wr := ⟨_, rfl⟩
      rw [← hwK]
      rw [← hwK] at HB hwr
      clear hwK
      have P_9 := Lib.hid (P_8.out.step HB.out)
      have I_9 := Lib.hid (I_8.out.step HB.out)
      have B_9 := Lib.hid (B_8.out.trans (HB.out.mono B_8.out.size))
      have F_9 := Lib.hid (F_8.out.step HB.out)
      have S_9 := Lib.hid (S_8.out.step HB.out)
      have X_9 := Lib.hid (X_8.out.step HB.out)
      have T_9 := Lib.hid (T_8.out.step HB.out)
      have q0 := F_9.out.it
      by_cases hlt : k < n1
      · have hkg : k < gs.length := by have := HN1.out; omega
        obtain ⟨b, off, rfl, hbB, d0, A6, n6, c6, dq, hn6, hps⟩ := P_9.out.at_ k hkg
        have htt := HTT.out k hkg
        clear dq hn6 hps HTT HVE HCE HVC
        generalize gs.getD k default = d at *
        obtain ⟨x, hx⟩ : ∃ x, x = d.k := ⟨_, rfl⟩
        rw [← hx] at d0 htt
        clear hx
        have HIN := Lib.hid fun (b : Bool) (hb : decide ((k : Int) ∈ ST) = b) (w' : World) (h : IS w' w'.heap.size A5 ST) => isIn_v A5 sl c5 ST (k : Int) b w' HSL.out h (by omega) hb
        by_cases hx0 : x = 0
        · subst hx0
          have HI0 := Lib.hid (HIN.out false htt)
          clear htt HIN
          go_wp2
          refine wp_region_held_drew (S := fun w' => w'.cell? ⟨w1.heap.size, 0, none⟩ = some (.slice (some ⟨b, off, none⟩) n1 c1) ∧ w'.cell? ⟨b, off + k * 2, none⟩ = some (.int .i64 0)) (by kernel_rfl) ⟨q0, d0⟩ (fun hHeld => ?_)
          refine wpAnyH_take (i := 0) (oi := ⟨some 46, _, _, _, _, _⟩) (v := ?_) rfl (by kernel_rfl) (by kernel_rfl) (by kernel_rfl) (fun _ _ _ h => h) (Or.inl ⟨by rfl, ?_⟩) (by assumption) ?_; rotate_left; (focus (intro w hSw; (try dsimp only at hSw); go_simp; (try with_reducible rfl))); (try simp only [Act.put, List.setIfInBounds_toArray, List.set_cons_zero, List.set_cons_succ])
          refine wpAnyH_take (i := 1) (oi := ⟨some 47, _, _, _, _, _⟩) (v := ?_) rfl (by kernel_rfl) (by kernel_rfl) (by kernel_rfl) (fun _ _ _ h => h) (Or.inl ⟨by rfl, ?_⟩) (by assumption) ?_; rotate_left; (focus (intro w hSw; (try dsimp only at hSw); go_simp; (try with_reducible rfl))); (try simp only [Act.put, List.setIfInBounds_toArray, List.set_cons_zero, List.set_cons_succ])
          refine wpAnyH_take (i := 3) (oi := ⟨some 49, _, _, _, _, _⟩) (v := ?_) rfl (by kernel_rfl) (by kernel_rfl) (by kernel_rfl) (fun _ _ _ h => h) (Or.inl ⟨by rfl, ?_⟩) (by assumption) ?_; rotate_left; (focus (intro w hSw; (try dsimp only at hSw); go_simp; (try with_reducible rfl))); (try simp only [Act.put, List.setIfInBounds_toArray, List.set_cons_zero, List.set_cons_succ])
          refine wpAnyH_take (i := 4) (oi := ⟨some 50, _, _, _, _, _⟩) (v := ?_) rfl (by kernel_rfl) (by kernel_rfl) (by kernel_rfl) (fun _ _ _ h => h) (Or.inl ⟨by rfl, ?_⟩) (by assumption) ?_; rotate_left; (focus (intro w hSw; (try dsimp only at hSw); go_simp; (try with_reducible rfl))); (try simp only [Act.put, List.setIfInBounds_toArray, List.set_cons_zero, List.set_cons_succ])
          refine wpAnyH_take (i := 5) (oi := ⟨some 51, _, _, _, _, _⟩) (v := ?_) rfl (by kernel_rfl) (by kernel_rfl) (by kernel_rfl) (fun _ _ _ h => h) (Or.inl ⟨by rfl, ?_⟩) (by assumption) ?_; rotate_left; (focus (intro w hSw; (try dsimp only at hSw); go_simp; (try with_reducible rfl))); (try simp only [Act.put, List.setIfInBounds_toArray, List.set_cons_zero, List.set_cons_succ])
          refine wpAnyH_take (i := 6) (oi := ⟨some 52, _, _, _, _, _⟩) (v := ?_) rfl (by kernel_rfl) (by kernel_rfl) (by kernel_rfl) (fun _ _ _ h => h) (Or.inl ⟨by rfl, ?_⟩) (by assumption) ?_; rotate_left; (focus (intro w hSw; (try dsimp only at hSw); go_simp; (try with_reducible rfl))); (try simp only [Act.put, List.setIfInBounds_toArray, List.set_cons_zero, List.set_cons_succ])
          refine wpAnyH_take (i := 7) (oi := ⟨some 53, _, _, _, _, _⟩) (v := ?_) rfl (by kernel_rfl) (by kernel_rfl) (by kernel_rfl) (fun _ _ _ h => h) (Or.inl ⟨by rfl, ?_⟩) (by assumption) ?_; rotate_left; (focus (intro w hSw; (try dsimp only at hSw); go_simp; (try with_reducible rfl))); (try simp only [Act.put, List.setIfInBounds_toArray, List.set_cons_zero, List.set_cons_succ])
          refine wpAnyH_take (i := 8) (oi := ⟨some 54, _, _, _, _, _⟩) (v := ?_) rfl (by kernel_rfl) (by kernel_rfl) (by kernel_rfl) (fun _ _ _ h => h) (Or.inl ⟨by rfl, ?_⟩) (by assumption) ?_; rotate_left; (focus (intro w hSw; (try dsimp only at hSw); go_simp; (try with_reducible rfl))); (try simp only [Act.put, List.setIfInBounds_toArray, List.set_cons_zero, List.set_cons_succ])
          refine wpAnyH_take (i := 9) (oi := ⟨some 55, _, _, _, _, _⟩) (v := ?_) rfl (by kernel_rfl) (by kernel_rfl) (by kernel_rfl) (fun _ _ _ h => h) (Or.inl ⟨by rfl, ?_⟩) (by assumption) ?_; rotate_left; (focus (intro w hSw; (try dsimp only at hSw); go_simp; (try with_reducible rfl))); (try simp only [Act.put, List.setIfInBounds_toArray, List.set_cons_zero, List.set_cons_succ])
          refine wpAnyH_ready (rs := [2]) (by kernel_rfl) (by simp) ?_; refine AllReadyH.cons (o := ⟨some 48, _, _, _, _, _⟩) rfl (fun K hK => ?_) AllReadyH.nil; go_simp
          go_at_call 10
          refine (HI0.out w9.drew T_9.out).mono ?_
          rintro e w10 ⟨rfl, hb'⟩
          have hb : Below w9.heap.size w9 w10 := below_of_drew hb'
          have h7 : Below w9.heap.size w9 w10 := below_of_drew hb'
          have P_10 := Lib.hid (P_9.out.step hb)
          clear P_9
          have I_10 := Lib.hid (I_9.out.step hb)
          clear I_9
          have B_10 := Lib.hid (B_9.out.trans (hb.mono B_9.out.size))
          clear B_9
          have F_10 := Lib.hid (F_9.out.step hb)
          clear F_9
          have S_10 := Lib.hid (S_9.out.step hb)
          clear S_9
          have X_10 := Lib.hid (X_9.out.step hb)
          clear X_9
          have T_10 := Lib.hid (T_9.out.step hb)
          clear T_9
          clear hb hb'
          refine hK.out _ _ ⟨F_10.out.it, (h7.cell (p := ⟨b, off + k * 2, none⟩) hbB).trans d0⟩ (fun hHeld => ?_); clear hK K; (try simp only [Act.put, List.setIfInBounds_toArray, List.set_cons_zero, List.set_cons_succ])
          refine wpAnyH_take (i := 10) (oi := ⟨some 56, _, _, _, _, _⟩) (v := ?_) rfl (by kernel_rfl) (by kernel_rfl) (by kernel_rfl) (fun _ _ _ h => h) (Or.inl ⟨by rfl, ?_⟩) (by assumption) ?_; rotate_left; (focus (intro w hSw; (try dsimp only at hSw); go_simp; (try with_reducible rfl))); (try simp only [Act.put, List.setIfInBounds_toArray, List.set_cons_zero, List.set_cons_succ])
          refine wpAnyH_done (by kernel_rfl) ?_ _
          go_wp2
          go_roundw
          case rel => exact ⟨k + 1, by omega, by go_num, HB.out.trans (h7.mono hwr), by have := h7.size; omega⟩
          case measure => simp [intOf]; omega
        · have hne : (x == 0) = false := by simpa using hx0
          have HI0 := Lib.hid (HIN.out true (by rw [htt, hne]; rfl))
          clear htt HIN
          go_wp2
          refine wp_region_held_drew (S := fun w' => w'.cell? ⟨w1.heap.size, 0, none⟩ = some (.slice (some ⟨b, off, none⟩) n1 c1) ∧ w'.cell? ⟨b, off + k * 2, none⟩ = some (.int .i64 x)) (by kernel_rfl) ⟨q0, d0⟩ (fun hHeld => ?_)
          refine wpAnyH_take (i := 0) (oi := ⟨some 46, _, _, _, _, _⟩) (v := ?_) rfl (by kernel_rfl) (by kernel_rfl) (by kernel_rfl) (fun _ _ _ h => h) (Or.inl ⟨by rfl, ?_⟩) (by assumption) ?_; rotate_left; (focus (intro w hSw; (try dsimp only at hSw); go_simp; (try with_reducible rfl))); (try simp only [Act.put, List.setIfInBounds_toArray, List.set_cons_zero, List.set_cons_succ])
          refine wpAnyH_take (i := 1) (oi := ⟨some 47, _, _, _, _, _⟩) (v := ?_) rfl (by kernel_rfl) (by kernel_rfl) (by kernel_rfl) (fun _ _ _ h => h) (Or.inl ⟨by rfl, ?_⟩) (by assumption) ?_; rotate_left; (focus (intro w hSw; (try dsimp only at hSw); go_simp; (try with_reducible rfl))); (try simp only [Act.put, List.setIfInBounds_toArray, List.set_cons_zero, List.set_cons_succ])
          refine wpAnyH_take (i := 3) (oi := ⟨some 49, _, _, _, _, _⟩) (v := ?_) rfl (by kernel_rfl) (by kernel_rfl) (by kernel_rfl) (fun _ _ _ h => h) (Or.inl ⟨by rfl, ?_⟩) (by assumption) ?_; rotate_left; (focus (intro w hSw; (try dsimp only at hSw); go_simp; (try with_reducible rfl))); (try simp only [Act.put, List.setIfInBounds_toArray, List.set_cons_zero, List.set_cons_succ])
          refine wpAnyH_take (i := 4) (oi := ⟨some 50, _, _, _, _, _⟩) (v := ?_) rfl (by kernel_rfl) (by kernel_rfl) (by kernel_rfl) (fun _ _ _ h => h) (Or.inl ⟨by rfl, ?_⟩) (by assumption) ?_; rotate_left; (focus (intro w hSw; (try dsimp only at hSw); go_simp; (try with_reducible rfl))); (try simp only [Act.put, List.setIfInBounds_toArray, List.set_cons_zero, List.set_cons_succ])
          refine wpAnyH_take (i := 5) (oi := ⟨some 51, _, _, _, _, _⟩) (v := ?_) rfl (by kernel_rfl) (by kernel_rfl) (by kernel_rfl) (fun _ _ _ h => h) (Or.inl ⟨by rfl, ?_⟩) (by assumption) ?_; rotate_left; (focus (intro w hSw; (try dsimp only at hSw); go_simp; (try with_reducible rfl))); (try simp only [Act.put, List.setIfInBounds_toArray, List.set_cons_zero, List.set_cons_succ])
          refine wpAnyH_take (i := 6) (oi := ⟨some 52, _, _, _, _, _⟩) (v := ?_) rfl (by kernel_rfl) (by kernel_rfl) (by kernel_rfl) (fun _ _ _ h => h) (Or.inl ⟨by rfl, ?_⟩) (by assumption) ?_; rotate_left; (focus (intro w hSw; (try dsimp only at hSw); go_simp; (try with_reducible rfl))); (try simp only [Act.put, List.setIfInBounds_toArray, List.set_cons_zero, List.set_cons_succ])
          refine wpAnyH_take (i := 7) (oi := ⟨some 53, _, _, _, _, _⟩) (v := ?_) rfl (by kernel_rfl) (by kernel_rfl) (by kernel_rfl) (fun _ _ _ h => h) (Or.inl ⟨by rfl, ?_⟩) (by assumption) ?_; rotate_left; (focus (intro w hSw; (try dsimp only at hSw); go_simp; (try with_reducible rfl))); (try simp only [Act.put, List.setIfInBounds_toArray, List.set_cons_zero, List.set_cons_succ])
          refine wpAnyH_take (i := 8) (oi := ⟨some 54, _, _, _, _, _⟩) (v := ?_) rfl (by kernel_rfl) (by kernel_rfl) (by kernel_rfl) (fun _ _ _ h => h) (Or.inl ⟨by rfl, ?_⟩) (by assumption) ?_; rotate_left; (focus (intro w hSw; (try dsimp only at hSw); go_simp; (try with_reducible rfl))); (try simp only [Act.put, List.setIfInBounds_toArray, List.set_cons_zero, List.set_cons_succ])
          refine wpAnyH_take (i := 9) (oi := ⟨some 55, _, _, _, _, _⟩) (v := ?_) rfl (by kernel_rfl) (by kernel_rfl) (by kernel_rfl) (fun _ _ _ h => h) (Or.inl ⟨by rfl, ?_⟩) (by assumption) ?_; rotate_left; (focus (intro w hSw; (try dsimp only at hSw); go_simp; (try with_reducible rfl))); (try simp only [Act.put, List.setIfInBounds_toArray, List.set_cons_zero, List.set_cons_succ])
          refine wpAnyH_ready (rs := [2]) (by kernel_rfl) (by simp) ?_; refine AllReadyH.cons (o := ⟨some 48, _, _, _, _, _⟩) rfl (fun K hK => ?_) AllReadyH.nil; go_simp
          go_at_call 10
          refine (HI0.out w9.drew T_9.out).mono ?_
          rintro e w10 ⟨rfl, hb'⟩
          have hb : Below w9.heap.size w9 w10 := below_of_drew hb'
          have h7 : Below w9.heap.size w9 w10 := below_of_drew hb'
          have P_10 := Lib.hid (P_9.out.step hb)
          clear P_9
          have I_10 := Lib.hid (I_9.out.step hb)
          clear I_9
          have B_10 := Lib.hid (B_9.out.trans (hb.mono B_9.out.size))
          clear B_9
          have F_10 := Lib.hid (F_9.out.step hb)
          clear F_9
          have S_10 := Lib.hid (S_9.out.step hb)
          clear S_9
          have X_10 := Lib.hid (X_9.out.step hb)
          clear X_9
          have T_10 := Lib.hid (T_9.out.step hb)
          clear T_9
          clear hb hb'
          refine hK.out _ _ ⟨F_10.out.it, (h7.cell (p := ⟨b, off + k * 2, none⟩) hbB).trans d0⟩ (fun hHeld => ?_); clear hK K; (try simp only [Act.put, List.setIfInBounds_toArray, List.set_cons_zero, List.set_cons_succ])
          refine wpAnyH_take (i := 10) (oi := ⟨some 56, _, _, _, _, _⟩) (v := ?_) rfl (by kernel_rfl) (by kernel_rfl) (by kernel_rfl) (fun _ _ _ h => h) (Or.inl ⟨by rfl, ?_⟩) (by assumption) ?_; rotate_left; (focus (intro w hSw; (try dsimp only at hSw); go_simp; (try with_reducible rfl))); (try simp only [Act.put, List.setIfInBounds_toArray, List.set_cons_zero, List.set_cons_succ])
          refine wpAnyH_done (by kernel_rfl) ?_ _
          go_wp2
          go_roundw
          case rel => exact ⟨k + 1, by omega, by go_num, HB.out.trans (h7.mono hwr), by have := h7.size; omega⟩
          case measure => simp [intOf]; omega
      · clear HTT
        have q0 := F_9.out.it
        obtain ⟨x0, y0, z0⟩ := X_9.out.it
        go_wp2_with fail
        refine (HVE.out _ _ _ _ _ _ _ _ _ w9 HM3.out HP3.out HT3.out P_9.out S_9.out).mono ?_
        rintro e w10 ⟨rfl, hb⟩
        have P_10 := Lib.hid (P_9.out.step hb)
        clear P_9
        have I_10 := Lib.hid (I_9.out.step hb)
        clear I_9
        have B_10 := Lib.hid (B_9.out.trans (hb.mono B_9.out.size))
        clear B_9
        have F_10 := Lib.hid (F_9.out.step hb)
        clear F_9
        have S_10 := Lib.hid (S_9.out.step hb)
        clear S_9
        have X_10 := Lib.hid (X_9.out.step hb)
        clear X_9
        have T_10 := Lib.hid (T_9.out.step hb)
        clear T_9
        clear hb q0 x0 y0 z0
        have q0 := F_10.out.it
        obtain ⟨x0, y0, z0⟩ := X_10.out.it
        go_wp2_with fail
        refine (HCE.out _ _ _ _ _ _ _ _ _ w10 HM3.out HP3.out HT3.out P_10.out S_10.out).mono ?_
        rintro e w11 ⟨v, rfl, ho, hb⟩
        obtain ⟨A7, c7, rfl, hI7⟩ := OwnI.form ho
        have P_11 := Lib.hid (P_10.out.step hb)
        clear P_10
        have I_11 := Lib.hid (I_10.out.step hb)
        clear I_10
        have B_11 := Lib.hid (B_10.out.trans (hb.mono B_10.out.size))
        clear B_10
        have F_11 := Lib.hid (F_10.out.step hb)
        clear F_10
        have S_11 := Lib.hid (S_10.out.step hb)
        clear S_10
        have X_11 := Lib.hid (X_10.out.step hb)
        clear X_10
        have T_11 := Lib.hid (T_10.out.step hb)
        clear T_10
        clear hb q0 x0 y0 z0
        rw [← HM1.out]
        have q0 := F_11.out.it
        obtain ⟨x0, y0, z0⟩ := X_11.out.it
        have HEQ := Lib.hid (laws_equalInts A7 E1 m1 m1 c7 d1 cf cf w11 w11.heap.size (Nat.le_refl _) HM1.out HM1.out hI7 I_11.out (by omega) (by omega))
        rw [show decide (cf = cf) = true from decide_eq_true rfl] at HEQ
        clear ho hI7
        go_wp2_with fail
        refine (HEQ.out).mono ?_
        rintro e w12 ⟨rfl, hb⟩
        have P_12 := Lib.hid (P_11.out.step hb)
        clear P_11
        have I_12 := Lib.hid (I_11.out.step hb)
        clear I_11
        have B_12 := Lib.hid (B_11.out.trans (hb.mono B_11.out.size))
        clear B_11
        have F_12 := Lib.hid (F_11.out.step hb)
        clear F_11
        have S_12 := Lib.hid (S_11.out.step hb)
        clear S_11
        have X_12 := Lib.hid (X_11.out.step hb)
        clear X_11
        have T_12 := Lib.hid (T_11.out.step hb)
        clear T_11
        clear hb q0 x0 y0 z0
        go_wp2
        go_ret
        exact ⟨rfl, B_12.out⟩
end Go.Proofs.Ytbnioefhfpahcaa
