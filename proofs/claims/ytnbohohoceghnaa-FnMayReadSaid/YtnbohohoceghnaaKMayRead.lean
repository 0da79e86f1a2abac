/- For all bytes the law FnMayRead holds: the nodes that may be read ascend, and renaming each node to itself changes nothing; and the bytes stay as they were. Conditions: none. -/
import Derived.Test.YtnbohohoceghnaaZ07
import Derived.Deep.RegionHeld3
import Derived.Deep.RegionWith
/- The laws' own helpers on formulas and on lists that ascend, where they answer true. -/
namespace Go.Proofs.Ytnbohohoceghnaa
set_option linter.unusedSimpArgs false
set_option linter.unusedVariables false
open Go.RowKit

set_option maxHeartbeats 1600000 in
theorem laws_ascends (A : Option Addr) (n c : Nat) (xs : List Int) (w : World) (B : Nat) (hB : B ≤ w.heap.size) (hn : n = xs.length) (h : IS w B A xs) (hs : n ≤ 2000000) (hd : ∀ j, j + 1 < xs.length → xs.getD j 0 < xs.getD (j + 1) 0) :
    Calls Try.prog 28 #[.slice A n c] w fun e w' => e = .returned (.bool true) ∧ Below w.heap.size w w' := by
  have H := Lib.hid h
  have HN := Lib.hid hn
  have HD := Lib.hid hd
  clear hn h hd
  go_enter Try.func28, Try.ntmps28
  go_wp2
  go_loopw [3] (fun i wr => ∃ j : Nat, i = .int .i64 ((j : Int) + 1) ∧ Hid (Below w.heap.size w wr)) (fun i _ => n - (intOf i).toNat)
  case atStart => exact ⟨0, rfl, Below.refl _ _⟩
  case round =>
    obtain ⟨j, rfl, HB⟩ := hrel
    by_cases hlt : j + 1 < n
    · obtain ⟨b, off, rfl, hbB, hc⟩ := H.out (by have := HN.out; omega)
      have c0 := (HB.out.cell (p := ⟨b, off + j, none⟩) (by show b < w.heap.size; omega)).trans (hc j (by have := HN.out; omega))
      have c1 := (HB.out.cell (p := ⟨b, off + (j + 1), none⟩) (by show b < w.heap.size; omega)).trans (hc (j + 1) (by have := HN.out; omega))
      have hxy := HD.out j (by have := HN.out; omega)
      clear hc H
      generalize xs.getD j 0 = x at *
      generalize xs.getD (j + 1) 0 = y at *
      have hle : ¬ y ≤ x := by omega
      have hw1 : IntKind.i64.wrap ((j : Int) + 1 - 1) = (j : Int) := by rw [IntWalk.i64_in _ (by omega)]; omega
      have hw2 : IntKind.i64.wrap ((j : Int)) = (j : Int) := by rw [IntWalk.i64_in _ (by omega)]
      have ht : ((j : Int) + 1).toNat = j + 1 := by omega
      have hb1 : (j : Int) + 1 < n := by omega
      have hb0 : (0 : Int) ≤ (j : Int) + 1 := by omega
      go_wp2
      go_quiet (fail)
      clear hw1 hw2 ht
      go_wp2
      go_roundw
      case rel => exact ⟨j + 1, by go_num, drewN_below0 HB.out⟩
      case measure => simp [intOf]; omega
    · have hlt' : ¬ (j : Int) + 1 < n := by omega
      go_wp2
      go_ret
      exact ⟨rfl, HB.out⟩

set_option maxRecDepth 100000 in
set_option maxHeartbeats 3200000 in
theorem laws_equalFormula (A A' : Option Addr) (n c c' : Nat) (ps : List Pt) (w : World) (hn : n = ps.length) (h : PS w w.heap.size A ps) (h' : PS w w.heap.size A' ps) (hs : n ≤ 2000000) :
    Calls Try.prog 29 #[.agg #[.slice A n c], .agg #[.slice A' n c']] w fun e w' => e = .returned (.bool true) ∧ Below w.heap.size w w' := by
  have hne : ((n : Int) != (n : Int)) = false := by simp
  obtain ⟨W2, hW2⟩ : ∃ W2, W2 = (w.alloc (.cells #[.slice A n c] 25)).alloc (.cells #[.slice A' n c'] 25) := ⟨_, rfl⟩
  have HB0 : Hid (Below w.heap.size w W2) := by rw [hW2]; exact ((Below.refl w.heap.size w).alloc (Nat.le_refl _) _).alloc (by simp) _
  have hs2 : w.heap.size + 2 ≤ W2.heap.size := by rw [hW2]; simp
  have HT : Hid (W2.cell? ⟨w.heap.size, 0, none⟩ = some (.slice A n c) ∧ W2.cell? ⟨w.heap.size + 1, 0, none⟩ = some (.slice A' n c')) := by rw [hW2]; exact ⟨by go_simp, by go_simp⟩
  have H := Lib.hid (h.below HB0.out (Nat.le_refl _))
  have H' := Lib.hid (h'.below HB0.out (Nat.le_refl _))
  have HN := Lib.hid hn
  have HW2 := Lib.hid hW2
  clear hn h h' hW2
  go_enter Try.func29, Try.ntmps29
  go_wp2
  rw [← HW2.out]
  go_loopw [5] (fun i wr => ∃ k : Nat, k ≤ n ∧ i = .int .i64 k ∧ Hid (Below W2.heap.size W2 wr)) (fun i _ => n - (intOf i).toNat)
  case atStart => exact ⟨0, Nat.zero_le _, rfl, Below.refl _ _⟩
  case round =>
    obtain ⟨k, hk, rfl, HB⟩ := hrel
    have q0 := (HB.out.cell (p := ⟨w.heap.size, 0, none⟩) (by show w.heap.size < W2.heap.size; omega)).trans HT.out.1
    have q1 := (HB.out.cell (p := ⟨w.heap.size + 1, 0, none⟩) (by show w.heap.size + 1 < W2.heap.size; omega)).trans HT.out.2
    by_cases hlt : k < n
    · obtain ⟨b, off, rfl, hbB, hc⟩ := (H.out.below HB.out (by omega)) (by have := HN.out; omega)
      obtain ⟨b2, off2, rfl, hbB2, hc2⟩ := (H'.out.below HB.out (by omega)) (by have := HN.out; omega)
      obtain ⟨a0, a1, a2, a3, a4⟩ := hc k (by have := HN.out; omega)
      obtain ⟨e0, e1, e2, e3, e4⟩ := hc2 k (by have := HN.out; omega)
      clear hc hc2
      generalize ps.getD k default = p at *
      go_wp2
      refine wp_region_held_drew (S := fun w' => (w'.cell? ⟨w.heap.size, 0, none⟩ = some (.slice (some ⟨b, off, none⟩) n c) ∧ w'.cell? ⟨w.heap.size + 1, 0, none⟩ = some (.slice (some ⟨b2, off2, none⟩) n c')) ∧ (w'.cell? ⟨b, off + k * 5, none⟩ = some (.int .i64 p.k) ∧ w'.cell? ⟨b, off + k * 5 + 1, none⟩ = some (.int .i64 p.a) ∧ w'.cell? ⟨b, off + k * 5 + 2, none⟩ = some (.int .i64 p.b) ∧ w'.cell? ⟨b, off + k * 5 + 3, none⟩ = some (.int .i64 p.c) ∧ w'.cell? ⟨b, off + k * 5 + 4, none⟩ = some (.int .i64 p.n)) ∧ (w'.cell? ⟨b2, off2 + k * 5, none⟩ = some (.int .i64 p.k) ∧ w'.cell? ⟨b2, off2 + k * 5 + 1, none⟩ = some (.int .i64 p.a) ∧ w'.cell? ⟨b2, off2 + k * 5 + 2, none⟩ = some (.int .i64 p.b) ∧ w'.cell? ⟨b2, off2 + k * 5 + 3, none⟩ = some (.int .i64 p.c) ∧ w'.cell? ⟨b2, off2 + k * 5 + 4, none⟩ = some (.int .i64 p.n))) (by kernel_rfl) ⟨⟨q0, q1⟩, ⟨a0, a1, a2, a3, a4⟩, ⟨e0, e1, e2, e3, e4⟩⟩ (fun hHeld => ?_)
      refine wpAnyH_take (i := 0) (oi := ⟨some 20, _, _, _, _, _⟩) (v := ?_) rfl (by kernel_rfl) (by kernel_rfl) (by kernel_rfl) (fun _ _ _ h => h) (Or.inl ⟨by rfl, ?_⟩) (by assumption) ?_; rotate_left; (focus (intro w hSw; (try dsimp only at hSw); go_simp; (try with_reducible rfl))); (try simp only [Act.put, List.setIfInBounds_toArray, List.set_cons_zero, List.set_cons_succ])
      refine wpAnyH_take (i := 1) (oi := ⟨some 21, _, _, _, _, _⟩) (v := ?_) rfl (by kernel_rfl) (by kernel_rfl) (by kernel_rfl) (fun _ _ _ h => h) (Or.inl ⟨by rfl, ?_⟩) (by assumption) ?_; rotate_left; (focus (intro w hSw; (try dsimp only at hSw); go_simp; (try with_reducible rfl))); (try simp only [Act.put, List.setIfInBounds_toArray, List.set_cons_zero, List.set_cons_succ])
      refine wpAnyH_take (i := 2) (oi := ⟨some 22, _, _, _, _, _⟩) (v := ?_) rfl (by kernel_rfl) (by kernel_rfl) (by kernel_rfl) (fun _ _ _ h => h) (Or.inl ⟨by rfl, ?_⟩) (by assumption) ?_; rotate_left; (focus (intro w hSw; (try dsimp only at hSw); go_simp; (try with_reducible rfl))); (try simp only [Act.put, List.setIfInBounds_toArray, List.set_cons_zero, List.set_cons_succ])
      refine wpAnyH_take (i := 3) (oi := ⟨some 23, _, _, _, _, _⟩) (v := ?_) rfl (by kernel_rfl) (by kernel_rfl) (by kernel_rfl) (fun _ _ _ h => h) (Or.inl ⟨by rfl, ?_⟩) (by assumption) ?_; rotate_left; (focus (intro w hSw; (try dsimp only at hSw); go_simp; (try with_reducible rfl))); (try simp only [Act.put, List.setIfInBounds_toArray, List.set_cons_zero, List.set_cons_succ])
      refine wpAnyH_take (i := 4) (oi := ⟨some 24, _, _, _, _, _⟩) (v := ?_) rfl (by kernel_rfl) (by kernel_rfl) (by kernel_rfl) (fun _ _ _ h => h) (Or.inl ⟨by rfl, ?_⟩) (by assumption) ?_; rotate_left; (focus (intro w hSw; (try dsimp only at hSw); go_simp; (try with_reducible rfl))); (try simp only [Act.put, List.setIfInBounds_toArray, List.set_cons_zero, List.set_cons_succ])
      refine wpAnyH_take (i := 5) (oi := ⟨some 25, _, _, _, _, _⟩) (v := ?_) rfl (by kernel_rfl) (by kernel_rfl) (by kernel_rfl) (fun _ _ _ h => h) (Or.inl ⟨by rfl, ?_⟩) (by assumption) ?_; rotate_left; (focus (intro w hSw; (try dsimp only at hSw); go_simp; (try with_reducible rfl))); (try simp only [Act.put, List.setIfInBounds_toArray, List.set_cons_zero, List.set_cons_succ])
      refine wpAnyH_take (i := 6) (oi := ⟨some 26, _, _, _, _, _⟩) (v := ?_) rfl (by kernel_rfl) (by kernel_rfl) (by kernel_rfl) (fun _ _ _ h => h) (Or.inl ⟨by rfl, ?_⟩) (by assumption) ?_; rotate_left; (focus (intro w hSw; (try dsimp only at hSw); go_simp; (try with_reducible rfl))); (try simp only [Act.put, List.setIfInBounds_toArray, List.set_cons_zero, List.set_cons_succ])
      refine wpAnyH_take (i := 7) (oi := ⟨some 27, _, _, _, _, _⟩) (v := ?_) rfl (by kernel_rfl) (by kernel_rfl) (by kernel_rfl) (fun _ _ _ h => h) (Or.inl ⟨by rfl, ?_⟩) (by assumption) ?_; rotate_left; (focus (intro w hSw; (try dsimp only at hSw); go_simp; (try with_reducible rfl))); (try simp only [Act.put, List.setIfInBounds_toArray, List.set_cons_zero, List.set_cons_succ])
      refine wpAnyH_take (i := 8) (oi := ⟨some 28, _, _, _, _, _⟩) (v := ?_) rfl (by kernel_rfl) (by kernel_rfl) (by kernel_rfl) (fun _ _ _ h => h) (Or.inl ⟨by rfl, ?_⟩) (by assumption) ?_; rotate_left; (focus (intro w hSw; (try dsimp only at hSw); go_simp; (try with_reducible rfl))); (try simp only [Act.put, List.setIfInBounds_toArray, List.set_cons_zero, List.set_cons_succ])
      refine wpAnyH_take (i := 9) (oi := ⟨some 29, _, _, _, _, _⟩) (v := ?_) rfl (by kernel_rfl) (by kernel_rfl) (by kernel_rfl) (fun _ _ _ h => h) (Or.inl ⟨by rfl, ?_⟩) (by assumption) ?_; rotate_left; (focus (intro w hSw; (try dsimp only at hSw); go_simp; (try with_reducible rfl))); (try simp only [Act.put, List.setIfInBounds_toArray, List.set_cons_zero, List.set_cons_succ])
      refine wpAnyH_take (i := 10) (oi := ⟨some 30, _, _, _, _, _⟩) (v := ?_) rfl (by kernel_rfl) (by kernel_rfl) (by kernel_rfl) (fun _ _ _ h => h) (Or.inl ⟨by rfl, ?_⟩) (by assumption) ?_; rotate_left; (focus (intro w hSw; (try dsimp only at hSw); go_simp; (try with_reducible rfl))); (try simp only [Act.put, List.setIfInBounds_toArray, List.set_cons_zero, List.set_cons_succ])
      refine wpAnyH_done (by kernel_rfl) ?_ _
      go_wp2
      go_roundw
      case rel => exact ⟨k + 1, by omega, by go_num, HB.out.drew⟩
      case measure => simp [intOf]; omega
    · obtain rfl : k = n := by omega
      go_wp2
      go_ret
      exact ⟨rfl, HB0.out.trans (HB.out.mono (by omega))⟩

theorem mayR_asc (ps : List Pt) (j : Nat) (h : j + 1 < (mayR ps).length) : (mayR ps).getD j 0 < (mayR ps).getD (j + 1) 0 := by
  have hp : (mayR ps).Pairwise (· < ·) := by
    unfold mayR
    rw [List.pairwise_map]
    refine List.Pairwise.imp ?_ (List.Pairwise.filter _ List.pairwise_lt_range)
    intro a b hab
    omega
  have := List.pairwise_iff_getElem.1 hp j (j + 1) (by omega) h (by omega)
  simpa [List.getD, h, show j < (mayR ps).length by omega] using this
theorem mayF_asc (ps : List Pt) (j : Nat) (h : j + 1 < (mayF ps).length) : (mayF ps).getD j 0 < (mayF ps).getD (j + 1) 0 := by
  unfold mayF at *
  split at h
  · rename_i hv; rw [if_pos hv]; exact mayR_asc ps j h
  · simp at h
/-- The first numbers. -/
def numTo (k : Nat) : List Int := (List.range k).map fun i : Nat => (i : Int)
theorem numTo_succ (k : Nat) : numTo (k + 1) = numTo k ++ [(k : Int)] := by unfold numTo; rw [List.range_succ, List.map_append]; rfl
theorem numTo_len (k : Nat) : (numTo k).length = k := by simp [numTo]
theorem numTo_get (k j : Nat) (h : j < k) : (numTo k).getD j 0 = (j : Int) := by simp [numTo, List.getD, h]
theorem ren_num (ps : List Pt) (h : validF ps = true) : renF ps (numTo 10) = ps := by
  obtain ⟨hg, h1, h12⟩ := validF_good ps h
  have hgm : ∀ p ∈ ps, (p.k == 1) = true → 0 ≤ p.n ∧ p.n < 10 := by
    intro p hp hk
    obtain ⟨j, hj, rfl⟩ := List.mem_iff_getElem.1 hp
    have := hg j hj
    have e : ps.getD j default = ps[j] := by simp [List.getD, hj]
    rw [e] at this
    have := (good_num _ _ this).2 (by simpa using hk)
    omega
  have hc : canRen ps (numTo 10) = true := by
    unfold canRen
    rw [h, numTo_len]
    have ha : allR (numTo 10) 0 9 = true := allR_true _ _ _ fun k hk => by
      rw [numTo_len] at hk
      rw [numTo_get 10 k hk]
      unfold rng
      simp
      omega
    have he : eachOK ps 10 = true := by
      unfold eachOK
      rw [List.all_eq_true]
      intro p hp
      cases h1 : (p.k == 1)
      · simp
      · have := hgm p hp h1
        simp
        omega
    rw [ha, he]; rfl
  unfold renF
  rw [hc]
  simp only [if_true]
  have : ∀ p ∈ ps, ren (numTo 10) p = p := fun p hp => by
    unfold ren
    cases h1 : (p.k == 1)
    · rfl
    · have hb := hgm p hp h1
      simp only [if_true]
      rw [numTo_get 10 _ (by omega), Int.toNat_of_nonneg hb.1]
  rw [List.map_congr_left this, List.map_id']
end Go.Proofs.Ytnbohohoceghnaa

/- laws.FnReadsOf returns true for all bytes, and writes nothing that was there. (Made by genpl.py.) -/
namespace Go.Proofs.Ytnbohohoceghnaa
set_option linter.unusedSimpArgs false
set_option linter.unusedVariables false
open Go.RowKit

theorem readP_len (ps : List Pt) (vs : List Int) : (readF ps vs).length ≤ 1000000 := by
  unfold readF
  cases hc : canEv ps vs
  · simp
  · obtain ⟨hv, _⟩ := canEv_parts ps vs hc
    obtain ⟨hg, h1, h12⟩ := validF_good ps hv
    exact Nat.le_trans (firsts_len _) (by have := rds_whole ps vs h12; omega)
theorem mayP_len (ps : List Pt) : (mayF ps).length ≤ 10 := by
  unfold mayF
  split
  · exact mayR_len _ 10
  · exact Nat.zero_le _

set_option maxRecDepth 100000 in
set_option maxHeartbeats 6400000 in
theorem plaw_ReadsOf (A : Option Addr) (n c : Nat) (bs : List Int) (w : World) (hn : n = bs.length) (hnc : n ≤ c) (h : BS w w.heap.size A bs) (hy : BY bs) (hm : n ≤ 9223372036854775807) :
    Calls Try.prog 3 #[.slice A n c] w fun e w' => e = .returned (.bool true) ∧ Below w.heap.size w w' := by
  by_cases hs : 1048576 < n
  · clear hn hnc h hy
    go_enter Try.func3, Try.ntmps3
    go_wp2
    go_ret
    exact ⟨rfl, Below.refl _ _⟩
  have HC := Lib.hid (spec_DrawReadsOf A n c bs w hn hnc h hy (by omega))
  clear hn hnc h hy
  go_enter Try.func3, Try.ntmps3
  go_wp2_with fail
  refine HC.out.mono ?_
  rintro e w1 ⟨A1, n1, c1, ps, E1, m1, d1, xs, rfl, hp1, hp2, hp3, hm1, hx3, hx10, hP, hI, _, _, hb⟩
  have HN1 := Lib.hid hp1
  have P_1 := Lib.hid (hP)
  have HM1 := Lib.hid hm1
  have I_1 := Lib.hid (hI)
  have B_1 := Lib.hid (hb)
  clear hP hp1 hb HC hI hm1
  go_wp2_with fail
  obtain ⟨w2, hw2⟩ : ∃ W, W = w1.alloc (.cells #[.slice A1 n1 c1] 25) := ⟨_, rfl⟩
  have hb : Below w1.heap.size w1 w2 := by rw [hw2]; exact (Below.refl _ _).alloc (Nat.le_refl _) _
  have P_2 := Lib.hid (P_1.out.step hb)
  clear P_1
  have I_2 := Lib.hid (I_1.out.step hb)
  clear I_1
  have B_2 := Lib.hid (B_1.out.trans (hb.mono B_1.out.size))
  clear B_1
  have F_2 : Hid (As w1.heap.size (w1.heap.size + 1) (fun w' => w'.cell? ⟨w1.heap.size, 0, none⟩ = some (.slice A1 n1 c1)) w2) := by rw [hw2]; exact box_new _ _ _
  clear hb
  rw [← hw2]
  clear hw2
  have HIM := Lib.hid fun (w' : World) (h : PS w' w'.heap.size A1 ps) (h' : IS w' w'.heap.size E1 xs) => impl_ReadsOf A1 E1 n1 c1 m1 d1 ps xs _ HN1.out HM1.out (by omega) (by omega) w' (Nat.le_refl _) h h'
  have HSP := Lib.hid fun (w' : World) (h : PS w' w'.heap.size A1 ps) (h' : IS w' w'.heap.size E1 xs) => spec_ReadsOf A1 E1 n1 c1 m1 d1 ps xs _ HN1.out HM1.out (by omega) (by omega) w' (Nat.le_refl _) h h'
  have HMA := Lib.hid fun (w' : World) (h : PS w' w'.heap.size A1 ps) => impl_MayRead A1 n1 c1 ps w' _ (Nat.le_refl _) HN1.out h (by omega)
  have hrl := readP_len ps xs
  have hml := mayP_len ps
  have HF := Lib.hid (readF_may ps xs)
  generalize readF ps xs = R at *
  generalize mayF ps = M at *
  have q0 := F_2.out.it
  go_wp2_with fail
  refine (HIM.out w2 P_2.out I_2.out).mono ?_
  rintro e w3 ⟨v, rfl, ho, hb⟩
  obtain ⟨A3, c3, rfl, hI9⟩ := OwnI.form ho
  have P_3 := Lib.hid (P_2.out.step hb)
  clear P_2
  have I_3 := Lib.hid (I_2.out.step hb)
  clear I_2
  have B_3 := Lib.hid (B_2.out.trans (hb.mono B_2.out.size))
  clear B_2
  have F_3 := Lib.hid (F_2.out.step hb)
  clear F_2
  clear hb
  clear q0
  obtain ⟨rl, hrl2⟩ : ∃ l, l = R.length := ⟨_, rfl⟩
  have HRL := Lib.hid hrl2
  have R_3 := Lib.hid (hI9)
  clear ho hI9
  rw [← hrl2] at hrl
  rw [← hrl2]
  clear hrl2
  have q0 := F_3.out.it
  go_wp2_with fail
  refine (HSP.out w3 P_3.out I_3.out).mono ?_
  rintro e w4 ⟨v, rfl, ho, hb⟩
  obtain ⟨A4, c4, rfl, hI9⟩ := OwnI.form ho
  have P_4 := Lib.hid (P_3.out.step hb)
  clear P_3
  have I_4 := Lib.hid (I_3.out.step hb)
  clear I_3
  have B_4 := Lib.hid (B_3.out.trans (hb.mono B_3.out.size))
  clear B_3
  have F_4 := Lib.hid (F_3.out.step hb)
  clear F_3
  have R_4 := Lib.hid (R_3.out.step hb)
  clear R_3
  clear hb
  clear q0
  rw [← HRL.out]
  have HEQ := Lib.hid (laws_equalInts A3 A4 rl rl c3 c4 R R w4 w4.heap.size (Nat.le_refl _) HRL.out HRL.out R_4.out hI9 (by omega) (by omega))
  rw [show decide (R = R) = true from decide_eq_true rfl] at HEQ
  clear ho hI9
  have q0 := F_4.out.it
  go_wp2_with fail
  refine (HEQ.out).mono ?_
  rintro e w5 ⟨rfl, hb⟩
  have P_5 := Lib.hid (P_4.out.step hb)
  clear P_4
  have I_5 := Lib.hid (I_4.out.step hb)
  clear I_4
  have B_5 := Lib.hid (B_4.out.trans (hb.mono B_4.out.size))
  clear B_4
  have F_5 := Lib.hid (F_4.out.step hb)
  clear F_4
  have R_5 := Lib.hid (R_4.out.step hb)
  clear R_4
  clear hb
  clear q0
  clear HEQ
  by_cases h0 : rl = 0
  · have hz : ((rl : Int) == 0) = true := by simp [h0]
    clear h0
    have q0 := F_5.out.it
    go_wp2_with fail
    refine (HSP.out w5 P_5.out I_5.out).mono ?_
    rintro e w6 ⟨v, rfl, ho, hb⟩
    obtain ⟨A4, c4, rfl, hI9⟩ := OwnI.form ho
    have P_6 := Lib.hid (P_5.out.step hb)
    clear P_5
    have I_6 := Lib.hid (I_5.out.step hb)
    clear I_5
    have B_6 := Lib.hid (B_5.out.trans (hb.mono B_5.out.size))
    clear B_5
    have F_6 := Lib.hid (F_5.out.step hb)
    clear F_5
    have R_6 := Lib.hid (R_5.out.step hb)
    clear R_5
    clear hb
    clear q0
    rw [← HRL.out]
    have HEQ := Lib.hid (laws_equalInts A3 A4 rl rl c3 c4 R R w6 w6.heap.size (Nat.le_refl _) HRL.out HRL.out R_6.out hI9 (by omega) (by omega))
    rw [show decide (R = R) = true from decide_eq_true rfl] at HEQ
    clear ho hI9
    have q0 := F_6.out.it
    go_wp2_with fail
    refine (HEQ.out).mono ?_
    rintro e w7 ⟨rfl, hb⟩
    have P_7 := Lib.hid (P_6.out.step hb)
    clear P_6
    have I_7 := Lib.hid (I_6.out.step hb)
    clear I_6
    have B_7 := Lib.hid (B_6.out.trans (hb.mono B_6.out.size))
    clear B_6
    have F_7 := Lib.hid (F_6.out.step hb)
    clear F_6
    have R_7 := Lib.hid (R_6.out.step hb)
    clear R_6
    clear hb
    clear q0
    clear HEQ
    go_wp2
    go_ret
    exact ⟨rfl, B_7.out⟩
  · have hz : ((rl : Int) == 0) = false := by simp; omega
    clear h0
    have q0 := F_5.out.it
    go_wp2_with fail
    refine (laws_noTwice A3 rl c3 R w5 w5.heap.size (Nat.le_refl _) HRL.out R_5.out (by omega) HF.out.1).mono ?_
    rintro e w9 ⟨rfl, rfl⟩
    clear q0
    have q0 := F_5.out.it
    go_wp2_with fail
    refine (HMA.out w5 P_5.out).mono ?_
    rintro e w6 ⟨v, rfl, ho, hb⟩
    obtain ⟨A5, c5, rfl, hI9⟩ := OwnI.form ho
    have P_6 := Lib.hid (P_5.out.step hb)
    clear P_5
    have I_6 := Lib.hid (I_5.out.step hb)
    clear I_5
    have B_6 := Lib.hid (B_5.out.trans (hb.mono B_5.out.size))
    clear B_5
    have F_6 := Lib.hid (F_5.out.step hb)
    clear F_5
    have R_6 := Lib.hid (R_5.out.step hb)
    clear R_5
    clear hb
    clear q0
    obtain ⟨ml, hml2⟩ : ∃ l, l = M.length := ⟨_, rfl⟩
    have HML := Lib.hid hml2
    rw [← hml2] at hml
    rw [← hml2]
    clear hml2
    have M_6 := Lib.hid (hI9)
    clear ho hI9
    have q0 := F_6.out.it
    go_wp2_with fail
    refine (laws_within A3 A5 rl c3 ml c5 R M w6 w6.heap.size (Nat.le_refl _) HRL.out R_6.out (by omega) HML.out M_6.out (by omega) HF.out.2).mono ?_
    rintro e w9 ⟨rfl, rfl⟩
    clear q0
    go_wp2
    go_ret
    exact ⟨rfl, B_6.out⟩
end Go.Proofs.Ytnbohohoceghnaa

/- laws.FnMayRead returns true for all bytes, and writes nothing that was there. (Made by genpl.py.) -/
namespace Go.Proofs.Ytnbohohoceghnaa
set_option linter.unusedSimpArgs false
set_option linter.unusedVariables false
open Go.RowKit

set_option maxRecDepth 100000 in
set_option maxHeartbeats 6400000 in
theorem plaw_MayRead (A : Option Addr) (n c : Nat) (bs : List Int) (w : World) (hn : n = bs.length) (hnc : n ≤ c) (h : BS w w.heap.size A bs) (hy : BY bs) (hm : n ≤ 9223372036854775807) :
    Calls Try.prog 6 #[.slice A n c] w fun e w' => e = .returned (.bool true) ∧ Below w.heap.size w w' := by
  by_cases hs : 1048576 < n
  · clear hn hnc h hy
    go_enter Try.func6, Try.ntmps6
    go_wp2
    go_ret
    exact ⟨rfl, Below.refl _ _⟩
  have HC := Lib.hid (spec_DrawMayRead A n c bs w hn hnc h hy (by omega))
  clear hn hnc h hy
  go_enter Try.func6, Try.ntmps6
  go_wp2_with fail
  refine HC.out.mono ?_
  rintro e w1 ⟨A1, n1, c1, ps, rfl, hp1, hp2, hp3, hP, hb⟩
  have HN1 := Lib.hid hp1
  have P_1 := Lib.hid (hP)
  have B_1 := Lib.hid (hb)
  clear hP hp1 hb HC
  go_wp2_with fail
  obtain ⟨w2, hw2⟩ : ∃ W, W = w1.alloc (.cells #[.slice A1 n1 c1] 25) := ⟨_, rfl⟩
  have hb : Below w1.heap.size w1 w2 := by rw [hw2]; exact (Below.refl _ _).alloc (Nat.le_refl _) _
  have P_2 := Lib.hid (P_1.out.step hb)
  clear P_1
  have B_2 := Lib.hid (B_1.out.trans (hb.mono B_1.out.size))
  clear B_1
  have F_2 : Hid (As w1.heap.size (w1.heap.size + 1) (fun w' => w'.cell? ⟨w1.heap.size, 0, none⟩ = some (.slice A1 n1 c1)) w2) := by rw [hw2]; exact box_new _ _ _
  clear hb
  rw [← hw2]
  clear hw2
  obtain ⟨i0, hi, hz0, hz1, hz2⟩ := info_parts info_int
  have HIM := Lib.hid fun (w' : World) (h : PS w' w'.heap.size A1 ps) => impl_MayRead A1 n1 c1 ps w' _ (Nat.le_refl _) HN1.out h (by omega)
  have HSP := Lib.hid fun (w' : World) (h : PS w' w'.heap.size A1 ps) => spec_MayRead A1 n1 c1 ps w' _ (Nat.le_refl _) HN1.out h (by omega)
  have HVF := Lib.hid fun (w' : World) (h : PS w' w'.heap.size A1 ps) => impl_ValidFormula A1 n1 c1 ps w' _ (Nat.le_refl _) HN1.out h (by omega)
  have HRN := Lib.hid fun (E : Option Addr) (c' : Nat) (w' : World) (h : PS w' w'.heap.size A1 ps) (h' : IS w' w'.heap.size E (numTo 10)) => impl_RenameReads A1 E n1 c1 10 c' ps (numTo 10) _ HN1.out (numTo_len 10).symm (by omega) (by omega) w' (Nat.le_refl _) h h'
  have HRP := Lib.hid (ren_num ps)
  have hrl := mayP_len ps
  have HAS := Lib.hid (mayF_asc ps)
  generalize mayF ps = R at *
  generalize validF ps = vf at *
  have q0 := F_2.out.it
  go_wp2_with fail
  refine (HIM.out w2 P_2.out).mono ?_
  rintro e w3 ⟨v, rfl, ho, hb⟩
  obtain ⟨A3, c3, rfl, hI9⟩ := OwnI.form ho
  have P_3 := Lib.hid (P_2.out.step hb)
  clear P_2
  have B_3 := Lib.hid (B_2.out.trans (hb.mono B_2.out.size))
  clear B_2
  have F_3 := Lib.hid (F_2.out.step hb)
  clear F_2
  clear hb
  clear q0
  obtain ⟨rl, hrl2⟩ : ∃ l, l = R.length := ⟨_, rfl⟩
  have HRL := Lib.hid hrl2
  have R_3 := Lib.hid (hI9)
  clear ho hI9
  rw [← hrl2] at hrl
  rw [← hrl2]
  clear hrl2
  have q0 := F_3.out.it
  go_wp2_with fail
  refine (HSP.out w3 P_3.out).mono ?_
  rintro e w4 ⟨v, rfl, ho, hb⟩
  obtain ⟨A4, c4, rfl, hI9⟩ := OwnI.form ho
  have P_4 := Lib.hid (P_3.out.step hb)
  clear P_3
  have B_4 := Lib.hid (B_3.out.trans (hb.mono B_3.out.size))
  clear B_3
  have F_4 := Lib.hid (F_3.out.step hb)
  clear F_3
  have R_4 := Lib.hid (R_3.out.step hb)
  clear R_3
  clear hb
  clear q0
  rw [← HRL.out]
  have HEQ := Lib.hid (laws_equalInts A3 A4 rl rl c3 c4 R R w4 w4.heap.size (Nat.le_refl _) HRL.out HRL.out R_4.out hI9 (by omega) (by omega))
  rw [show decide (R = R) = true from decide_eq_true rfl] at HEQ
  clear ho hI9
  have q0 := F_4.out.it
  go_wp2_with fail
  refine (HEQ.out).mono ?_
  rintro e w5 ⟨rfl, hb⟩
  have P_5 := Lib.hid (P_4.out.step hb)
  clear P_4
  have B_5 := Lib.hid (B_4.out.trans (hb.mono B_4.out.size))
  clear B_4
  have F_5 := Lib.hid (F_4.out.step hb)
  clear F_4
  have R_5 := Lib.hid (R_4.out.step hb)
  clear R_4
  clear hb
  clear q0
  clear HEQ
  have q0 := F_5.out.it
  go_wp2_with fail
  refine (HVF.out w5 P_5.out).mono ?_
  rintro e w6 ⟨rfl, hb⟩
  have P_6 := Lib.hid (P_5.out.step hb)
  clear P_5
  have B_6 := Lib.hid (B_5.out.trans (hb.mono B_5.out.size))
  clear B_5
  have F_6 := Lib.hid (F_5.out.step hb)
  clear F_5
  have R_6 := Lib.hid (R_5.out.step hb)
  clear R_5
  clear hb
  clear q0
  cases vf
  · skip
    have q0 := F_6.out.it
    go_wp2_with fail
    refine (HSP.out w6 P_6.out).mono ?_
    rintro e w7 ⟨v, rfl, ho, hb⟩
    obtain ⟨A4, c4, rfl, hI9⟩ := OwnI.form ho
    have P_7 := Lib.hid (P_6.out.step hb)
    clear P_6
    have B_7 := Lib.hid (B_6.out.trans (hb.mono B_6.out.size))
    clear B_6
    have F_7 := Lib.hid (F_6.out.step hb)
    clear F_6
    have R_7 := Lib.hid (R_6.out.step hb)
    clear R_6
    clear hb
    clear q0
    rw [← HRL.out]
    have HEQ := Lib.hid (laws_equalInts A3 A4 rl rl c3 c4 R R w7 w7.heap.size (Nat.le_refl _) HRL.out HRL.out R_7.out hI9 (by omega) (by omega))
    rw [show decide (R = R) = true from decide_eq_true rfl] at HEQ
    clear ho hI9
    have q0 := F_7.out.it
    go_wp2_with fail
    refine (HEQ.out).mono ?_
    rintro e w8 ⟨rfl, hb⟩
    have P_8 := Lib.hid (P_7.out.step hb)
    clear P_7
    have B_8 := Lib.hid (B_7.out.trans (hb.mono B_7.out.size))
    clear B_7
    have F_8 := Lib.hid (F_7.out.step hb)
    clear F_7
    have R_8 := Lib.hid (R_7.out.step hb)
    clear R_7
    clear hb
    clear q0
    clear HEQ
    go_wp2
    go_ret
    exact ⟨rfl, B_8.out⟩
  · have HRP2 := Lib.hid (HRP.out (by first | rfl | trivial))
    rw [HRP2.out] at HRN
    go_wp2
    go_loopw [5, 6] (fun v u wr => ∃ k : Nat, k ≤ 10 ∧ u = .int .i64 k ∧ Hid (OwnI wr w6.heap.size v (numTo k)) ∧ Hid (Below w6.heap.size w6 wr) ∧ w6.heap.size ≤ wr.heap.size) (fun _ u _ => 10 - (intOf u).toNat)
    case atStart =>
      refine ⟨0, by omega, rfl, ?_, (Below.refl _ _).alloc (Nat.le_refl _) _, by simp⟩
      have := World.ownsRow_lit (e := 3) (size := 1) (base := w6.heap.size) w6 #[] 0 (Nat.le_refl _) (by unfold maxLen; omega) rfl
      simpa [OwnI, Hid, numTo] using this
    case round =>
      obtain ⟨k, hk, rfl, HO, HB, hwr⟩ := hrel
      by_cases hlt : k < 10
      · have HST := Lib.hid (numTo_succ k)
        have hnl := numTo_len k
        generalize numTo k = D at *
        go_wp2_with (at_builtin; refine wpList_append_own _ rfl _ _ 26 rfl w6.heap.size 3 i0 (.int .i64 0) 1 8 Try.underlying26 hi hz0 hz1 hz2 rfl (by decide) _ _ _ rfl (HO.out.alloc _) ⟨_, 0, none⟩ 1 1 [.int .i64 k] rfl rfl (cell_one_new _ _ _) ?c2 ?c3 ?c4 ?c5 ?_)
        case c2 => first | rfl | (intro u hu; simp at hu; subst hu; rfl)
        case c3 => unfold maxLen; omega
        case c4 => omega
        case c5 => first | omega | (simp; omega)
        intro v' w3 hown' hgrow _
        have hpos := (HO.out.alloc (.cells #[.int .i64 k] 3)).lt
        have HO' : Hid (OwnI w3 w6.heap.size v' (numTo (k + 1))) := by
          rw [HST.out]
          simpa [OwnI, Hid, hnl] using hown'
        have HB' := Lib.hid ((HB.out.alloc hwr (.cells #[.int .i64 k] 3)).grown hgrow (by first | (simp; omega) | omega) (fun q hq => (hpos q hq).1))
        clear hown' hgrow hpos
        go_wp2
        go_roundw
        case rel => exact ⟨k + 1, by omega, by go_num, HO'.out, HB'.out, HB'.out.size⟩
        case measure => simp [intOf]; omega
      · obtain rfl : k = 10 := by omega
        obtain ⟨A5, c5, rfl, hI5⟩ := OwnI.form HO.out
        rw [numTo_len]
        obtain ⟨w7, hwK⟩ : ∃ W, W = wr := ⟨_, rfl⟩
        rw [← hwK]
        rw [← hwK] at HB hwr hI5 HO
        clear hwK
        have P_7 := Lib.hid (P_6.out.step HB.out)
        have B_7 := Lib.hid (B_6.out.trans (HB.out.mono B_6.out.size))
        have F_7 := Lib.hid (F_6.out.step HB.out)
        have R_7 := Lib.hid (R_6.out.step HB.out)
        have S_7 := Lib.hid (hI5)
        clear hI5 HO
        have q0 := F_7.out.it
        go_wp2
        refine wp_region_held_drew (S := fun w' => w'.cell? ⟨w1.heap.size, 0, none⟩ = some (.slice A1 n1 c1)) (by kernel_rfl) q0 (fun hHeld => ?_)
        refine wpAnyH_take (i := 0) (oi := ⟨some 37, _, _, _, _, _⟩) (v := ?_) rfl (by kernel_rfl) (by kernel_rfl) (by kernel_rfl) (fun _ _ _ h => h) (Or.inl ⟨by rfl, ?_⟩) (by assumption) ?_; rotate_left; (focus (intro w hSw; (try dsimp only at hSw); go_simp; (try with_reducible rfl))); (try simp only [Act.put, List.setIfInBounds_toArray, List.set_cons_zero, List.set_cons_succ])
        refine wpAnyH_ready (rs := [1]) (by kernel_rfl) (by simp) ?_; refine AllReadyH.cons (o := ⟨some 38, _, _, _, _, _⟩) rfl (fun K hK => ?_) AllReadyH.nil; go_simp
        go_at_call 28
        refine (laws_ascends A3 rl c3 R w7.drew w7.heap.size (Nat.le_refl _) HRL.out R_7.out (by omega) HAS.out).mono ?_
        rintro e w8 ⟨rfl, hb'⟩
        have hb : Below w7.heap.size w7 w8 := below_of_drew hb'
        have P_8 := Lib.hid (P_7.out.step hb)
        clear P_7
        have B_8 := Lib.hid (B_7.out.trans (hb.mono B_7.out.size))
        clear B_7
        have F_8 := Lib.hid (F_7.out.step hb)
        clear F_7
        have R_8 := Lib.hid (R_7.out.step hb)
        clear R_7
        have S_8 := Lib.hid (S_7.out.step hb)
        clear S_7
        have q2 := F_8.out.it
        refine hK.out _ _ q2 (fun hHeld => ?_); clear hK K; (try simp only [Act.put, List.setIfInBounds_toArray, List.set_cons_zero, List.set_cons_succ])
        refine wpAnyH_take (i := 2) (oi := ⟨some 39, _, _, _, _, _⟩) (v := ?_) rfl (by kernel_rfl) (by kernel_rfl) (by kernel_rfl) (fun _ _ _ h => h) (Or.inl ⟨by rfl, ?_⟩) (by assumption) ?_; rotate_left; (focus (intro w hSw; (try dsimp only at hSw); go_simp; (try with_reducible rfl))); (try simp only [Act.put, List.setIfInBounds_toArray, List.set_cons_zero, List.set_cons_succ])
        refine wpAnyH_take (i := 3) (oi := ⟨some 40, _, _, _, _, _⟩) (v := ?_) rfl (by kernel_rfl) (by kernel_rfl) (by kernel_rfl) (fun _ _ _ h => h) (Or.inl ⟨by rfl, ?_⟩) (by assumption) ?_; rotate_left; (focus (intro w hSw; (try dsimp only at hSw); go_simp; (try with_reducible rfl))); (try simp only [Act.put, List.setIfInBounds_toArray, List.set_cons_zero, List.set_cons_succ])
        refine wpAnyH_take (i := 4) (oi := ⟨some 41, _, _, _, _, _⟩) (v := ?_) rfl (by kernel_rfl) (by kernel_rfl) (by kernel_rfl) (fun _ _ _ h => h) (Or.inl ⟨by rfl, ?_⟩) (by assumption) ?_; rotate_left; (focus (intro w hSw; (try dsimp only at hSw); go_simp; (try with_reducible rfl))); (try simp only [Act.put, List.setIfInBounds_toArray, List.set_cons_zero, List.set_cons_succ])
        refine wpAnyH_take (i := 6) (oi := ⟨some 43, _, _, _, _, _⟩) (v := ?_) rfl (by kernel_rfl) (by kernel_rfl) (by kernel_rfl) (fun _ _ _ h => h) (Or.inl ⟨by rfl, ?_⟩) (by assumption) ?_; rotate_left; (focus (intro w hSw; (try dsimp only at hSw); go_simp; (try with_reducible rfl))); (try simp only [Act.put, List.setIfInBounds_toArray, List.set_cons_zero, List.set_cons_succ])
        refine wpAnyH_ready (rs := [5]) (by kernel_rfl) (by simp) ?_; refine AllReadyH.cons (o := ⟨some 42, _, _, _, _, _⟩) rfl (fun K hK => ?_) AllReadyH.nil; go_simp
        go_at_call 30
        refine (HRN.out A5 c5 w8 P_8.out S_8.out).mono ?_
        rintro e w9 ⟨v4, rfl, ho4, hb4⟩
        obtain ⟨A6, c6, rfl⟩ := row_form ho4
        have P_9 := Lib.hid (P_8.out.step hb4)
        clear P_8
        have B_9 := Lib.hid (B_8.out.trans (hb4.mono B_8.out.size))
        clear B_8
        have F_9 := Lib.hid (F_8.out.step hb4)
        clear F_8
        have R_9 := Lib.hid (R_8.out.step hb4)
        clear R_8
        have S_9 := Lib.hid (S_8.out.step hb4)
        clear S_8
        have q4 := F_9.out.it
        have HP6 := Lib.hid (show PS w9 w9.heap.size A6 ps from PS.of_own ho4)
        obtain ⟨pl, hpl⟩ : ∃ pl, pl = ps.length := ⟨_, rfl⟩
        have hpn : n1 = pl := HN1.out.trans hpl.symm
        rw [← hpl]
        rw [← hpn]
        clear ho4 hpl hpn
        refine hK.out _ _ q4 (fun hHeld => ?_); clear hK K; (try simp only [Act.put, List.setIfInBounds_toArray, List.set_cons_zero, List.set_cons_succ])
        refine wpAnyH_ready (rs := [7]) (by kernel_rfl) (by simp) ?_; refine AllReadyH.cons (o := ⟨some 44, _, _, _, _, _⟩) rfl (fun K hK => ?_) AllReadyH.nil; go_simp
        go_at_call 29
        refine (laws_equalFormula A6 A1 n1 c6 c1 ps w9 HN1.out HP6.out P_9.out (by omega)).mono ?_
        rintro e w10 ⟨rfl, hb5⟩
        clear HP6
        have P_10 := Lib.hid (P_9.out.step hb5)
        clear P_9
        have B_10 := Lib.hid (B_9.out.trans (hb5.mono B_9.out.size))
        clear B_9
        have F_10 := Lib.hid (F_9.out.step hb5)
        clear F_9
        have R_10 := Lib.hid (R_9.out.step hb5)
        clear R_9
        have S_10 := Lib.hid (S_9.out.step hb5)
        clear S_9
        have q5 := F_10.out.it
        refine hK.out _ _ q5 (fun hHeld => ?_); clear hK K; (try simp only [Act.put, List.setIfInBounds_toArray, List.set_cons_zero, List.set_cons_succ])
        refine wpAnyH_take (i := 8) (oi := ⟨some 45, _, _, _, _, _⟩) (v := ?_) rfl (by kernel_rfl) (by kernel_rfl) (by kernel_rfl) (fun _ _ _ h => h) (Or.inl ⟨by rfl, ?_⟩) (by assumption) ?_; rotate_left; (focus (intro w hSw; (try dsimp only at hSw); go_simp; (try with_reducible rfl))); (try simp only [Act.put, List.setIfInBounds_toArray, List.set_cons_zero, List.set_cons_succ])
        refine wpAnyH_take (i := 9) (oi := ⟨some 2, _, _, _, _, _⟩) (v := ?_) rfl (by kernel_rfl) (by kernel_rfl) (by kernel_rfl) (fun _ _ _ h => h) (Or.inl ⟨by rfl, ?_⟩) (by assumption) ?_; rotate_left; (focus (intro w hSw; (try dsimp only at hSw); go_simp; (try with_reducible rfl))); (try simp only [Act.put, List.setIfInBounds_toArray, List.set_cons_zero, List.set_cons_succ])
        refine wpAnyH_done (by kernel_rfl) ?_ _
        go_wp2
        go_ret
        exact ⟨rfl, B_10.out⟩
end Go.Proofs.Ytnbohohoceghnaa


namespace Go.Proofs.Ytnbohohoceghnaa
set_option linter.unusedSimpArgs false
set_option linter.unusedVariables false
open Go.ChangeShapes Go.WideShapes Go.ChangeAt Go.RowKit

set_option maxRecDepth 100000 in
theorem plifted_MayRead (os : Os) (started : os.Started) (H : Type) (enc : TypeId × Value → H) :
    ReturnsInHanded {} Try.checked os 6 .any (Rows.fnMayReadSpec.pre6 enc Try.prog Try.f6 Rows.fnMayReadRow.domain false) (Rows.fnMayReadSpec.post enc Try.prog Try.f6 false true false false) := by
  refine returnsInHanded_of_change (C := Try.checked) own started (by kernel_rfl) Try.func6
    (ChangeSpec.witness6 (enc := enc) (C := Try.checked) false ⟨#[], #[.slice none 0 0], []⟩ 8 (by kernel_rfl) (by kernel_rfl) (by kernel_rfl) (by kernel_rfl)) ?_
  intro W base args ds gs before hval0 hW hcnd _
  have hval : ∀ (j : Nat) t v, Try.f6.params[j]? = some t → args[j]? = some v → Value.okWide Try.prog W .any base t v := hval0
  have hW' := hW
  obtain ⟨p, q, hA0, hV, rfl, hfz, hnd⟩ := hW
  have hA : DataW.TrodAll enc Try.prog W 0 (fun _ => true) true Try.f6.params.toList args.toList ds p := hA0
  rw [Try.params6] at hA hval
  obtain ⟨v0, vs0, d0, ds0, p0, q0, hargs, rfl, rfl, h0, r0⟩ := trodAll_cons hA
  obtain ⟨rfl, rfl, rfl⟩ := trodAll_nil r0
  obtain rfl : args = #[v0] := by cases args; simp_all
  obtain ⟨rfl, rfl⟩ := trodVars_none hV
  have k0 := h0
  have lt0 : ∀ x ∈ p0, x.block < W.heap.size := by obtain ⟨m, hm⟩ := k0; exact DataW.trod_lt m _ _ _ hm
  obtain ⟨A, n, c, bs, rfl, hn, hnc, hm, hy, hbs⟩ := open_code (hval 0 22 v0 rfl rfl) h0
  clear hA0 hval0
  refine (plaw_MayRead A n c bs W hn hnc hbs hy hm).mono fun e W' ⟨he, bel⟩ => ?_
  subst he
  exact ⟨_, rfl, _, _, _, [], _, [], hW', trodAll_mk1 (shut_bool Try.underlying4 _), (trodAll_cons_mk (Below.trod laidOut (by kernel_rfl) (of_decide_eq_true (by kernel_rfl)) k0 bel lt0) trodAll_mk0), rfl, bel.frame _, fun h => by cases h⟩

theorem pproved_MayRead : Rows.FnMayReadSaid :=
  OpenClaim.holds_of_wide 6 Try.f6 rfl rfl rfl rfl rfl rfl rfl ⟨rfl, rfl, rfl, rfl, rfl⟩ rfl rfl rfl rfl rfl (by kernel_rfl) Try.func6 (by kernel_rfl)
    (of_decide_eq_true (by kernel_rfl)) (by unfold Func.isWrapper; first | (rw [if_pos (by decide +kernel)]; kernel_rfl) | (rw [if_neg (by decide +kernel)]; exact ⟨rfl, rfl⟩))
    (fun os started H enc _ => plifted_MayRead os started H enc)
#print axioms pproved_MayRead
end Go.Proofs.Ytnbohohoceghnaa
