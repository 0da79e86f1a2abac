/- laws.FnAddCleanup returns true for all bytes, and writes nothing that was there. (Made by genpl.py.) -/
import Derived.Test.YtkfglodjnnlbkaaTLc
import Derived.Test.YtkfglodjnnlbkaaR25
import Derived.Test.YtkfglodjnnlbkaaM43
import Derived.Test.YtkfglodjnnlbkaaV33
import Derived.Test.YtkfglodjnnlbkaaJG
import Derived.Deep.RegionHeld3
import Derived.BigQuiet
import Derived.Deep.QuietTactic
import Derived.Test.YtkfglodjnnlbkaaM42

namespace Go.Proofs.Ytkfglodjnnlbkaa
set_option linter.unusedSimpArgs false
set_option linter.unusedVariables false
open Go.RowKit

theorem is_pre {w : World} {B : Nat} {A : Option Addr} {L M : List Int} (h : IS w B A (L ++ M)) : IS w B A L := fun hp => by
  obtain ⟨b, off, e, hb, hc⟩ := h (by rw [List.length_append]; omega)
  refine ⟨b, off, e, hb, fun j hj => ?_⟩
  rw [hc j (by rw [List.length_append]; omega)]
  simp [List.getD, List.getElem?_append_left hj]
theorem is_suf {w : World} {B g cap : Nat} {A : Option Addr} {L M : List Int} (h : IS w B (some ⟨g, 0, none⟩) (L ++ M)) (hc : (L ++ M).length ≤ cap) (hA : A = (if cap = L.length then some (⟨g, 0, none⟩ : Addr) else some ⟨g, L.length, none⟩)) : IS w B A M := fun hp => by
  rw [List.length_append] at hc
  rw [if_neg (by omega)] at hA
  obtain ⟨b, off, e, hb, hx⟩ := h (by rw [List.length_append]; omega)
  simp only [Option.some.injEq, Addr.mk.injEq] at e
  obtain ⟨rfl, rfl, _⟩ := e
  refine ⟨g, L.length, hA, hb, fun j hj => ?_⟩
  have := hx (L.length + j) (by rw [List.length_append]; omega)
  rw [Nat.zero_add] at this
  rw [this]
  simp [List.getD, List.getElem?_append_right]
theorem is_one (w : World) (x : Int) : IS (w.alloc (.cells #[.int .i64 x] 3)) (w.alloc (.cells #[.int .i64 x] 3)).heap.size (some ⟨w.heap.size, 0, none⟩) [x] := fun _ =>
  ⟨w.heap.size, 0, rfl, by simp, fun j hj => by
    have hj0 : j = 0 := by simp at hj; omega
    subst hj0
    have := cell_one_new w (.int .i64 x) 3 0 (.int .i64 x) rfl
    simp [Addr.add]⟩

set_option maxRecDepth 100000 in
set_option maxHeartbeats 6400000 in
theorem plaw_AddCleanup (A : Option Addr) (n c : Nat) (bs : List Int) (w : World) (hn : n = bs.length) (hnc : n ≤ c) (h : BS w w.heap.size A bs) (hy : BY bs) (hm : n ≤ 9223372036854775807) :
    Calls Try.prog 4 #[.slice A n c] w fun e w' => e = .returned (.bool true) ∧ Below w.heap.size w w' := by
  by_cases hs : 1048576 < n
  · clear hn hnc h hy
    go_enter Try.func4, Try.ntmps4
    go_wp2
    go_ret
    exact ⟨rfl, Below.refl _ _⟩
  have HC := Lib.hid (spec_DrawAddCleanup A n c bs w hn hnc h hy (by omega))
  clear hn hnc h hy
  go_enter Try.func4, Try.ntmps4
  go_wp2_with fail
  refine HC.out.mono ?_
  rintro e w1 ⟨A1, n1, c1, ds, o, ky, rfl, ho1, ho2, hky1, hky2, hp1, hn1, hn12, hnc1, hOB, hlens, hP, hb⟩
  have HN1 := Lib.hid hp1
  have HOB := Lib.hid hOB
  have HLE := Lib.hid hlens
  have P_1 := Lib.hid (hP)
  have B_1 := Lib.hid (hb)
  clear hP hp1 hb HC hOB hlens
  have HIM := Lib.hid fun (w' : World) (h : OS w' w'.heap.size A1 ds) =>  top_impl_AddCleanup ds o ky HOB.out A1 n1 c1 w' HN1.out hnc1 h
  have HSP := Lib.hid fun (w' : World) (h : OS w' w'.heap.size A1 ds) =>  top_spec_AddCleanup ds o ky HOB.out A1 n1 c1 w' HN1.out hnc1 h
  have HF := Lib.hid (add_labels (ds := ds) (o := o) (l := ky))
  have HOR := Lib.hid (addF_OB ds o ky)
  obtain ⟨R, hR⟩ : ∃ R, R = addF ds o ky := ⟨_, rfl⟩
  have HR := Lib.hid hR
  rw [← hR] at HIM HSP HOR HF
  clear hR
  obtain ⟨ov, hov⟩ : ∃ v, v = addB ds o ky := ⟨_, rfl⟩
  rw [← hov] at HIM HSP HF
  clear hov
  have hoo : (ov != ov) = false := by simp
  go_wp2_with fail
  refine (HIM.out w1 P_1.out).mono ?_
  rintro e w2 ⟨v, rfl, ho, hb⟩
  obtain ⟨A3, c3, rfl⟩ := OwO.form ho
  have hnc9 := own_ncapP ho
  have hI9 := ho.owners
  have P_2 := Lib.hid (P_1.out.step hb)
  clear P_1
  have B_2 := Lib.hid (B_1.out.trans (hb.mono B_1.out.size))
  clear B_1
  clear hb
  have hnc3 := hnc9
  obtain ⟨rl, hl2⟩ : ∃ l, l = R.length := ⟨_, rfl⟩
  have HRL := Lib.hid hl2
  rw [← hl2]
  rw [← hl2] at hnc3
  have R_2 := Lib.hid (hI9)
  clear ho hI9 hl2 hnc9
  go_wp2_with fail
  refine (HSP.out w2 P_2.out).mono ?_
  rintro e w3 ⟨v, rfl, ho, hb⟩
  obtain ⟨A4, c4, rfl⟩ := OwO.form ho
  have hnc9 := own_ncapP ho
  have hI9 := ho.owners
  have P_3 := Lib.hid (P_2.out.step hb)
  clear P_2
  have B_3 := Lib.hid (B_2.out.trans (hb.mono B_2.out.size))
  clear B_2
  have R_3 := Lib.hid (R_2.out.step hb)
  clear R_2
  clear hb
  rw [← HRL.out]
  have S_3 := Lib.hid (hI9)
  clear ho hI9 hnc9 HIM HSP
  have HEQ := Lib.hid (laws_equalOwners A3 A4 rl c3 c4 R w3 w3.heap.size (Nat.le_refl _) HRL.out R_3.out S_3.out HOR.out)
  go_wp2_with fail
  refine (HEQ.out).mono ?_
  rintro e w4 ⟨rfl, hb⟩
  have P_4 := Lib.hid (P_3.out.step hb)
  clear P_3
  have B_4 := Lib.hid (B_3.out.trans (hb.mono B_3.out.size))
  clear B_3
  have R_4 := Lib.hid (R_3.out.step hb)
  clear R_3
  have S_4 := Lib.hid (S_3.out.step hb)
  clear S_3
  clear hb
  clear HEQ
  cases ov
  · skip
    have HEQ := Lib.hid (laws_equalOwners A3 A4 rl c3 c4 R w4 w4.heap.size (Nat.le_refl _) HRL.out R_4.out S_4.out HOR.out)
    go_wp2_with fail
    refine (HEQ.out).mono ?_
    rintro e w5 ⟨rfl, hb⟩
    have P_5 := Lib.hid (P_4.out.step hb)
    clear P_4
    have B_5 := Lib.hid (B_4.out.trans (hb.mono B_4.out.size))
    clear B_4
    have R_5 := Lib.hid (R_4.out.step hb)
    clear R_4
    have S_5 := Lib.hid (S_4.out.step hb)
    clear S_4
    clear hb
    clear HEQ
    go_wp2
    go_ret
    exact ⟨ret_b (by simp), B_5.out⟩
  · obtain ⟨k, hko, hk, hv, hv2, L, r1, r2⟩ := HF.out rfl
    subst hko
    have hb1 := rerL_len ds (k : Int)
    have hb2 := rerL_len R (k : Int)
    rw [r1] at hb1
    rw [r2] at hb2
    have HLA := Lib.hid fun (w' : World) (h : OS w' w'.heap.size A1 ds) => top_impl_LabelsOf ds (k : Int) HOB.out A1 n1 c1 w' HN1.out hnc1 h
    have HLB := Lib.hid fun (w' : World) (h : OS w' w'.heap.size A3 R) => top_impl_LabelsOf R (k : Int) HOR.out A3 rl c3 w' HRL.out hnc3 h
    have HVR := Lib.hid fun (w' : World) (h : OS w' w'.heap.size A3 R) => top_impl_ValidOwners R HOR.out A3 rl c3 w' HRL.out hnc3 h
    rw [r1] at HLA
    rw [r2] at HLB
    rw [hv2] at HVR
    obtain ⟨b, off, rfl, hbB, d0, d1, ⟨A6, n6, c6, d2, hn6, i6⟩, A7, n7, c7, d3, hn7, i7⟩ := P_4.out.at_ k (by have := HN1.out; omega)
    clear d0 d1 d3 hn7 i6 i7
    have hkn : k < n1 := by have := HN1.out; omega
    have hkn2 : (k : Int) < (n1 : Int) := by omega
    have hcl : clO ds k = (ds.getD k default).cl := rfl
    rw [hcl] at HLA HLB hb1 hb2
    generalize (ds.getD k default).cl = CL at *
    obtain ⟨CR, hCR⟩ : ∃ C, C = CL.reverse := ⟨_, rfl⟩
    rw [← hCR] at HLA HLB hb1 hb2
    have hcr : n6 = CR.length := by rw [hCR, List.length_reverse]; exact hn6
    have HCR := Lib.hid hcr
    have HB1 := Lib.hid hb1
    have HB2 := Lib.hid hb2
    clear hCR hcr hcl hn6 r1 r2 hv hv2 hk hb1 hb2 HF
    have d2_4 : Hid (C1 b (off + k * 4 + 2) (.slice A6 n6 c6) w4) := ⟨hbB, d2⟩
    clear d2
    go_wp2_with fail
    refine (HLA.out w4 P_4.out).mono ?_
    rintro e w5 ⟨v, rfl, ho, hb⟩
    have P_5 := Lib.hid (P_4.out.step hb)
    clear P_4
    have B_5 := Lib.hid (B_4.out.trans (hb.mono B_4.out.size))
    clear B_4
    have R_5 := Lib.hid (R_4.out.step hb)
    clear R_4
    have S_5 := Lib.hid (S_4.out.step hb)
    clear S_4
    have d2_5 := Lib.hid (d2_4.out.step hb)
    clear d2_4
    clear hb
    clear HLA
    obtain ⟨kk, hkk⟩ : ∃ q, q = L.length := ⟨_, rfl⟩
    have HKK := Lib.hid hkk
    clear hkk
    rcases ho.2 with ⟨hv, h0⟩ | ⟨g5, cap5, cur5, hv, hg5, hgh5, hnc5, _⟩
    · subst hv
      have hx : L = [] ∧ CR = [] := List.append_eq_nil_iff.1 (List.eq_nil_of_length_eq_zero h0)
      obtain ⟨hx1, hx2⟩ := hx
      subst hx1
      subst hx2
      have hn0 : n6 = 0 := HCR.out
      have hk0 : kk = 0 := HKK.out
      subst hk0
      subst hn0
      clear h0 ho
      go_wp2_with fail
      refine (HLB.out w5 R_5.out).mono ?_
      rintro e w6 ⟨v, rfl, ho, hb⟩
      obtain ⟨A8, c8, rfl, hI8⟩ := OwnI.form ho
      have P_6 := Lib.hid (P_5.out.step hb)
      clear P_5
      have B_6 := Lib.hid (B_5.out.trans (hb.mono B_5.out.size))
      clear B_5
      have R_6 := Lib.hid (R_5.out.step hb)
      clear R_5
      have S_6 := Lib.hid (S_5.out.step hb)
      clear S_5
      have d2_6 := Lib.hid (d2_5.out.step hb)
      clear d2_5
      clear hb
      obtain ⟨bl, hbl⟩ : ∃ l, l = ([] ++ [ky] ++ [] : List Int).length := ⟨_, rfl⟩
      rw [← hbl]
      have HBL := Lib.hid hbl
      have Bb_6 := Lib.hid (hI8)
      clear hI8 ho hbl HLB
      have y2 := d2_6.out.2
      go_upto_region 11 with fail
      clear y2
      have hbl60 : bl ≤ 61 := by have h8 := HBL.out; have := HB2.out; simp at h8; omega
      refine wp_region_held_drew (S := fun _ => True) (by kernel_rfl) trivial (fun hHeld => ?_)
      refine wpAnyH_take (i := 0) (oi := ⟨some 72, _, _, _, _, _⟩) (v := ?_) rfl (by kernel_rfl) (by kernel_rfl) (by kernel_rfl) (fun _ _ _ h => h) (Or.inl ⟨by rfl, ?_⟩) (by assumption) ?_; rotate_left; (focus (intro w hSw; (try dsimp only at hSw); go_simp; (try with_reducible rfl))); (try simp only [Act.put, List.setIfInBounds_toArray, List.set_cons_zero, List.set_cons_succ])
      refine wpAnyH_ready (rs := [1]) (by kernel_rfl) (by simp) ?_; refine AllReadyH.cons (o := ⟨some 73, _, _, _, _, _⟩) rfl (fun K hK => ?_) AllReadyH.nil; go_simp
      go_at_call 13
      refine (HVR.out w6.drew R_6.out).mono ?_
      rintro e w7 ⟨rfl, hb'⟩
      have hb : Below w6.heap.size w6 w7 := below_of_drew hb'
      have P_7 := Lib.hid (P_6.out.step hb)
      clear P_6
      have B_7 := Lib.hid (B_6.out.trans (hb.mono B_6.out.size))
      clear B_6
      have R_7 := Lib.hid (R_6.out.step hb)
      clear R_6
      have S_7 := Lib.hid (S_6.out.step hb)
      clear S_6
      have d2_7 := Lib.hid (d2_6.out.step hb)
      clear d2_6
      have Bb_7 := Lib.hid (Bb_6.out.step hb)
      clear Bb_6
      clear hb hb'
      refine hK.out _ _ trivial (fun hHeld => ?_); clear hK K; (try simp only [Act.put, List.setIfInBounds_toArray, List.set_cons_zero, List.set_cons_succ])
      refine wpAnyH_take (i := 2) (oi := ⟨some 74, _, _, _, _, _⟩) (v := ?_) rfl (by kernel_rfl) (by kernel_rfl) (by kernel_rfl) (fun _ _ _ h => h) (Or.inl ⟨by rfl, ?_⟩) (by assumption) ?_; rotate_left; (focus (intro w hSw; (try dsimp only at hSw); go_simp; (try with_reducible rfl))); (try simp only [Act.put, List.setIfInBounds_toArray, List.set_cons_zero, List.set_cons_succ])
      refine wpAnyH_take (i := 3) (oi := ⟨some 75, _, _, _, _, _⟩) (v := ?_) rfl (by kernel_rfl) (by kernel_rfl) (by kernel_rfl) (fun _ _ _ h => h) (Or.inl ⟨by rfl, ?_⟩) (by assumption) ?_; rotate_left; (focus (intro w hSw; (try dsimp only at hSw); go_simp; (try with_reducible rfl))); (try simp only [Act.put, List.setIfInBounds_toArray, List.set_cons_zero, List.set_cons_succ])
      refine wpAnyH_take (i := 4) (oi := ⟨some 76, _, _, _, _, _⟩) (v := ?_) rfl (by kernel_rfl) (by kernel_rfl) (by kernel_rfl) (fun _ _ _ h => h) (Or.inl ⟨by rfl, ?_⟩) (by assumption) ?_; rotate_left; (focus (intro w hSw; (try dsimp only at hSw); go_simp; (try with_reducible rfl))); (try simp only [Act.put, List.setIfInBounds_toArray, List.set_cons_zero, List.set_cons_succ])
      refine wpAnyH_take (i := 5) (oi := ⟨some 77, _, _, _, _, _⟩) (v := ?_) rfl (by kernel_rfl) (by kernel_rfl) (by kernel_rfl) (fun _ _ _ h => h) (Or.inl ⟨by rfl, ?_⟩) (by assumption) ?_; rotate_left; (focus (intro w hSw; (try dsimp only at hSw); go_simp; (try with_reducible rfl))); (try simp only [Act.put, List.setIfInBounds_toArray, List.set_cons_zero, List.set_cons_succ])
      refine wpAnyH_take (i := 6) (oi := ⟨some 78, _, _, _, _, _⟩) (v := ?_) rfl (by kernel_rfl) (by kernel_rfl) (by kernel_rfl) (fun _ _ _ h => h) (Or.inl ⟨by rfl, ?_⟩) (by assumption) ?_; rotate_left; (focus (intro w hSw; (try dsimp only at hSw); go_simp; (try with_reducible rfl))); (try simp only [Act.put, List.setIfInBounds_toArray, List.set_cons_zero, List.set_cons_succ])
      refine wpAnyH_take (i := 7) (oi := ⟨some 79, _, _, _, _, _⟩) (v := ?_) rfl (by kernel_rfl) (by kernel_rfl) (by kernel_rfl) (fun _ _ _ h => h) (Or.inl ⟨by rfl, ?_⟩) (by assumption) ?_; rotate_left; (focus (intro w hSw; (try dsimp only at hSw); go_simp; (try with_reducible rfl))); (try simp only [Act.put, List.setIfInBounds_toArray, List.set_cons_zero, List.set_cons_succ])
      refine wpAnyH_take (i := 10) (oi := ⟨some 82, _, _, _, _, _⟩) (v := ?_) rfl (by kernel_rfl) (by kernel_rfl) (by kernel_rfl) (fun _ _ _ h => h) (Or.inl ⟨by rfl, ?_⟩) (by assumption) ?_; rotate_left; (focus (intro w hSw; (try dsimp only at hSw); go_simp; (try with_reducible rfl))); (try simp only [Act.put, List.setIfInBounds_toArray, List.set_cons_zero, List.set_cons_succ])
      refine wpAnyH_take (i := 11) (oi := ⟨some 83, _, _, _, _, _⟩) (v := ?_) rfl (by kernel_rfl) (by kernel_rfl) (by kernel_rfl) (fun _ _ _ h => h) (Or.inl ⟨by rfl, ?_⟩) (by assumption) ?_; rotate_left; (focus (intro w hSw; (try dsimp only at hSw); go_simp; (try with_reducible rfl))); (try simp only [Act.put, List.setIfInBounds_toArray, List.set_cons_zero, List.set_cons_succ])
      refine wpAnyH_take (i := 12) (oi := ⟨some 84, _, _, _, _, _⟩) (v := ?_) rfl (by kernel_rfl) (by kernel_rfl) (by kernel_rfl) (fun _ _ _ h => h) (Or.inl ⟨by rfl, ?_⟩) (by assumption) ?_; rotate_left; (focus (intro w hSw; (try dsimp only at hSw); go_simp; (try with_reducible rfl))); (try simp only [Act.put, List.setIfInBounds_toArray, List.set_cons_zero, List.set_cons_succ])
      refine wpAnyH_ready (rs := [8]) (by kernel_rfl) (by simp) ?_; refine AllReadyH.cons (o := ⟨some 80, _, _, _, _, _⟩) rfl (fun K hK => ?_) AllReadyH.nil; go_simp
      refine hK.out _ _ trivial (fun hHeld => ?_); clear hK K; (try simp only [Act.put, List.setIfInBounds_toArray, List.set_cons_zero, List.set_cons_succ])
      obtain ⟨w8, hw8⟩ : ∃ W, W = w7.alloc (.cells #[.int .i64 ky] 3) := ⟨_, rfl⟩
      have hb : Below w7.heap.size w7 w8 := by rw [hw8]; exact (Below.refl _ _).alloc (Nat.le_refl _) _
      have P_8 := Lib.hid (P_7.out.step hb)
      clear P_7
      have B_8 := Lib.hid (B_7.out.trans (hb.mono B_7.out.size))
      clear B_7
      have R_8 := Lib.hid (R_7.out.step hb)
      clear R_7
      have S_8 := Lib.hid (S_7.out.step hb)
      clear S_7
      have d2_8 := Lib.hid (d2_7.out.step hb)
      clear d2_7
      have Bb_8 := Lib.hid (Bb_7.out.step hb)
      clear Bb_7
      clear hb
      rw [← hw8]
      have hIB : IS w8 w8.heap.size (some ⟨w7.heap.size, 0, none⟩) [ky] := by rw [hw8]; exact is_one _ _
      have Lb_8 := Lib.hid (hIB)
      clear hIB hw8
      refine wpAnyH_ready (rs := [9]) (by kernel_rfl) (by simp) ?_; refine AllReadyH.cons (o := ⟨some 81, _, _, _, _, _⟩) rfl (fun K hK => ?_) AllReadyH.nil; go_simp
      go_at_call 22
      refine (laws_joinG none (some ⟨w7.heap.size, 0, none⟩) 0 0 1 1 [] [ky] w8 HKK.out (IS.nil _ _ _) (by omega) rfl Lb_8.out (by omega)).mono ?_
      rintro e w9 ⟨v10, rfl, ho, hb⟩
      obtain ⟨A10, c10, rfl, hI10⟩ := OwnI.form ho
      obtain ⟨j1, hj1⟩ : ∃ l, l = ([] ++ [ky]).length := ⟨_, rfl⟩
      rw [← hj1]
      have HJ1 := Lib.hid hj1
      have P_9 := Lib.hid (P_8.out.step hb)
      clear P_8
      have B_9 := Lib.hid (B_8.out.trans (hb.mono B_8.out.size))
      clear B_8
      have R_9 := Lib.hid (R_8.out.step hb)
      clear R_8
      have S_9 := Lib.hid (S_8.out.step hb)
      clear S_8
      have d2_9 := Lib.hid (d2_8.out.step hb)
      clear d2_8
      have Bb_9 := Lib.hid (Bb_8.out.step hb)
      clear Bb_8
      have Lb_9 := Lib.hid (Lb_8.out.step hb)
      clear Lb_8
      clear hb
      have J_9 := Lib.hid (hI10)
      have hj61 : j1 ≤ 61 := by have := HJ1.out; rw [List.length_append, List.length_singleton] at this; have := HKK.out; omega
      clear hI10 ho hj1
      refine hK.out _ _ trivial (fun hHeld => ?_); clear hK K; (try simp only [Act.put, List.setIfInBounds_toArray, List.set_cons_zero, List.set_cons_succ])
      refine wpAnyH_ready (rs := [13]) (by kernel_rfl) (by simp) ?_; refine AllReadyH.cons (o := ⟨some 85, _, _, _, _, _⟩) rfl (fun K hK => ?_) AllReadyH.nil; go_simp
      go_at_call 22
      refine (laws_joinG A10 none j1 c10 0 0 ([] ++ [ky]) [] w9 HJ1.out J_9.out (by omega) rfl (IS.nil _ _ _) (by omega)).mono ?_
      rintro e w10 ⟨v11, rfl, ho, hb⟩
      obtain ⟨A11, c11, rfl, hI11⟩ := OwnI.form ho
      rw [← HBL.out]
      have P_10 := Lib.hid (P_9.out.step hb)
      clear P_9
      have B_10 := Lib.hid (B_9.out.trans (hb.mono B_9.out.size))
      clear B_9
      have R_10 := Lib.hid (R_9.out.step hb)
      clear R_9
      have S_10 := Lib.hid (S_9.out.step hb)
      clear S_9
      have d2_10 := Lib.hid (d2_9.out.step hb)
      clear d2_9
      have Bb_10 := Lib.hid (Bb_9.out.step hb)
      clear Bb_9
      have Lb_10 := Lib.hid (Lb_9.out.step hb)
      clear Lb_9
      have J_10 := Lib.hid (J_9.out.step hb)
      clear J_9
      clear hb
      have J2_10 := Lib.hid (hI11)
      clear hI11 ho
      refine hK.out _ _ trivial (fun hHeld => ?_); clear hK K; (try simp only [Act.put, List.setIfInBounds_toArray, List.set_cons_zero, List.set_cons_succ])
      refine wpAnyH_ready (rs := [14]) (by kernel_rfl) (by simp) ?_; refine AllReadyH.cons (o := ⟨some 86, _, _, _, _, _⟩) rfl (fun K hK => ?_) AllReadyH.nil; go_simp
      go_at_call 21
      refine (eq_g A8 A11 bl c8 c11 _ w10 HBL.out Bb_10.out J2_10.out (by omega)).mono ?_
      rintro e w11 ⟨rfl, hb⟩
      have P_11 := Lib.hid (P_10.out.step hb)
      clear P_10
      have B_11 := Lib.hid (B_10.out.trans (hb.mono B_10.out.size))
      clear B_10
      have R_11 := Lib.hid (R_10.out.step hb)
      clear R_10
      have S_11 := Lib.hid (S_10.out.step hb)
      clear S_10
      have d2_11 := Lib.hid (d2_10.out.step hb)
      clear d2_10
      have Bb_11 := Lib.hid (Bb_10.out.step hb)
      clear Bb_10
      have Lb_11 := Lib.hid (Lb_10.out.step hb)
      clear Lb_10
      have J_11 := Lib.hid (J_10.out.step hb)
      clear J_10
      have J2_11 := Lib.hid (J2_10.out.step hb)
      clear J2_10
      clear hb
      refine hK.out _ _ trivial (fun hHeld => ?_); clear hK K; (try simp only [Act.put, List.setIfInBounds_toArray, List.set_cons_zero, List.set_cons_succ])
      refine wpAnyH_take (i := 15) (oi := ⟨some 87, _, _, _, _, _⟩) (v := ?_) rfl (by kernel_rfl) (by kernel_rfl) (by kernel_rfl) (fun _ _ _ h => h) (Or.inl ⟨by rfl, ?_⟩) (by assumption) ?_; rotate_left; (focus (intro w hSw; (try dsimp only at hSw); go_simp; (try with_reducible rfl))); (try simp only [Act.put, List.setIfInBounds_toArray, List.set_cons_zero, List.set_cons_succ])
      refine wpAnyH_take (i := 16) (oi := ⟨some 2, _, _, _, _, _⟩) (v := ?_) rfl (by kernel_rfl) (by kernel_rfl) (by kernel_rfl) (fun _ _ _ h => h) (Or.inl ⟨by rfl, ?_⟩) (by assumption) ?_; rotate_left; (focus (intro w hSw; (try dsimp only at hSw); go_simp; (try with_reducible rfl))); (try simp only [Act.put, List.setIfInBounds_toArray, List.set_cons_zero, List.set_cons_succ])
      refine wpAnyH_done (by kernel_rfl) ?_ _
      go_wp2
      go_ret
      exact ⟨ret_b (by first | rfl | simp), B_11.out⟩
    · subst hv
      obtain ⟨al, hal⟩ : ∃ l, l = (L ++ CR).length := ⟨_, rfl⟩
      rw [← hal] at hnc5
      rw [← hal]
      have hI5 : IS w5 w5.heap.size (some ⟨g5, 0, none⟩) (L ++ CR) := by
        have h9 := OwnI.form ho
        obtain ⟨A9, c9, e9, h9⟩ := h9
        simp only [Value.slice.injEq] at e9
        obtain ⟨e9, _⟩ := e9
        rw [e9]; exact h9
      have hsum : al = kk + n6 := by rw [hal, List.length_append, ← HKK.out, ← HCR.out]
      obtain ⟨A9, hA9⟩ : ∃ A, A = (if cap5 = kk then some (⟨g5, 0, none⟩ : Addr) else some ⟨g5, kk, none⟩) := ⟨_, rfl⟩
      have hIP : IS w5 w5.heap.size (some ⟨g5, 0, none⟩) L := is_pre hI5
      have hIS : IS w5 w5.heap.size A9 CR := is_suf hI5 (by rw [← hal]; exact hnc5) (by rw [← HKK.out]; exact hA9)
      have X_5 := Lib.hid (hIP)
      have Y_5 := Lib.hid (hIS)
      have hif : (if cap5 = kk then some (⟨g5, 0, none⟩ : Addr) else some ⟨g5, kk, none⟩) = A9 := hA9.symm
      have hal60 : al ≤ 60 := by rw [hal]; exact HB1.out
      have hkc : kk ≤ cap5 := by omega
      have hka : kk ≤ al := by omega
      have hwk : IntKind.i64.wrap ((al : Int) - (n6 : Int)) = (kk : Int) := by rw [IntKind.wrap_i64]; omega
      have hkc2 : (kk : Int) ≤ (cap5 : Int) := by omega
      have hka2 : (kk : Int) ≤ (al : Int) := by omega
      have HSUM : Hid (al - kk = n6) := by show _ = _; omega
      have hac2 : (al : Int) ≤ (cap5 : Int) := by omega
      clear hI5 hIP hIS hA9 hal ho hg5 hgh5 hsum
      go_wp2_with fail
      refine (HLB.out w5 R_5.out).mono ?_
      rintro e w6 ⟨v, rfl, ho, hb⟩
      obtain ⟨A8, c8, rfl, hI8⟩ := OwnI.form ho
      have P_6 := Lib.hid (P_5.out.step hb)
      clear P_5
      have B_6 := Lib.hid (B_5.out.trans (hb.mono B_5.out.size))
      clear B_5
      have R_6 := Lib.hid (R_5.out.step hb)
      clear R_5
      have S_6 := Lib.hid (S_5.out.step hb)
      clear S_5
      have d2_6 := Lib.hid (d2_5.out.step hb)
      clear d2_5
      have X_6 := Lib.hid (X_5.out.step hb)
      clear X_5
      have Y_6 := Lib.hid (Y_5.out.step hb)
      clear Y_5
      clear hb
      obtain ⟨bl, hbl⟩ : ∃ l, l = (L ++ [ky] ++ CR).length := ⟨_, rfl⟩
      rw [← hbl]
      have HBL := Lib.hid hbl
      have Bb_6 := Lib.hid (hI8)
      clear hI8 ho hbl HLB
      have y2 := d2_6.out.2
      go_upto_region 11 with fail
      clear y2
      have hbl60 : bl ≤ 61 := by have h8 := HBL.out; have := HB2.out; omega
      refine wp_region_held_drew (S := fun _ => True) (by kernel_rfl) trivial (fun hHeld => ?_)
      refine wpAnyH_take (i := 0) (oi := ⟨some 72, _, _, _, _, _⟩) (v := ?_) rfl (by kernel_rfl) (by kernel_rfl) (by kernel_rfl) (fun _ _ _ h => h) (Or.inl ⟨by rfl, ?_⟩) (by assumption) ?_; rotate_left; (focus (intro w hSw; (try dsimp only at hSw); go_simp; (try with_reducible rfl))); (try simp only [Act.put, List.setIfInBounds_toArray, List.set_cons_zero, List.set_cons_succ])
      refine wpAnyH_ready (rs := [1]) (by kernel_rfl) (by simp) ?_; refine AllReadyH.cons (o := ⟨some 73, _, _, _, _, _⟩) rfl (fun K hK => ?_) AllReadyH.nil; go_simp
      go_at_call 13
      refine (HVR.out w6.drew R_6.out).mono ?_
      rintro e w7 ⟨rfl, hb'⟩
      have hb : Below w6.heap.size w6 w7 := below_of_drew hb'
      have P_7 := Lib.hid (P_6.out.step hb)
      clear P_6
      have B_7 := Lib.hid (B_6.out.trans (hb.mono B_6.out.size))
      clear B_6
      have R_7 := Lib.hid (R_6.out.step hb)
      clear R_6
      have S_7 := Lib.hid (S_6.out.step hb)
      clear S_6
      have d2_7 := Lib.hid (d2_6.out.step hb)
      clear d2_6
      have X_7 := Lib.hid (X_6.out.step hb)
      clear X_6
      have Y_7 := Lib.hid (Y_6.out.step hb)
      clear Y_6
      have Bb_7 := Lib.hid (Bb_6.out.step hb)
      clear Bb_6
      clear hb hb'
      refine hK.out _ _ trivial (fun hHeld => ?_); clear hK K; (try simp only [Act.put, List.setIfInBounds_toArray, List.set_cons_zero, List.set_cons_succ])
      refine wpAnyH_take (i := 2) (oi := ⟨some 74, _, _, _, _, _⟩) (v := ?_) rfl (by kernel_rfl) (by kernel_rfl) (by kernel_rfl) (fun _ _ _ h => h) (Or.inl ⟨by rfl, ?_⟩) (by assumption) ?_; rotate_left; (focus (intro w hSw; (try dsimp only at hSw); go_simp; (try with_reducible rfl))); (try simp only [Act.put, List.setIfInBounds_toArray, List.set_cons_zero, List.set_cons_succ])
      refine wpAnyH_take (i := 3) (oi := ⟨some 75, _, _, _, _, _⟩) (v := ?_) rfl (by kernel_rfl) (by kernel_rfl) (by kernel_rfl) (fun _ _ _ h => h) (Or.inl ⟨by rfl, ?_⟩) (by assumption) ?_; rotate_left; (focus (intro w hSw; (try dsimp only at hSw); go_simp; (try with_reducible rfl))); (try simp only [Act.put, List.setIfInBounds_toArray, List.set_cons_zero, List.set_cons_succ])
      refine wpAnyH_take (i := 4) (oi := ⟨some 76, _, _, _, _, _⟩) (v := ?_) rfl (by kernel_rfl) (by kernel_rfl) (by kernel_rfl) (fun _ _ _ h => h) (Or.inl ⟨by rfl, ?_⟩) (by assumption) ?_; rotate_left; (focus (intro w hSw; (try dsimp only at hSw); go_simp; (try with_reducible rfl))); (try simp only [Act.put, List.setIfInBounds_toArray, List.set_cons_zero, List.set_cons_succ])
      refine wpAnyH_take (i := 5) (oi := ⟨some 77, _, _, _, _, _⟩) (v := ?_) rfl (by kernel_rfl) (by kernel_rfl) (by kernel_rfl) (fun _ _ _ h => h) (Or.inl ⟨by rfl, ?_⟩) (by assumption) ?_; rotate_left; (focus (intro w hSw; (try dsimp only at hSw); go_simp; (try with_reducible rfl))); (try simp only [Act.put, List.setIfInBounds_toArray, List.set_cons_zero, List.set_cons_succ])
      refine wpAnyH_take (i := 6) (oi := ⟨some 78, _, _, _, _, _⟩) (v := ?_) rfl (by kernel_rfl) (by kernel_rfl) (by kernel_rfl) (fun _ _ _ h => h) (Or.inl ⟨by rfl, ?_⟩) (by assumption) ?_; rotate_left; (focus (intro w hSw; (try dsimp only at hSw); go_simp; (try with_reducible rfl))); (try simp only [Act.put, List.setIfInBounds_toArray, List.set_cons_zero, List.set_cons_succ])
      refine wpAnyH_take (i := 7) (oi := ⟨some 79, _, _, _, _, _⟩) (v := ?_) rfl (by kernel_rfl) (by kernel_rfl) (by kernel_rfl) (fun _ _ _ h => h) (Or.inl ⟨by rfl, ?_⟩) (by assumption) ?_; rotate_left; (focus (intro w hSw; (try dsimp only at hSw); go_simp; (try with_reducible rfl))); (try simp only [Act.put, List.setIfInBounds_toArray, List.set_cons_zero, List.set_cons_succ])
      refine wpAnyH_take (i := 10) (oi := ⟨some 82, _, _, _, _, _⟩) (v := ?_) rfl (by kernel_rfl) (by kernel_rfl) (by kernel_rfl) (fun _ _ _ h => h) (Or.inl ⟨by rfl, ?_⟩) (by assumption) ?_; rotate_left; (focus (intro w hSw; (try dsimp only at hSw); go_simp; (try with_reducible rfl))); (try simp only [Act.put, List.setIfInBounds_toArray, List.set_cons_zero, List.set_cons_succ])
      refine wpAnyH_take (i := 11) (oi := ⟨some 83, _, _, _, _, _⟩) (v := ?_) rfl (by kernel_rfl) (by kernel_rfl) (by kernel_rfl) (fun _ _ _ h => h) (Or.inl ⟨by rfl, ?_⟩) (by assumption) ?_; rotate_left; (focus (intro w hSw; (try dsimp only at hSw); go_simp; (try with_reducible rfl))); (try simp only [Act.put, List.setIfInBounds_toArray, List.set_cons_zero, List.set_cons_succ])
      refine wpAnyH_take (i := 12) (oi := ⟨some 84, _, _, _, _, _⟩) (v := ?_) rfl (by kernel_rfl) (by kernel_rfl) (by kernel_rfl) (fun _ _ _ h => h) (Or.inl ⟨by rfl, ?_⟩) (by assumption) ?_; rotate_left; (focus (intro w hSw; (try dsimp only at hSw); go_simp; (try with_reducible rfl))); (try simp only [Act.put, List.setIfInBounds_toArray, List.set_cons_zero, List.set_cons_succ])
      refine wpAnyH_ready (rs := [8]) (by kernel_rfl) (by simp) ?_; refine AllReadyH.cons (o := ⟨some 80, _, _, _, _, _⟩) rfl (fun K hK => ?_) AllReadyH.nil; go_simp
      refine hK.out _ _ trivial (fun hHeld => ?_); clear hK K; (try simp only [Act.put, List.setIfInBounds_toArray, List.set_cons_zero, List.set_cons_succ])
      obtain ⟨w8, hw8⟩ : ∃ W, W = w7.alloc (.cells #[.int .i64 ky] 3) := ⟨_, rfl⟩
      have hb : Below w7.heap.size w7 w8 := by rw [hw8]; exact (Below.refl _ _).alloc (Nat.le_refl _) _
      have P_8 := Lib.hid (P_7.out.step hb)
      clear P_7
      have B_8 := Lib.hid (B_7.out.trans (hb.mono B_7.out.size))
      clear B_7
      have R_8 := Lib.hid (R_7.out.step hb)
      clear R_7
      have S_8 := Lib.hid (S_7.out.step hb)
      clear S_7
      have d2_8 := Lib.hid (d2_7.out.step hb)
      clear d2_7
      have X_8 := Lib.hid (X_7.out.step hb)
      clear X_7
      have Y_8 := Lib.hid (Y_7.out.step hb)
      clear Y_7
      have Bb_8 := Lib.hid (Bb_7.out.step hb)
      clear Bb_7
      clear hb
      rw [← hw8]
      have hIB : IS w8 w8.heap.size (some ⟨w7.heap.size, 0, none⟩) [ky] := by rw [hw8]; exact is_one _ _
      have Lb_8 := Lib.hid (hIB)
      clear hIB hw8
      refine wpAnyH_ready (rs := [9]) (by kernel_rfl) (by simp) ?_; refine AllReadyH.cons (o := ⟨some 81, _, _, _, _, _⟩) rfl (fun K hK => ?_) AllReadyH.nil; go_simp
      go_at_call 22
      refine (laws_joinG (some ⟨g5, 0, none⟩) (some ⟨w7.heap.size, 0, none⟩) kk cap5 1 1 L [ky] w8 HKK.out X_8.out (by omega) rfl Lb_8.out (by omega)).mono ?_
      rintro e w9 ⟨v10, rfl, ho, hb⟩
      obtain ⟨A10, c10, rfl, hI10⟩ := OwnI.form ho
      obtain ⟨j1, hj1⟩ : ∃ l, l = (L ++ [ky]).length := ⟨_, rfl⟩
      rw [← hj1]
      have HJ1 := Lib.hid hj1
      have P_9 := Lib.hid (P_8.out.step hb)
      clear P_8
      have B_9 := Lib.hid (B_8.out.trans (hb.mono B_8.out.size))
      clear B_8
      have R_9 := Lib.hid (R_8.out.step hb)
      clear R_8
      have S_9 := Lib.hid (S_8.out.step hb)
      clear S_8
      have d2_9 := Lib.hid (d2_8.out.step hb)
      clear d2_8
      have X_9 := Lib.hid (X_8.out.step hb)
      clear X_8
      have Y_9 := Lib.hid (Y_8.out.step hb)
      clear Y_8
      have Bb_9 := Lib.hid (Bb_8.out.step hb)
      clear Bb_8
      have Lb_9 := Lib.hid (Lb_8.out.step hb)
      clear Lb_8
      clear hb
      have J_9 := Lib.hid (hI10)
      have hj61 : j1 ≤ 61 := by have := HJ1.out; rw [List.length_append, List.length_singleton] at this; have := HKK.out; omega
      clear hI10 ho hj1
      refine hK.out _ _ trivial (fun hHeld => ?_); clear hK K; (try simp only [Act.put, List.setIfInBounds_toArray, List.set_cons_zero, List.set_cons_succ])
      refine wpAnyH_ready (rs := [13]) (by kernel_rfl) (by simp) ?_; refine AllReadyH.cons (o := ⟨some 85, _, _, _, _, _⟩) rfl (fun K hK => ?_) AllReadyH.nil; go_simp
      go_at_call 22
      refine (laws_joinG A10 A9 j1 c10 _ _ (L ++ [ky]) CR w9 HJ1.out J_9.out (by omega) (HSUM.out.trans HCR.out) Y_9.out (by omega)).mono ?_
      rintro e w10 ⟨v11, rfl, ho, hb⟩
      obtain ⟨A11, c11, rfl, hI11⟩ := OwnI.form ho
      rw [← HBL.out]
      have P_10 := Lib.hid (P_9.out.step hb)
      clear P_9
      have B_10 := Lib.hid (B_9.out.trans (hb.mono B_9.out.size))
      clear B_9
      have R_10 := Lib.hid (R_9.out.step hb)
      clear R_9
      have S_10 := Lib.hid (S_9.out.step hb)
      clear S_9
      have d2_10 := Lib.hid (d2_9.out.step hb)
      clear d2_9
      have X_10 := Lib.hid (X_9.out.step hb)
      clear X_9
      have Y_10 := Lib.hid (Y_9.out.step hb)
      clear Y_9
      have Bb_10 := Lib.hid (Bb_9.out.step hb)
      clear Bb_9
      have Lb_10 := Lib.hid (Lb_9.out.step hb)
      clear Lb_9
      have J_10 := Lib.hid (J_9.out.step hb)
      clear J_9
      clear hb
      have J2_10 := Lib.hid (hI11)
      clear hI11 ho
      refine hK.out _ _ trivial (fun hHeld => ?_); clear hK K; (try simp only [Act.put, List.setIfInBounds_toArray, List.set_cons_zero, List.set_cons_succ])
      refine wpAnyH_ready (rs := [14]) (by kernel_rfl) (by simp) ?_; refine AllReadyH.cons (o := ⟨some 86, _, _, _, _, _⟩) rfl (fun K hK => ?_) AllReadyH.nil; go_simp
      go_at_call 21
      refine (eq_g A8 A11 bl c8 c11 _ w10 HBL.out Bb_10.out J2_10.out (by omega)).mono ?_
      rintro e w11 ⟨rfl, hb⟩
      have P_11 := Lib.hid (P_10.out.step hb)
      clear P_10
      have B_11 := Lib.hid (B_10.out.trans (hb.mono B_10.out.size))
      clear B_10
      have R_11 := Lib.hid (R_10.out.step hb)
      clear R_10
      have S_11 := Lib.hid (S_10.out.step hb)
      clear S_10
      have d2_11 := Lib.hid (d2_10.out.step hb)
      clear d2_10
      have X_11 := Lib.hid (X_10.out.step hb)
      clear X_10
      have Y_11 := Lib.hid (Y_10.out.step hb)
      clear Y_10
      have Bb_11 := Lib.hid (Bb_10.out.step hb)
      clear Bb_10
      have Lb_11 := Lib.hid (Lb_10.out.step hb)
      clear Lb_10
      have J_11 := Lib.hid (J_10.out.step hb)
      clear J_10
      have J2_11 := Lib.hid (J2_10.out.step hb)
      clear J2_10
      clear hb
      refine hK.out _ _ trivial (fun hHeld => ?_); clear hK K; (try simp only [Act.put, List.setIfInBounds_toArray, List.set_cons_zero, List.set_cons_succ])
      refine wpAnyH_take (i := 15) (oi := ⟨some 87, _, _, _, _, _⟩) (v := ?_) rfl (by kernel_rfl) (by kernel_rfl) (by kernel_rfl) (fun _ _ _ h => h) (Or.inl ⟨by rfl, ?_⟩) (by assumption) ?_; rotate_left; (focus (intro w hSw; (try dsimp only at hSw); go_simp; (try with_reducible rfl))); (try simp only [Act.put, List.setIfInBounds_toArray, List.set_cons_zero, List.set_cons_succ])
      refine wpAnyH_take (i := 16) (oi := ⟨some 2, _, _, _, _, _⟩) (v := ?_) rfl (by kernel_rfl) (by kernel_rfl) (by kernel_rfl) (fun _ _ _ h => h) (Or.inl ⟨by rfl, ?_⟩) (by assumption) ?_; rotate_left; (focus (intro w hSw; (try dsimp only at hSw); go_simp; (try with_reducible rfl))); (try simp only [Act.put, List.setIfInBounds_toArray, List.set_cons_zero, List.set_cons_succ])
      refine wpAnyH_done (by kernel_rfl) ?_ _
      go_wp2
      go_ret
      exact ⟨ret_b (by first | rfl | simp), B_11.out⟩
end Go.Proofs.Ytkfglodjnnlbkaa
