/- laws.FnOpenUnder returns true for all bytes, and writes nothing that was there. (Made by genpl.py.) -/
import Derived.Test.YtjhpknnhgbdkiaaR24
import Derived.Test.YtjhpknnhgbdkiaaP14a
import Derived.Test.YtjhpknnhgbdkiaaM38
import Derived.Deep.RegionHeld3
import Derived.BigQuiet
import Derived.Deep.QuietTactic
import Derived.Test.YtjhpknnhgbdkiaaM39

namespace Go.Proofs.Ytjhpknnhgbdkiaa
set_option linter.unusedSimpArgs false
set_option linter.unusedVariables false
open Go.RowKit

theorem is_tail {w : World} {b off : Nat} {x : Int} {U : List Int} (hb : b < w.heap.size) (h : ∀ j, j < (x :: U).length → w.cell? ⟨b, off + j, none⟩ = some (.int .i64 ((x :: U).getD j 0))) : IS w w.heap.size (some ⟨b, off + 1, none⟩) U := fun _ =>
  ⟨b, off + 1, rfl, hb, fun j hj => by
    have := h (j + 1) (by simp; omega)
    rw [List.getD_cons_succ] at this
    rw [← this, show off + 1 + j = off + (j + 1) by omega]⟩
theorem eq_g (A A' : Option Addr) (n c c' : Nat) (a : List Int) (w : World) (hn : n = a.length) (h : IS w w.heap.size A a) (h' : IS w w.heap.size A' a) (hs : n ≤ 2000000) :
    Calls Try.prog 11 #[.slice A n c, .slice A' n c'] w fun e w' => e = .returned (.bool true) ∧ Below w.heap.size w w' := by
  have := laws_equalInts A A' n n c c' a a w w.heap.size (Nat.le_refl _) hn hn h h' hs hs
  rw [show decide (a = a) = true from decide_eq_true rfl] at this
  exact this

set_option maxRecDepth 100000 in
set_option maxHeartbeats 6400000 in
theorem plaw_OpenUnder (A : Option Addr) (n c : Nat) (bs : List Int) (w : World) (hn : n = bs.length) (hnc : n ≤ c) (h : BS w w.heap.size A bs) (hy : BY bs) (hm : n ≤ 9223372036854775807) :
    Calls Try.prog 7 #[.slice A n c] w fun e w' => e = .returned (.bool true) ∧ Below w.heap.size w w' := by
  by_cases hs : 1048576 < n
  · clear hn hnc h hy
    go_enter Try.func7, Try.ntmps7
    go_wp2
    go_ret
    exact ⟨rfl, Below.refl _ _⟩
  have HC := Lib.hid (spec_DrawOpenUnder A n c bs w hn hnc h hy (by omega))
  clear hn hnc h hy
  go_enter Try.func7, Try.ntmps7
  go_wp2_with fail
  refine HC.out.mono ?_
  rintro e w1 ⟨A1, n1, c1, ds, o, rfl, ho1, ho2, hp1, hn1, hn12, hnc1, hOB, hlens, hP, hb⟩
  have HN1 := Lib.hid hp1
  have HOB := Lib.hid hOB
  have HLE := Lib.hid hlens
  have P_1 := Lib.hid (hP)
  have B_1 := Lib.hid (hb)
  clear hP hp1 hb HC hOB hlens
  have HIM := Lib.hid fun (w' : World) (h : OS w' w'.heap.size A1 ds) =>  top_impl_OpenUnder ds o HOB.out A1 n1 c1 w' HN1.out hnc1 h
  have HSP := Lib.hid fun (w' : World) (h : OS w' w'.heap.size A1 ds) =>  top_spec_OpenUnder ds o HOB.out A1 n1 c1 w' HN1.out hnc1 h
  have HF := Lib.hid (open_facts (ds := ds) (o := o))
  have hor : OB (openF ds o) := by
    unfold openF
    split
    case isTrue h => exact OB.small ((validO_iff _).1 (valid_open h).2).2.1 (fun j => by have := (valid_bounds (valid_open h).2).2 j; omega)
    case isFalse => exact OB.small (by simp) fun j => by simp [List.getD]; exact ⟨Nat.zero_le _, Nat.zero_le _⟩
  have HOR := Lib.hid hor
  clear hor
  obtain ⟨R, hR⟩ : ∃ R, R = openF ds o := ⟨_, rfl⟩
  have HR := Lib.hid hR
  rw [← hR] at HIM HSP HOR
  clear hR
  obtain ⟨ov, hov⟩ : ∃ v, v = openB ds o := ⟨_, rfl⟩
  rw [← hov] at HIM HSP HF
  clear hov
  have hoo : (ov != ov) = false := by simp
  go_wp2_with fail
  refine (HIM.out w1 P_1.out).mono ?_
  rintro e w2 ⟨v, rfl, ho, hb⟩
  obtain ⟨A3, c3, rfl⟩ := OwO.form ho
  have hnc9 := own_ncapP ho
  have hI9 := ho.owners
  have P_2 := Lib.hid (P_1.out.step hb)
  clear P_1
  have B_2 := Lib.hid (B_1.out.trans (hb.mono B_1.out.size))
  clear B_1
  clear hb
  have hnc3 := hnc9
  obtain ⟨rl, hl2⟩ : ∃ l, l = R.length := ⟨_, rfl⟩
  have HRL := Lib.hid hl2
  rw [← hl2]
  rw [← hl2] at hnc3
  have R_2 := Lib.hid (hI9)
  clear ho hI9 hl2 hnc9
  go_wp2_with fail
  refine (HSP.out w2 P_2.out).mono ?_
  rintro e w3 ⟨v, rfl, ho, hb⟩
  obtain ⟨A4, c4, rfl⟩ := OwO.form ho
  have hnc9 := own_ncapP ho
  have hI9 := ho.owners
  have P_3 := Lib.hid (P_2.out.step hb)
  clear P_2
  have B_3 := Lib.hid (B_2.out.trans (hb.mono B_2.out.size))
  clear B_2
  have R_3 := Lib.hid (R_2.out.step hb)
  clear R_2
  clear hb
  rw [← HRL.out]
  have S_3 := Lib.hid (hI9)
  clear ho hI9 hnc9 HIM HSP
  have HEQ := Lib.hid (laws_equalOwners A3 A4 rl c3 c4 R w3 w3.heap.size (Nat.le_refl _) HRL.out R_3.out S_3.out HOR.out)
  go_wp2_with fail
  refine (HEQ.out).mono ?_
  rintro e w4 ⟨rfl, hb⟩
  have P_4 := Lib.hid (P_3.out.step hb)
  clear P_3
  have B_4 := Lib.hid (B_3.out.trans (hb.mono B_3.out.size))
  clear B_3
  have R_4 := Lib.hid (R_3.out.step hb)
  clear R_3
  have S_4 := Lib.hid (S_3.out.step hb)
  clear S_3
  clear hb
  clear HEQ
  cases ov
  · skip
    have HEQ := Lib.hid (laws_equalOwners A3 A4 rl c3 c4 R w4 w4.heap.size (Nat.le_refl _) HRL.out R_4.out S_4.out HOR.out)
    go_wp2_with fail
    refine (HEQ.out).mono ?_
    rintro e w5 ⟨rfl, hb⟩
    have P_5 := Lib.hid (P_4.out.step hb)
    clear P_4
    have B_5 := Lib.hid (B_4.out.trans (hb.mono B_4.out.size))
    clear B_4
    have R_5 := Lib.hid (R_4.out.step hb)
    clear R_4
    have S_5 := Lib.hid (S_4.out.step hb)
    clear S_4
    clear hb
    clear HEQ
    go_wp2
    go_ret
    exact ⟨ret_b (by simp), B_5.out⟩
  · obtain ⟨f1, f2, f3, f4, f5, f6, f7, f8⟩ := HF.out rfl
    rw [← f1, ← HR.out] at f2 f4 f5 f6 f7
    rw [← HN1.out] at f5 f6 f7
    have HF6 := Lib.hid f6
    have HF7 := Lib.hid f7
    have HVR := Lib.hid f2
    have hal := aboveF_len ds o
    have hkl := kidsF_len R o
    have HKI := Lib.hid fun (w' : World) (h : OS w' w'.heap.size A3 R) => top_impl_KidsOf R o HOR.out A3 rl c3 w' HRL.out hnc3 h
    generalize kidsF R o = KD at *
    have HF5 := Lib.hid f5
    have hk1 := f4
    have ha1 := f8
    clear f1 f2 f4 f5 f6 f7 f8 HF HR
    go_wp2_with fail
    refine (HKI.out w4 R_4.out).mono ?_
    rintro e w5 ⟨v, rfl, ho, hb⟩
    have P_5 := Lib.hid (P_4.out.step hb)
    clear P_4
    have B_5 := Lib.hid (B_4.out.trans (hb.mono B_4.out.size))
    clear B_4
    have R_5 := Lib.hid (R_4.out.step hb)
    clear R_4
    have S_5 := Lib.hid (S_4.out.step hb)
    clear S_4
    clear hb
    obtain ⟨A5, c5, rfl, hI9⟩ := OwnI.form ho
    obtain ⟨kl, hl2⟩ : ∃ l, l = KD.length := ⟨_, rfl⟩
    have HKL := Lib.hid hl2
    rw [← hl2]
    have K_5 := Lib.hid (hI9)
    clear ho hI9 hl2
    rw [← HKL.out] at hkl hk1
    clear HKI
    go_wp2
    go_loopw [11] (fun u wr => ∃ k : Nat, k ≤ 3 ∧ u = .int .i64 k ∧ Hid (Below w5.heap.size w5 wr) ∧ w5.heap.size ≤ wr.heap.size) (fun u _ => 3 - (intOf u).toNat)
    case atStart => exact ⟨0, Nat.zero_le _, rfl, Below.refl _ _, Nat.le_refl _⟩
    case round =>
      obtain ⟨k, hk, rfl, HB, hwr⟩ := hrel
      obtain ⟨w6, hwK⟩ : ∃ W, W = wr := ⟨_, rfl⟩
      rw [← hwK]
      rw [← hwK] at HB hwr
      clear hwK
      have P_6 := Lib.hid (P_5.out.step HB.out)
      have B_6 := Lib.hid (B_5.out.trans (HB.out.mono B_5.out.size))
      have R_6 := Lib.hid (R_5.out.step HB.out)
      have S_6 := Lib.hid (S_5.out.step HB.out)
      have K_6 := Lib.hid (K_5.out.step HB.out)
      have BK_6 := HB
      clear HB
      by_cases hlt : k < 3
      · have hk3 : (k : Int) < 3 := by omega
        have HL1 := Lib.hid fun (w' : World) (h : OS w' w'.heap.size A3 R) => top_impl_LookUp R (n1 : Int) (k : Int) HOR.out A3 rl c3 w' HRL.out hnc3 h
        have HL2 := Lib.hid fun (w' : World) (h : OS w' w'.heap.size A1 ds) => top_impl_LookUp ds o (k : Int) HOB.out A1 n1 c1 w' HN1.out hnc1 h
        rw [HF6.out k hlt] at HL1
        generalize (lookO ds o (k : Int)).getD 0 = gv at *
        generalize (lookO ds o (k : Int)).isSome = sv at *
        have hgg : (gv != gv) = false := by simp
        have hss : (sv != sv) = false := by simp
        go_wp2_with fail
        refine (HL1.out w6 R_6.out).mono ?_
        rintro e w7 ⟨rfl, hb⟩
        have P_7 := Lib.hid (P_6.out.step hb)
        clear P_6
        have B_7 := Lib.hid (B_6.out.trans (hb.mono B_6.out.size))
        clear B_6
        have R_7 := Lib.hid (R_6.out.step hb)
        clear R_6
        have S_7 := Lib.hid (S_6.out.step hb)
        clear S_6
        have K_7 := Lib.hid (K_6.out.step hb)
        clear K_6
        have BK_7 := Lib.hid (BK_6.out.trans (hb.mono BK_6.out.size))
        clear BK_6
        clear hb
        go_wp2_with fail
        refine (HL2.out w7 P_7.out).mono ?_
        rintro e w8 ⟨rfl, hb⟩
        have P_8 := Lib.hid (P_7.out.step hb)
        clear P_7
        have B_8 := Lib.hid (B_7.out.trans (hb.mono B_7.out.size))
        clear B_7
        have R_8 := Lib.hid (R_7.out.step hb)
        clear R_7
        have S_8 := Lib.hid (S_7.out.step hb)
        clear S_7
        have K_8 := Lib.hid (K_7.out.step hb)
        clear K_7
        have BK_8 := Lib.hid (BK_7.out.trans (hb.mono BK_7.out.size))
        clear BK_7
        clear hb
        go_wp2
        go_roundw
        case rel => exact ⟨k + 1, by omega, by go_num, BK_8.out, BK_8.out.size⟩
        case measure => simp [intOf]; omega
      · obtain rfl : k = 3 := by omega
        have HVO := Lib.hid fun (w' : World) (h : OS w' w'.heap.size A3 R) => top_impl_ValidOwners R HOR.out A3 rl c3 w' HRL.out hnc3 h
        rw [HVR.out] at HVO
        have HA1 := Lib.hid fun (w' : World) (h : OS w' w'.heap.size A3 R) => top_impl_AboveOf R (n1 : Int) HOR.out A3 rl c3 w' HRL.out hnc3 h
        have HA2 := Lib.hid fun (w' : World) (h : OS w' w'.heap.size A1 ds) => top_impl_AboveOf ds o HOB.out A1 n1 c1 w' HN1.out hnc1 h
        rw [HF7.out] at HA1
        generalize aboveF ds o = U at *
        obtain ⟨b3, o3, hA3, hb3, x3⟩ := K_6.out (by have := HKL.out; omega)
        subst hA3
        have x4 := x3 (kl - 1) (by have := HKL.out; omega)
        rw [HKL.out, HF5.out, ← HKL.out] at x4
        clear x3
        have hwk : IntKind.i64.wrap ((kl : Int) - 1) = ((kl - 1 : Nat) : Int) := by rw [IntKind.wrap_i64]; omega
        have hkk : ((kl - 1 : Nat) : Int) < (kl : Int) := by omega
        have hkl1 : kl - 1 < kl := by omega
        have hkl0 : (0 : Int) < (kl : Int) := by omega
        have hkl0n : 0 < kl := by omega
        generalize kl - 1 = k0 at *
        have x4_6 : Hid (C1 b3 (o3 + k0) (.int .i64 (n1 : Int)) w6) := ⟨hb3, x4⟩
        clear x4
        go_wp2
        refine wp_region_held_drew (S := fun w' => w'.cell? ⟨b3, o3 + k0, none⟩ = some (.int .i64 (n1 : Int))) (by kernel_rfl) x4_6.out.2 (fun hHeld => ?_)
        refine wpAnyH_take (i := 0) (oi := ⟨some 88, _, _, _, _, _⟩) (v := ?_) rfl (by kernel_rfl) (by kernel_rfl) (by kernel_rfl) (fun _ _ _ h => h) (Or.inl ⟨by rfl, ?_⟩) (by assumption) ?_; rotate_left; (focus (intro w hSw; (try dsimp only at hSw); go_simp; (try with_reducible rfl))); (try simp only [Act.put, List.setIfInBounds_toArray, List.set_cons_zero, List.set_cons_succ])
        refine wpAnyH_ready (rs := [1]) (by kernel_rfl) (by simp) ?_; refine AllReadyH.cons (o := ⟨some 89, _, _, _, _, _⟩) rfl (fun K hK => ?_) AllReadyH.nil; go_simp
        go_at_call 13
        refine (HVO.out w6.drew R_6.out).mono ?_
        rintro e w7 ⟨rfl, hb'⟩
        have hb : Below w6.heap.size w6 w7 := below_of_drew hb'
        have P_7 := Lib.hid (P_6.out.step hb)
        clear P_6
        have B_7 := Lib.hid (B_6.out.trans (hb.mono B_6.out.size))
        clear B_6
        have R_7 := Lib.hid (R_6.out.step hb)
        clear R_6
        have S_7 := Lib.hid (S_6.out.step hb)
        clear S_6
        have K_7 := Lib.hid (K_6.out.step hb)
        clear K_6
        have BK_7 := Lib.hid (BK_6.out.trans (hb.mono BK_6.out.size))
        clear BK_6
        have x4_7 := Lib.hid (x4_6.out.step hb)
        clear x4_6
        clear hb hb'
        refine hK.out _ _ x4_7.out.2 (fun hHeld => ?_); clear hK K; (try simp only [Act.put, List.setIfInBounds_toArray, List.set_cons_zero, List.set_cons_succ])
        refine wpAnyH_take (i := 2) (oi := ⟨some 90, _, _, _, _, _⟩) (v := ?_) rfl (by kernel_rfl) (by kernel_rfl) (by kernel_rfl) (fun _ _ _ h => h) (Or.inl ⟨by rfl, ?_⟩) (by assumption) ?_; rotate_left; (focus (intro w hSw; (try dsimp only at hSw); go_simp; (try with_reducible rfl))); (try simp only [Act.put, List.setIfInBounds_toArray, List.set_cons_zero, List.set_cons_succ])
        refine wpAnyH_take (i := 3) (oi := ⟨some 91, _, _, _, _, _⟩) (v := ?_) rfl (by kernel_rfl) (by kernel_rfl) (by kernel_rfl) (fun _ _ _ h => h) (Or.inl ⟨by rfl, ?_⟩) (by assumption) ?_; rotate_left; (focus (intro w hSw; (try dsimp only at hSw); go_simp; (try with_reducible rfl))); (try simp only [Act.put, List.setIfInBounds_toArray, List.set_cons_zero, List.set_cons_succ])
        refine wpAnyH_take (i := 4) (oi := ⟨some 92, _, _, _, _, _⟩) (v := ?_) rfl (by kernel_rfl) (by kernel_rfl) (by kernel_rfl) (fun _ _ _ h => h) (Or.inl ⟨by rfl, ?_⟩) (by assumption) ?_; rotate_left; (focus (intro w hSw; (try dsimp only at hSw); go_simp; (try with_reducible rfl))); (try simp only [Act.put, List.setIfInBounds_toArray, List.set_cons_zero, List.set_cons_succ])
        refine wpAnyH_take (i := 5) (oi := ⟨some 93, _, _, _, _, _⟩) (v := ?_) rfl (by kernel_rfl) (by kernel_rfl) (by kernel_rfl) (fun _ _ _ h => h) (Or.inl ⟨by rfl, ?_⟩) (by assumption) ?_; rotate_left; (focus (intro w hSw; (try dsimp only at hSw); go_simp; (try with_reducible rfl))); (try simp only [Act.put, List.setIfInBounds_toArray, List.set_cons_zero, List.set_cons_succ])
        refine wpAnyH_take (i := 6) (oi := ⟨some 94, _, _, _, _, _⟩) (v := ?_) rfl (by kernel_rfl) (by kernel_rfl) (by kernel_rfl) (fun _ _ _ h => h) (Or.inl ⟨by rfl, ?_⟩) (by assumption) ?_; rotate_left; (focus (intro w hSw; (try dsimp only at hSw); go_simp; (try with_reducible rfl))); (try simp only [Act.put, List.setIfInBounds_toArray, List.set_cons_zero, List.set_cons_succ])
        refine wpAnyH_take (i := 7) (oi := ⟨some 95, _, _, _, _, _⟩) (v := ?_) rfl (by kernel_rfl) (by kernel_rfl) (by kernel_rfl) (fun _ _ _ h => h) (Or.inl ⟨by rfl, ?_⟩) (by assumption) ?_; rotate_left; (focus (intro w hSw; (try dsimp only at hSw); go_simp; (try with_reducible rfl))); (try simp only [Act.put, List.setIfInBounds_toArray, List.set_cons_zero, List.set_cons_succ])
        refine wpAnyH_take (i := 8) (oi := ⟨some 96, _, _, _, _, _⟩) (v := ?_) rfl (by kernel_rfl) (by kernel_rfl) (by kernel_rfl) (fun _ _ _ h => h) (Or.inl ⟨by rfl, ?_⟩) (by assumption) ?_; rotate_left; (focus (intro w hSw; (try dsimp only at hSw); go_simp; (try with_reducible rfl))); (try simp only [Act.put, List.setIfInBounds_toArray, List.set_cons_zero, List.set_cons_succ])
        refine wpAnyH_take (i := 9) (oi := ⟨some 97, _, _, _, _, _⟩) (v := ?_) rfl (by kernel_rfl) (by kernel_rfl) (by kernel_rfl) (fun _ _ _ h => h) (Or.inl ⟨by rfl, ?_⟩) (by assumption) ?_; rotate_left; (focus (intro w hSw; (try dsimp only at hSw); go_simp; (try with_reducible rfl))); (try simp only [Act.put, List.setIfInBounds_toArray, List.set_cons_zero, List.set_cons_succ])
        refine wpAnyH_take (i := 10) (oi := ⟨some 98, _, _, _, _, _⟩) (v := ?_) rfl (by kernel_rfl) (by kernel_rfl) (by kernel_rfl) (fun _ _ _ h => h) (Or.inl ⟨by rfl, ?_⟩) (by assumption) ?_; rotate_left; (focus (intro w hSw; (try dsimp only at hSw); go_simp; (try with_reducible rfl))); (try simp only [Act.put, List.setIfInBounds_toArray, List.set_cons_zero, List.set_cons_succ])
        refine wpAnyH_take (i := 11) (oi := ⟨some 99, _, _, _, _, _⟩) (v := ?_) rfl (by kernel_rfl) (by kernel_rfl) (by kernel_rfl) (fun _ _ _ h => h) (Or.inl ⟨by rfl, ?_⟩) (by assumption) ?_; rotate_left; (focus (intro w hSw; (try dsimp only at hSw); go_simp; (try with_reducible rfl))); (try simp only [Act.put, List.setIfInBounds_toArray, List.set_cons_zero, List.set_cons_succ])
        refine wpAnyH_take (i := 12) (oi := ⟨some 100, _, _, _, _, _⟩) (v := ?_) rfl (by kernel_rfl) (by kernel_rfl) (by kernel_rfl) (fun _ _ _ h => h) (Or.inl ⟨by rfl, ?_⟩) (by assumption) ?_; rotate_left; (focus (intro w hSw; (try dsimp only at hSw); go_simp; (try with_reducible rfl))); (try simp only [Act.put, List.setIfInBounds_toArray, List.set_cons_zero, List.set_cons_succ])
        refine wpAnyH_take (i := 13) (oi := ⟨some 101, _, _, _, _, _⟩) (v := ?_) rfl (by kernel_rfl) (by kernel_rfl) (by kernel_rfl) (fun _ _ _ h => h) (Or.inl ⟨by rfl, ?_⟩) (by assumption) ?_; rotate_left; (focus (intro w hSw; (try dsimp only at hSw); go_simp; (try with_reducible rfl))); (try simp only [Act.put, List.setIfInBounds_toArray, List.set_cons_zero, List.set_cons_succ])
        refine wpAnyH_take (i := 14) (oi := ⟨some 102, _, _, _, _, _⟩) (v := ?_) rfl (by kernel_rfl) (by kernel_rfl) (by kernel_rfl) (fun _ _ _ h => h) (Or.inl ⟨by rfl, ?_⟩) (by assumption) ?_; rotate_left; (focus (intro w hSw; (try dsimp only at hSw); go_simp; (try with_reducible rfl))); (try simp only [Act.put, List.setIfInBounds_toArray, List.set_cons_zero, List.set_cons_succ])
        refine wpAnyH_take (i := 15) (oi := ⟨some 103, _, _, _, _, _⟩) (v := ?_) rfl (by kernel_rfl) (by kernel_rfl) (by kernel_rfl) (fun _ _ _ h => h) (Or.inl ⟨by rfl, ?_⟩) (by assumption) ?_; rotate_left; (focus (intro w hSw; (try dsimp only at hSw); go_simp; (try with_reducible rfl))); (try simp only [Act.put, List.setIfInBounds_toArray, List.set_cons_zero, List.set_cons_succ])
        refine wpAnyH_take (i := 16) (oi := ⟨some 104, _, _, _, _, _⟩) (v := ?_) rfl (by kernel_rfl) (by kernel_rfl) (by kernel_rfl) (fun _ _ _ h => h) (Or.inl ⟨by rfl, ?_⟩) (by assumption) ?_; rotate_left; (focus (intro w hSw; (try dsimp only at hSw); go_simp; (try with_reducible rfl))); (try simp only [Act.put, List.setIfInBounds_toArray, List.set_cons_zero, List.set_cons_succ])
        refine wpAnyH_take (i := 17) (oi := ⟨some 105, _, _, _, _, _⟩) (v := ?_) rfl (by kernel_rfl) (by kernel_rfl) (by kernel_rfl) (fun _ _ _ h => h) (Or.inl ⟨by rfl, ?_⟩) (by assumption) ?_; rotate_left; (focus (intro w hSw; (try dsimp only at hSw); go_simp; (try with_reducible rfl))); (try simp only [Act.put, List.setIfInBounds_toArray, List.set_cons_zero, List.set_cons_succ])
        refine wpAnyH_take (i := 18) (oi := ⟨some 106, _, _, _, _, _⟩) (v := ?_) rfl (by kernel_rfl) (by kernel_rfl) (by kernel_rfl) (fun _ _ _ h => h) (Or.inl ⟨by rfl, ?_⟩) (by assumption) ?_; rotate_left; (focus (intro w hSw; (try dsimp only at hSw); go_simp; (try with_reducible rfl))); (try simp only [Act.put, List.setIfInBounds_toArray, List.set_cons_zero, List.set_cons_succ])
        refine wpAnyH_take (i := 19) (oi := ⟨some 107, _, _, _, _, _⟩) (v := ?_) rfl (by kernel_rfl) (by kernel_rfl) (by kernel_rfl) (fun _ _ _ h => h) (Or.inl ⟨by rfl, ?_⟩) (by assumption) ?_; rotate_left; (focus (intro w hSw; (try dsimp only at hSw); go_simp; (try with_reducible rfl))); (try simp only [Act.put, List.setIfInBounds_toArray, List.set_cons_zero, List.set_cons_succ])
        refine wpAnyH_take (i := 22) (oi := ⟨some 110, _, _, _, _, _⟩) (v := ?_) rfl (by kernel_rfl) (by kernel_rfl) (by kernel_rfl) (fun _ _ _ h => h) (Or.inl ⟨by rfl, ?_⟩) (by assumption) ?_; rotate_left; (focus (intro w hSw; (try dsimp only at hSw); go_simp; (try with_reducible rfl))); (try simp only [Act.put, List.setIfInBounds_toArray, List.set_cons_zero, List.set_cons_succ])
        refine wpAnyH_take (i := 23) (oi := ⟨some 111, _, _, _, _, _⟩) (v := ?_) rfl (by kernel_rfl) (by kernel_rfl) (by kernel_rfl) (fun _ _ _ h => h) (Or.inl ⟨by rfl, ?_⟩) (by assumption) ?_; rotate_left; (focus (intro w hSw; (try dsimp only at hSw); go_simp; (try with_reducible rfl))); (try simp only [Act.put, List.setIfInBounds_toArray, List.set_cons_zero, List.set_cons_succ])
        refine wpAnyH_ready (rs := [20]) (by kernel_rfl) (by simp) ?_; refine AllReadyH.cons (o := ⟨some 108, _, _, _, _, _⟩) rfl (fun K hK => ?_) AllReadyH.nil; go_simp
        go_at_call 17
        refine (HA1.out w7 R_7.out).mono ?_
        rintro e w8 ⟨v7, rfl, ho, hb⟩
        obtain ⟨A7, c7, rfl, hI9⟩ := OwnI.form ho
        have hnc7 := own_ncap ho
        obtain ⟨ul, hul⟩ : ∃ l, l = U.length := ⟨_, rfl⟩
        have HUL := Lib.hid hul
        rw [List.length_cons, ← hul] at hnc7
        rw [List.length_cons, ← hul]
        obtain ⟨b7, o7, rfl, hb7, x7⟩ := hI9 (by simp)
        have hIT := is_tail hb7 x7
        have hc71 : ¬ c7 = 1 := by omega
        have hu1 : 1 ≤ ul + 1 := by omega
        have hu2 : (1 : Int) ≤ (ul : Int) + 1 := by omega
        have P_8 := Lib.hid (P_7.out.step hb)
        clear P_7
        have B_8 := Lib.hid (B_7.out.trans (hb.mono B_7.out.size))
        clear B_7
        have R_8 := Lib.hid (R_7.out.step hb)
        clear R_7
        have S_8 := Lib.hid (S_7.out.step hb)
        clear S_7
        have K_8 := Lib.hid (K_7.out.step hb)
        clear K_7
        have BK_8 := Lib.hid (BK_7.out.trans (hb.mono BK_7.out.size))
        clear BK_7
        have x4_8 := Lib.hid (x4_7.out.step hb)
        clear x4_7
        clear hb
        have T_8 := Lib.hid (hIT)
        clear hIT x7 ho hul
        refine hK.out _ _ x4_8.out.2 (fun hHeld => ?_); clear hK K; (try simp only [Act.put, List.setIfInBounds_toArray, List.set_cons_zero, List.set_cons_succ])
        refine wpAnyH_take (i := 21) (oi := ⟨some 109, _, _, _, _, _⟩) (v := ?_) rfl (by kernel_rfl) (by kernel_rfl) (by kernel_rfl) (fun _ _ _ h => h) (Or.inl ⟨by rfl, ?_⟩) (by assumption) ?_; rotate_left; (focus (intro w hSw; (try dsimp only at hSw); go_simp; (try with_reducible rfl))); (try simp only [Act.put, List.setIfInBounds_toArray, List.set_cons_zero, List.set_cons_succ])
        refine wpAnyH_ready (rs := [24]) (by kernel_rfl) (by simp) ?_; refine AllReadyH.cons (o := ⟨some 112, _, _, _, _, _⟩) rfl (fun K hK => ?_) AllReadyH.nil; go_simp
        go_at_call 17
        refine (HA2.out w8 P_8.out).mono ?_
        rintro e w9 ⟨v8, rfl, ho, hb⟩
        obtain ⟨A8, c8, rfl, hI9⟩ := OwnI.form ho
        rw [← HUL.out]
        have P_9 := Lib.hid (P_8.out.step hb)
        clear P_8
        have B_9 := Lib.hid (B_8.out.trans (hb.mono B_8.out.size))
        clear B_8
        have R_9 := Lib.hid (R_8.out.step hb)
        clear R_8
        have S_9 := Lib.hid (S_8.out.step hb)
        clear S_8
        have K_9 := Lib.hid (K_8.out.step hb)
        clear K_8
        have BK_9 := Lib.hid (BK_8.out.trans (hb.mono BK_8.out.size))
        clear BK_8
        have x4_9 := Lib.hid (x4_8.out.step hb)
        clear x4_8
        have T_9 := Lib.hid (T_8.out.step hb)
        clear T_8
        clear hb
        have U_9 := Lib.hid (hI9)
        clear ho hI9
        refine hK.out _ _ x4_9.out.2 (fun hHeld => ?_); clear hK K; (try simp only [Act.put, List.setIfInBounds_toArray, List.set_cons_zero, List.set_cons_succ])
        refine wpAnyH_ready (rs := [25]) (by kernel_rfl) (by simp) ?_; refine AllReadyH.cons (o := ⟨some 113, _, _, _, _, _⟩) rfl (fun K hK => ?_) AllReadyH.nil; go_simp
        go_at_call 11
        refine (eq_g (some ⟨b7, o7 + 1, none⟩) A8 ul (c7 - 1) c8 U w9 HUL.out T_9.out U_9.out (by have := HUL.out; omega)).mono ?_
        rintro e w10 ⟨rfl, hb⟩
        have P_10 := Lib.hid (P_9.out.step hb)
        clear P_9
        have B_10 := Lib.hid (B_9.out.trans (hb.mono B_9.out.size))
        clear B_9
        have R_10 := Lib.hid (R_9.out.step hb)
        clear R_9
        have S_10 := Lib.hid (S_9.out.step hb)
        clear S_9
        have K_10 := Lib.hid (K_9.out.step hb)
        clear K_9
        have BK_10 := Lib.hid (BK_9.out.trans (hb.mono BK_9.out.size))
        clear BK_9
        have x4_10 := Lib.hid (x4_9.out.step hb)
        clear x4_9
        have T_10 := Lib.hid (T_9.out.step hb)
        clear T_9
        have U_10 := Lib.hid (U_9.out.step hb)
        clear U_9
        clear hb
        refine hK.out _ _ x4_10.out.2 (fun hHeld => ?_); clear hK K; (try simp only [Act.put, List.setIfInBounds_toArray, List.set_cons_zero, List.set_cons_succ])
        refine wpAnyH_take (i := 26) (oi := ⟨some 114, _, _, _, _, _⟩) (v := ?_) rfl (by kernel_rfl) (by kernel_rfl) (by kernel_rfl) (fun _ _ _ h => h) (Or.inl ⟨by rfl, ?_⟩) (by assumption) ?_; rotate_left; (focus (intro w hSw; (try dsimp only at hSw); go_simp; (try with_reducible rfl))); (try simp only [Act.put, List.setIfInBounds_toArray, List.set_cons_zero, List.set_cons_succ])
        refine wpAnyH_take (i := 27) (oi := ⟨some 2, _, _, _, _, _⟩) (v := ?_) rfl (by kernel_rfl) (by kernel_rfl) (by kernel_rfl) (fun _ _ _ h => h) (Or.inl ⟨by rfl, ?_⟩) (by assumption) ?_; rotate_left; (focus (intro w hSw; (try dsimp only at hSw); go_simp; (try with_reducible rfl))); (try simp only [Act.put, List.setIfInBounds_toArray, List.set_cons_zero, List.set_cons_succ])
        refine wpAnyH_done (by kernel_rfl) ?_ _
        go_wp2
        go_ret
        exact ⟨ret_b (by first | rfl | simp), B_10.out⟩
end Go.Proofs.Ytjhpknnhgbdkiaa
