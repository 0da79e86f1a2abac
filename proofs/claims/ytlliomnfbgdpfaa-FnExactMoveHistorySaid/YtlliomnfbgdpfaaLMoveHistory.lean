/- laws.FnExactMoveHistory returns true for all arguments, and writes nothing that was there. (Made by genlaw.py.) -/
import Derived.Test.YtlliomnfbgdpfaaS8
import Derived.Deep.RegionWith
import Derived.Test.YtlliomnfbgdpfaaJ7
import Derived.Test.YtlliomnfbgdpfaaB1

namespace Go.Proofs.Ytlliomnfbgdpfaa
set_option linter.unusedSimpArgs false
set_option linter.unusedVariables false
open Go.RowKit

set_option maxRecDepth 100000 in
set_option maxHeartbeats 25600000 in
theorem law_MoveHistory (A0 : Option Addr) (n0 c0 : Nat) (gs0 : List Nd) (A1 : Option Addr) (n1 c1 : Nat) (st1 : Hi) (x2 : Int) (w : World) (hn0 : n0 = gs0.length) (h0 : GS w w.heap.size A0 gs0) (hm0 : n0 ≤ 9223372036854775807) (hp0 : ∀ j, (gs0.getD j default).ps.length ≤ 9223372036854775807) (hn1 : n1 = st1.ss.length) (h1 : HiS w w.heap.size A1 st1) (hm1 : n1 ≤ 9223372036854775807) (hp1 : ∀ j, (st1.ss.getD j []).length ≤ 9223372036854775807) (hx2a : -9223372036854775808 ≤ x2) (hx2b : x2 ≤ 9223372036854775807) :
    Calls Try.prog 6 #[.agg #[.slice A0 n0 c0], .agg #[.slice A1 n1 c1, .int .i64 st1.ix], .int .i64 x2] w fun e w' => e = .returned (.bool true) ∧ Below w.heap.size w w' := by
  obtain ⟨l0, hl0⟩ : ∃ l0 : Int, l0 = 1048576 := ⟨_, rfl⟩
  have HC0 := Lib.hid fun (w' : World) (hB : w.heap.size ≤ w'.heap.size) (h : GS w' w.heap.size A0 gs0) => laws_szGraph A0 n0 c0 gs0 l0 w' w.heap.size hB hn0 h (by omega) (by omega) hm0 hp0
  by_cases hz0 : ((gsz gs0 : Nat) : Int) ≤ l0
  case neg =>
    rw [leftOf_no hz0] at HC0
    subst hl0
    have S_0 : Hid (As 0 w.heap.size (fun wk => GS wk w.heap.size A0 gs0 ∧ HiS wk w.heap.size A1 st1) w) := ⟨⟨h0, h1⟩, Nat.le_refl _, ((GS.loc _ _ _).and (HiS.loc _ _ _))⟩
    have Bl_0 : Hid (Bl w w) := Bl.refl w
    have S_1 := Lib.hid (S_0.out.alloc (.cells #[.slice A0 n0 c0] 24))
    clear S_0
    have Bl_1 := Lib.hid (Bl_0.out.alloc (.cells #[.slice A0 n0 c0] 24))
    clear Bl_0
    have bx := box_new w (.slice A0 n0 c0) 24
    have BX0_1 := Lib.hid bx
    clear bx
    have S_2 := Lib.hid (S_1.out.alloc (.cells #[.slice A1 n1 c1, .int .i64 st1.ix] 27))
    clear S_1
    have Bl_2 := Lib.hid (Bl_1.out.alloc (.cells #[.slice A1 n1 c1, .int .i64 st1.ix] 27))
    clear Bl_1
    have BX0_2 := Lib.hid (BX0_1.out.alloc (.cells #[.slice A1 n1 c1, .int .i64 st1.ix] 27))
    clear BX0_1
    have bx := box2_new (w.alloc (.cells #[.slice A0 n0 c0] 24)) (.slice A1 n1 c1) (.int .i64 st1.ix) 27
    simp only [World.size_alloc] at bx
    have BX1_2 := Lib.hid bx
    clear bx
    clear hn0 h0 hp0 hn1 h1 hp1 hz0
    go_enter Try.func6, Try.ntmps6
    have q := BX0_2.out.it
    go_wp2_with fail
    refine (HC0.out _ Bl_2.out.le S_2.out.it.1).mono ?_
    rintro e w3 ⟨rfl, hb⟩
    have S_3 := Lib.hid (S_2.out.step hb)
    clear S_2
    have Bl_3 := Lib.hid (Bl_2.out.step hb)
    clear Bl_2
    have BX0_3 := Lib.hid (BX0_2.out.step hb)
    clear BX0_2
    have BX1_3 := Lib.hid (BX1_2.out.step hb)
    clear BX1_2
    clear q hb
    go_wp2
    go_ret
    exact ⟨rfl, Bl_3.out⟩
  rw [leftOf_ok hz0] at HC0
  obtain ⟨l1, hl1⟩ : ∃ l1 : Int, l1 = l0 - ((gsz gs0 : Nat) : Int) := ⟨_, rfl⟩
  rw [← hl1] at HC0
  have hge1 : 0 ≤ l1 := by omega
  have hle1 : l1 ≤ 1048576 := by omega
  have HC1 := Lib.hid fun (w' : World) (hB : w.heap.size ≤ w'.heap.size) (h : HiS w' w.heap.size A1 st1) => laws_szHistory A1 n1 c1 st1 l1 w' w.heap.size hB hn1 h (by omega) (by omega) hm1 hp1
  by_cases hz1 : ((hsz st1 : Nat) : Int) ≤ l1
  case neg =>
    rw [leftOf_no hz1] at HC1
    subst hl0
    have S_0 : Hid (As 0 w.heap.size (fun wk => GS wk w.heap.size A0 gs0 ∧ HiS wk w.heap.size A1 st1) w) := ⟨⟨h0, h1⟩, Nat.le_refl _, ((GS.loc _ _ _).and (HiS.loc _ _ _))⟩
    have Bl_0 : Hid (Bl w w) := Bl.refl w
    have S_1 := Lib.hid (S_0.out.alloc (.cells #[.slice A0 n0 c0] 24))
    clear S_0
    have Bl_1 := Lib.hid (Bl_0.out.alloc (.cells #[.slice A0 n0 c0] 24))
    clear Bl_0
    have bx := box_new w (.slice A0 n0 c0) 24
    have BX0_1 := Lib.hid bx
    clear bx
    have S_2 := Lib.hid (S_1.out.alloc (.cells #[.slice A1 n1 c1, .int .i64 st1.ix] 27))
    clear S_1
    have Bl_2 := Lib.hid (Bl_1.out.alloc (.cells #[.slice A1 n1 c1, .int .i64 st1.ix] 27))
    clear Bl_1
    have BX0_2 := Lib.hid (BX0_1.out.alloc (.cells #[.slice A1 n1 c1, .int .i64 st1.ix] 27))
    clear BX0_1
    have bx := box2_new (w.alloc (.cells #[.slice A0 n0 c0] 24)) (.slice A1 n1 c1) (.int .i64 st1.ix) 27
    simp only [World.size_alloc] at bx
    have BX1_2 := Lib.hid bx
    clear bx
    clear hn0 h0 hp0 hn1 h1 hp1 hz1 hl1 hz0
    go_enter Try.func6, Try.ntmps6
    have q := BX0_2.out.it
    go_wp2_with fail
    refine (HC0.out _ Bl_2.out.le S_2.out.it.1).mono ?_
    rintro e w3 ⟨rfl, hb⟩
    have S_3 := Lib.hid (S_2.out.step hb)
    clear S_2
    have Bl_3 := Lib.hid (Bl_2.out.step hb)
    clear Bl_2
    have BX0_3 := Lib.hid (BX0_2.out.step hb)
    clear BX0_2
    have BX1_3 := Lib.hid (BX1_2.out.step hb)
    clear BX1_2
    clear q hb
    obtain ⟨q, qb⟩ := BX1_3.out.it
    go_wp2_with fail
    refine (HC1.out _ Bl_3.out.le S_3.out.it.2).mono ?_
    rintro e w4 ⟨rfl, hb⟩
    have S_4 := Lib.hid (S_3.out.step hb)
    clear S_3
    have Bl_4 := Lib.hid (Bl_3.out.step hb)
    clear Bl_3
    have BX0_4 := Lib.hid (BX0_3.out.step hb)
    clear BX0_3
    have BX1_4 := Lib.hid (BX1_3.out.step hb)
    clear BX1_3
    clear q qb hb
    go_wp2
    go_ret
    exact ⟨rfl, Bl_4.out⟩
  rw [leftOf_ok hz1] at HC1
  obtain ⟨l2, hl2⟩ : ∃ l2 : Int, l2 = l1 - ((hsz st1 : Nat) : Int) := ⟨_, rfl⟩
  rw [← hl2] at HC1
  have hge2 : 0 ≤ l2 := by omega
  have hle2 : l2 ≤ 1048576 := by omega
  have hG0 : GB gs0 := GB.of_gsz (by omega)
  have hEB1 : HiB st1 := HiB.of_hsz (by omega)
  have HSP := Lib.hid (top_spec_MoveHistory gs0 st1 x2 hG0 hEB1)
  have HIM := Lib.hid (top_impl_MoveHistory gs0 st1 x2 hG0 hEB1)
  have heb0 := moveH_HB gs0 st1 x2
  generalize moveH gs0 st1 x2 = F0 at *
  obtain ⟨t0, hq0⟩ : ∃ t0 : Nat, t0 = ((Hi.ss F0).map List.length).sum := ⟨_, rfl⟩
  have htb0 : t0 ≤ 1048576 := by rw [hq0]; exact heb0.2.2
  have HQ0 := Lib.hid hq0
  have HEB0 := Lib.hid heb0
  clear hq0 heb0
  have ht0 : decide (F0 = F0) = true := by simp
  have hlen1 := moveI_len gs0 st1 x2
  generalize moveI gs0 st1 x2 = F1 at *
  have HL1 := Lib.hid hlen1
  clear hlen1
  have ht1 : decide (F1 = F1) = true := by simp
  generalize moveB gs0 st1 x2 = F2 at *
  have hf2 : (F2 != F2) = false := by simp
  have HN0 := Lib.hid hn0
  have HG0 := Lib.hid hG0
  have hx0 : decide (gs0 = gs0) = true := by simp
  have hnb0 : n0 ≤ 1048576 := by rw [hn0]; exact hG0.1
  have HN1 := Lib.hid hn1
  have HEG1 := Lib.hid hEB1
  have hx1 : decide (st1 = st1) = true := by simp
  have hnb1 : n1 ≤ 1048576 := by rw [hn1]; exact hEB1.1
  have S_0 : Hid (As 0 w.heap.size (fun wk => GS wk w.heap.size A0 gs0 ∧ HiS wk w.heap.size A1 st1) w) := ⟨⟨h0, h1⟩, Nat.le_refl _, ((GS.loc _ _ _).and (HiS.loc _ _ _))⟩
  have Bl_0 : Hid (Bl w w) := Bl.refl w
  have S_1 := Lib.hid (S_0.out.alloc (.cells #[.slice A0 n0 c0] 24))
  clear S_0
  have Bl_1 := Lib.hid (Bl_0.out.alloc (.cells #[.slice A0 n0 c0] 24))
  clear Bl_0
  have bx := box_new w (.slice A0 n0 c0) 24
  have BX0_1 := Lib.hid bx
  clear bx
  have S_2 := Lib.hid (S_1.out.alloc (.cells #[.slice A1 n1 c1, .int .i64 st1.ix] 27))
  clear S_1
  have Bl_2 := Lib.hid (Bl_1.out.alloc (.cells #[.slice A1 n1 c1, .int .i64 st1.ix] 27))
  clear Bl_1
  have BX0_2 := Lib.hid (BX0_1.out.alloc (.cells #[.slice A1 n1 c1, .int .i64 st1.ix] 27))
  clear BX0_1
  have bx := box2_new (w.alloc (.cells #[.slice A0 n0 c0] 24)) (.slice A1 n1 c1) (.int .i64 st1.ix) 27
  simp only [World.size_alloc] at bx
  have BX1_2 := Lib.hid bx
  clear bx
  have HLS := Lib.hid hl0
  subst hl0
  clear HLS hn0 h0 hp0 hn1 h1 hp1 hl1 hl2 hz0 hz1 hG0 hEB1
  go_enter Try.func6, Try.ntmps6
  have q := BX0_2.out.it
  go_wp2_with fail
  refine (HC0.out _ Bl_2.out.le S_2.out.it.1).mono ?_
  rintro e w3 ⟨rfl, hb⟩
  have hs_3 : w.heap.size + 2 ≤ w3.heap.size := by have := hb.size; (try simp only [World.size_alloc] at this); omega
  have S_3 := Lib.hid (S_2.out.step hb)
  clear S_2
  have Bl_3 := Lib.hid (Bl_2.out.step hb)
  clear Bl_2
  have BX0_3 := Lib.hid (BX0_2.out.step hb)
  clear BX0_2
  have BX1_3 := Lib.hid (BX1_2.out.step hb)
  clear BX1_2
  clear q hb
  obtain ⟨q, qb⟩ := BX1_3.out.it
  go_wp2_with fail
  refine (HC1.out _ Bl_3.out.le S_3.out.it.2).mono ?_
  rintro e w4 ⟨rfl, hb⟩
  have hs_4 : w3.heap.size ≤ w4.heap.size := by have := hb.size; (try simp only [World.size_alloc] at this); omega
  have S_4 := Lib.hid (S_3.out.step hb)
  clear S_3
  have Bl_4 := Lib.hid (Bl_3.out.step hb)
  clear Bl_3
  have BX0_4 := Lib.hid (BX0_3.out.step hb)
  clear BX0_3
  have BX1_4 := Lib.hid (BX1_3.out.step hb)
  clear BX1_3
  clear q qb hb
  go_upto_region 8 with fail
  go_cut [8, 9, 10] from 32 to 41 (fun tb t9 t10 wx => ∃ (b lo hi : Nat) (BV0 : Option Addr) (mV0 dV0 : Nat) (CV : Option Addr) (mV dV : Nat) (mid : Nat), tb = .pointer (some ⟨b, 0, none⟩) ∧ t9 = .slice CV mV dV ∧ t10 = .bool F2 ∧ Hid (As lo mid (OwH lo mid BV0 mV0 dV0 F0) wx) ∧ Hid (As b (b + 1) (fun w' => w'.cell? ⟨b, 0, none⟩ = some (.slice BV0 mV0 dV0) ∧ w'.cell? ⟨b, 1, none⟩ = some (.int .i64 F0.ix)) wx) ∧ w4.heap.size ≤ lo ∧ w4.heap.size ≤ b ∧ (b < lo ∨ hi ≤ b) ∧ Hid (Below w4.heap.size w4 wx) ∧ Hid (mV = F1.length) ∧ Hid (As mid hi (OwR mid hi 3 1 (.slice CV mV dV) mV (F1.map (Value.int .i64))) wx) ∧ lo ≤ mid ∧ mid ≤ hi)
  have hla0 := S_4.out.le
  have hla1 := Bl_4.out.le
  have hla2 := BX0_4.out.le
  have hla3 := BX1_4.out.le
  case first =>
    have z0_4 := BX0_4.out.it
    obtain ⟨z1_4, z1_4b⟩ := BX1_4.out.it
    refine wp_region_held_drew (S := fun w' => w'.cell? ⟨w.heap.size, 0, none⟩ = some (.slice A0 n0 c0) ∧ w'.cell? ⟨w.heap.size + 1, 0, none⟩ = some (.slice A1 n1 c1) ∧ w'.cell? ⟨w.heap.size + 1, 1, none⟩ = some (.int .i64 st1.ix)) (by kernel_rfl) ⟨z0_4, z1_4, z1_4b⟩ (fun hHeld => ?_)
    clear hHeld z0_4 z1_4 z1_4b
    obtain ⟨w5, hw5⟩ : ∃ W : World, W = w4.drew := ⟨_, rfl⟩
    have hb : Below w4.heap.size w4 w5 := by rw [hw5]; exact (Below.refl _ _).drew
    rw [← hw5]
    clear hw5
    have hbs5 : w4.heap.size ≤ w5.heap.size := hb.size
    have S_5 := Lib.hid (S_4.out.step hb)
    clear S_4
    have Bl_5 := Lib.hid (Bl_4.out.step hb)
    clear Bl_4
    have BX0_5 := Lib.hid (BX0_4.out.step hb)
    clear BX0_4
    have BX1_5 := Lib.hid (BX1_4.out.step hb)
    clear BX1_4
    have Bk_5 := Lib.hid hb
    clear hb
    have z0_5 := BX0_5.out.it
    obtain ⟨z1_5, z1_5b⟩ := BX1_5.out.it
    have hHeld : w5.cell? ⟨w.heap.size, 0, none⟩ = some (.slice A0 n0 c0) ∧ w5.cell? ⟨w.heap.size + 1, 0, none⟩ = some (.slice A1 n1 c1) ∧ w5.cell? ⟨w.heap.size + 1, 1, none⟩ = some (.int .i64 st1.ix) := ⟨z0_5, z1_5, z1_5b⟩
    refine wpAnyH_take (i := 0) (oi := ⟨some 33, _, _, _, _, _⟩) (v := ?_) rfl (by kernel_rfl) (by kernel_rfl) (by kernel_rfl) (fun _ _ _ h => h) (Or.inl ⟨by rfl, ?_⟩) (by assumption) ?_; rotate_left; (focus (intro w hSw; (try dsimp only at hSw); go_simp; (try with_reducible rfl))); (try simp only [Act.put, List.setIfInBounds_toArray, List.set_cons_zero, List.set_cons_succ])
    refine wpAnyH_take (i := 2) (oi := ⟨some 35, _, _, _, _, _⟩) (v := ?_) rfl (by kernel_rfl) (by kernel_rfl) (by kernel_rfl) (fun _ _ _ h => h) (Or.inl ⟨by rfl, ?_⟩) (by assumption) ?_; rotate_left; (focus (intro w hSw; (try dsimp only at hSw); go_simp; (try with_reducible rfl))); (try simp only [Act.put, List.setIfInBounds_toArray, List.set_cons_zero, List.set_cons_succ])
    refine wpAnyH_take (i := 4) (oi := ⟨some 37, _, _, _, _, _⟩) (v := ?_) rfl (by kernel_rfl) (by kernel_rfl) (by kernel_rfl) (fun _ _ _ h => h) (Or.inl ⟨by rfl, ?_⟩) (by assumption) ?_; rotate_left; (focus (intro w hSw; (try dsimp only at hSw); go_simp; (try with_reducible rfl))); (try simp only [Act.put, List.setIfInBounds_toArray, List.set_cons_zero, List.set_cons_succ])
    refine wpAnyH_ready (rs := [1, 10]) (by kernel_rfl) (by simp) ?_; refine AllReadyH.cons (o := ⟨some 34, _, _, _, _, _⟩) rfl (fun K hK => ?_) (AllReadyH.cons (o := ⟨some 8, _, _, _, _, _⟩) rfl (fun K hK => ?_) AllReadyH.nil)
    · go_simp
      go_at_call 11
      refine (laws_toGraph A0 n0 c0 gs0 _ w.heap.size Bl_5.out.le HN0.out S_5.out.it.1 HG0.out).mono ?_
      rintro e w6 ⟨B6, m6, d6, rfl, hn, hown, hb⟩
      have M6 := Lib.hid hn
      have NC6 := Lib.hid hown.ncap
      have hbs6 : w5.heap.size ≤ w6.heap.size := hb.size
      have S_6 := Lib.hid (S_5.out.step hb)
      clear S_5
      have Bl_6 := Lib.hid (Bl_5.out.step hb)
      clear Bl_5
      have BX0_6 := Lib.hid (BX0_5.out.step hb)
      clear BX0_5
      have BX1_6 := Lib.hid (BX1_5.out.step hb)
      clear BX1_5
      have Bk_6 := Lib.hid (Bk_5.out.trans (hb.mono (by omega)))
      clear Bk_5
      have X0_6 := Lib.hid (graph_start hown)
      clear hown hb hn
      clear z0_5 z1_5 z1_5b
      have z0_6 := BX0_6.out.it
      obtain ⟨z1_6, z1_6b⟩ := BX1_6.out.it
      refine hK.out _ _ ⟨z0_6, z1_6, z1_6b⟩ (fun hHeld => ?_); clear hK K; (try simp only [Act.put, List.setIfInBounds_toArray, List.set_cons_zero, List.set_cons_succ])
      refine wpAnyH_ready (rs := [3, 10]) (by kernel_rfl) (by simp) ?_; refine AllReadyH.cons (o := ⟨some 36, _, _, _, _, _⟩) rfl (fun K hK => ?_) (AllReadyH.cons (o := ⟨some 8, _, _, _, _, _⟩) rfl (fun K hK => ?_) AllReadyH.nil)
      · go_simp
        go_at_call 12
        refine (laws_toHistory A1 n1 c1 st1 _ w.heap.size Bl_6.out.le HN1.out S_6.out.it.2 HEG1.out).mono ?_
        rintro e w7 ⟨B7, m7, d7, rfl, hown, hb⟩
        have hn := hown.1
        have M7 := Lib.hid hn
        have hbs7 : w6.heap.size ≤ w7.heap.size := hb.size
        have S_7 := Lib.hid (S_6.out.step hb)
        clear S_6
        have Bl_7 := Lib.hid (Bl_6.out.step hb)
        clear Bl_6
        have BX0_7 := Lib.hid (BX0_6.out.step hb)
        clear BX0_6
        have BX1_7 := Lib.hid (BX1_6.out.step hb)
        clear BX1_6
        have Bk_7 := Lib.hid (Bk_6.out.trans (hb.mono (by omega)))
        clear Bk_6
        have X0_7 := Lib.hid (X0_6.out.step hb)
        clear X0_6
        have X1_7 := Lib.hid (hist_start hown)
        clear hown hb hn
        clear z0_6 z1_6 z1_6b
        have z0_7 := BX0_7.out.it
        obtain ⟨z1_7, z1_7b⟩ := BX1_7.out.it
        refine hK.out _ _ ⟨z0_7, z1_7, z1_7b⟩ (fun hHeld => ?_); clear hK K; (try simp only [Act.put, List.setIfInBounds_toArray, List.set_cons_zero, List.set_cons_succ])
        refine wpAnyH_ready (rs := [5, 10]) (by kernel_rfl) (by simp) ?_; refine AllReadyH.cons (o := ⟨some 38, _, _, _, _, _⟩) rfl (fun K hK => ?_) (AllReadyH.cons (o := ⟨some 8, _, _, _, _, _⟩) rfl (fun K hK => ?_) AllReadyH.nil)
        · go_simp
          go_at_call 26
          refine (HSP.out B6 m6 d6 B7 m7 d7 _ M6.out NC6.out X0_7.out.graph M7.out X1_7.out.hist hx2a hx2b).mono ?_
          rintro e w8 ⟨BV0, mV0, dV0, CV, mV, dV, mid8, rfl, hml, hown, hown2, hmid1, hmid2, hb⟩
          have hbs8 : w7.heap.size ≤ w8.heap.size := hb.size
          clear X0_7
          clear X1_7
          have S_8 := Lib.hid (S_7.out.step hb)
          clear S_7
          have Bl_8 := Lib.hid (Bl_7.out.step hb)
          clear Bl_7
          have BX0_8 := Lib.hid (BX0_7.out.step hb)
          clear BX0_7
          have BX1_8 := Lib.hid (BX1_7.out.step hb)
          clear BX1_7
          have Bk_8 := Lib.hid (Bk_7.out.trans (hb.mono (by omega)))
          clear Bk_7
          have V_8 : Hid (As w7.heap.size mid8 (OwH w7.heap.size mid8 BV0 mV0 dV0 F0) w8) := ⟨hown, hmid2, OwSS.loc _ _ _ _ _⟩
          have V1_8 : Hid (As mid8 w8.heap.size (OwR mid8 w8.heap.size 3 1 (.slice CV mV dV) mV (F1.map (Value.int .i64))) w8) := ⟨hown2, Nat.le_refl _, OwR.loc _ _ _ _ _ _ _⟩
          have HMLV := Lib.hid hml
          clear hown2 hml
          clear hown hb
          clear z0_7 z1_7 z1_7b
          have z0_8 := BX0_8.out.it
          obtain ⟨z1_8, z1_8b⟩ := BX1_8.out.it
          refine hK.out _ _ ⟨z0_8, z1_8, z1_8b⟩ (fun hHeld => ?_); clear hK K; (try simp only [Act.put, List.setIfInBounds_toArray, List.set_cons_zero, List.set_cons_succ])
          refine wpAnyH_take (i := 6) (oi := ⟨some 32, _, _, _, _, _⟩) (v := ?_) rfl (by kernel_rfl) (by kernel_rfl) (by kernel_rfl) (fun _ _ _ h => h) (Or.inl ⟨by rfl, ?_⟩) (by assumption) ?_; rotate_left; (focus (intro w hSw; (try dsimp only at hSw); go_simp; (try with_reducible rfl))); (try simp only [Act.put, List.setIfInBounds_toArray, List.set_cons_zero, List.set_cons_succ])
          refine wpAnyH_take (i := 7) (oi := ⟨some 39, _, _, _, _, _⟩) (v := ?_) rfl (by kernel_rfl) (by kernel_rfl) (by kernel_rfl) (fun _ _ _ h => h) (Or.inl ⟨by rfl, ?_⟩) (by assumption) ?_; rotate_left; (focus (intro w hSw; (try dsimp only at hSw); go_simp; (try with_reducible rfl))); (try simp only [Act.put, List.setIfInBounds_toArray, List.set_cons_zero, List.set_cons_succ])
          refine wpAnyH_take (i := 8) (oi := ⟨some 40, _, _, _, _, _⟩) (v := ?_) rfl (by kernel_rfl) (by kernel_rfl) (by kernel_rfl) (fun _ _ _ h => h) (Or.inl ⟨by rfl, ?_⟩) (by assumption) ?_; rotate_left; (focus (intro w hSw; (try dsimp only at hSw); go_simp; (try with_reducible rfl))); (try simp only [Act.put, List.setIfInBounds_toArray, List.set_cons_zero, List.set_cons_succ])
          refine wpAnyH_take (i := 9) (oi := ⟨some 41, _, _, _, _, _⟩) (v := ?_) rfl (by kernel_rfl) (by kernel_rfl) (by kernel_rfl) (fun _ _ _ h => h) (Or.inl ⟨by rfl, ?_⟩) (by assumption) ?_; rotate_left; (focus (intro w hSw; (try dsimp only at hSw); go_simp; (try with_reducible rfl))); (try simp only [Act.put, List.setIfInBounds_toArray, List.set_cons_zero, List.set_cons_succ])
          refine wpAnyH_ready (rs := [10]) (by kernel_rfl) (by simp) ?_; refine AllReadyH.cons (o := ⟨some 8, _, _, _, _, _⟩) rfl (fun K hK => ?_) AllReadyH.nil; go_simp
          obtain ⟨w9, hw9⟩ : ∃ W : World, W = w8.alloc (.cells #[.slice none 0 0, .int .i64 0] 35) := ⟨_, rfl⟩
          have hb : Below w8.heap.size w8 w9 := by rw [hw9]; exact (Below.refl _ _).alloc (Nat.le_refl _) _
          have hbs9 : w9.heap.size = w8.heap.size + 1 := by rw [hw9]; simp
          have S_9 := Lib.hid (S_8.out.step hb)
          clear S_8
          have Bl_9 := Lib.hid (Bl_8.out.step hb)
          clear Bl_8
          have BX0_9 := Lib.hid (BX0_8.out.step hb)
          clear BX0_8
          have BX1_9 := Lib.hid (BX1_8.out.step hb)
          clear BX1_8
          have Bk_9 := Lib.hid (Bk_8.out.trans (hb.mono (by omega)))
          clear Bk_8
          have V_9 := Lib.hid (V_8.out.step hb)
          clear V_8
          have V1_9 := Lib.hid (V1_8.out.step hb)
          clear V1_8
          have NB_9 : Hid (Bx w8.heap.size [.slice none 0 0, .int .i64 0] w9) := by rw [hw9]; exact Bx.start w8 _ _
          have hbs9b : w8.heap.size < w9.heap.size := by omega
          clear hb z0_8 z1_8 z1_8b
          have z0_9 := BX0_9.out.it
          obtain ⟨z1_9, z1_9b⟩ := BX1_9.out.it
          rw [← hw9]
          clear hw9 hbs9
          refine hK.out _ _ ⟨z0_9, z1_9, z1_9b⟩ (fun hHeld => ?_); clear hK K; (try simp only [Act.put, List.setIfInBounds_toArray, List.set_cons_zero, List.set_cons_succ])
          have hvl : mid8 ≤ w9.heap.size := V_9.out.le
          have hvl2 : w8.heap.size ≤ w9.heap.size := V1_9.out.le
          have y0 := NB_9.out.c 0 _ rfl
          have x0 := NB_9.out.f 0
          have y1 := NB_9.out.c 1 _ rfl
          have x1 := NB_9.out.f 1
          refine wpAnyH_ready (rs := [11]) (by kernel_rfl) (by simp) ?_; refine AllReadyH.cons (o := ⟨none, _, _, _, _, _⟩) rfl (fun K hK => ?_) AllReadyH.nil; go_simp
          obtain ⟨w10, hw10⟩ : ∃ W : World, W = ((w9.setCell ⟨w8.heap.size, 0, none⟩ (.slice BV0 mV0 dV0)).setCell ⟨w8.heap.size, 1, none⟩ (.int .i64 F0.ix)) := ⟨_, rfl⟩
          have ht : Tch (w8.heap.size) (w8.heap.size + 1) w9 w10 := by rw [hw10]; exact ((Tch.refl _ _ _).trans (Bx.tch _ 0 _)).trans (Bx.tch _ 1 _)
          have NC : Hid (Bx (w8.heap.size) [.slice BV0 mV0 dV0, .int .i64 F0.ix] w10) := by rw [hw10]; exact ((NB_9.out.set 0 (by simp) (.slice BV0 mV0 dV0)).set 1 (by simp) (.int .i64 F0.ix))
          have hbs10 := ht.size
          have S_10 := Lib.hid (S_9.out.turn ht (by omega))
          clear S_9
          have Bl_10 := Lib.hid (Bl_9.out.turn ht (by omega))
          clear Bl_9
          have BX0_10 := Lib.hid (BX0_9.out.turn ht (by omega))
          clear BX0_9
          have BX1_10 := Lib.hid (BX1_9.out.turn ht (by omega))
          clear BX1_9
          have Bk_10 := Lib.hid (Bk_9.out.trans (ht.below (by omega) (by omega)))
          clear Bk_9
          have V_10 := Lib.hid (V_9.out.turn ht (by omega))
          clear V_9
          have V1_10 := Lib.hid (V1_9.out.turn ht (by omega))
          clear V1_9
          clear NB_9
          clear ht y0 x0 y1 x1 z0_9 z1_9 z1_9b
          have z0_10 := BX0_10.out.it
          obtain ⟨z1_10, z1_10b⟩ := BX1_10.out.it
          rw [← hw10]
          clear hw10
          refine hK.out _ _ ⟨z0_10, z1_10, z1_10b⟩ (fun hHeld => ?_); clear hK K; (try simp only [Act.put, List.setIfInBounds_toArray, List.set_cons_zero, List.set_cons_succ])
          refine wpAnyH_ready (rs := [12]) (by kernel_rfl) (by simp) ?_; refine AllReadyH.cons (o := ⟨some 9, _, _, _, _, _⟩) rfl (fun K hK => ?_) AllReadyH.nil; go_simp
          refine hK.out _ _ ⟨z0_10, z1_10, z1_10b⟩ (fun hHeld => ?_); clear hK K; (try simp only [Act.put, List.setIfInBounds_toArray, List.set_cons_zero, List.set_cons_succ])
          refine wpAnyH_ready (rs := [13]) (by kernel_rfl) (by simp) ?_; refine AllReadyH.cons (o := ⟨some 10, _, _, _, _, _⟩) rfl (fun K hK => ?_) AllReadyH.nil; go_simp
          refine hK.out _ _ ⟨z0_10, z1_10, z1_10b⟩ (fun hHeld => ?_); clear hK K; (try simp only [Act.put, List.setIfInBounds_toArray, List.set_cons_zero, List.set_cons_succ])
          refine wpAnyH_done (by kernel_rfl) ?_ _
          go_wp2_with fail
          go_meet
          exact ⟨w8.heap.size, w7.heap.size, w8.heap.size, _, _, _, _, _, _, mid8, rfl, rfl, rfl, V_10.out, Bx.as2 NC.out, by omega, by omega, by omega, Bk_10.out, HMLV.out, V1_10.out, by omega, by omega⟩
        · go_simp
          obtain ⟨w8, hw8⟩ : ∃ W : World, W = w7.alloc (.cells #[.slice none 0 0, .int .i64 0] 35) := ⟨_, rfl⟩
          have hb : Below w7.heap.size w7 w8 := by rw [hw8]; exact (Below.refl _ _).alloc (Nat.le_refl _) _
          have hbs8 : w8.heap.size = w7.heap.size + 1 := by rw [hw8]; simp
          have S_8 := Lib.hid (S_7.out.step hb)
          clear S_7
          have Bl_8 := Lib.hid (Bl_7.out.step hb)
          clear Bl_7
          have BX0_8 := Lib.hid (BX0_7.out.step hb)
          clear BX0_7
          have BX1_8 := Lib.hid (BX1_7.out.step hb)
          clear BX1_7
          have Bk_8 := Lib.hid (Bk_7.out.trans (hb.mono (by omega)))
          clear Bk_7
          have X0_8 := Lib.hid (X0_7.out.step hb)
          clear X0_7
          have X1_8 := Lib.hid (X1_7.out.step hb)
          clear X1_7
          have NB_8 : Hid (Bx w7.heap.size [.slice none 0 0, .int .i64 0] w8) := by rw [hw8]; exact Bx.start w7 _ _
          have hbs8b : w7.heap.size < w8.heap.size := by omega
          clear hb z0_7 z1_7 z1_7b
          have z0_8 := BX0_8.out.it
          obtain ⟨z1_8, z1_8b⟩ := BX1_8.out.it
          rw [← hw8]
          clear hw8 hbs8
          refine hK.out _ _ ⟨z0_8, z1_8, z1_8b⟩ (fun hHeld => ?_); clear hK K; (try simp only [Act.put, List.setIfInBounds_toArray, List.set_cons_zero, List.set_cons_succ])
          refine wpAnyH_ready (rs := [5]) (by kernel_rfl) (by simp) ?_; refine AllReadyH.cons (o := ⟨some 38, _, _, _, _, _⟩) rfl (fun K hK => ?_) AllReadyH.nil; go_simp
          go_at_call 26
          refine (HSP.out B6 m6 d6 B7 m7 d7 _ M6.out NC6.out X0_8.out.graph M7.out X1_8.out.hist hx2a hx2b).mono ?_
          rintro e w9 ⟨BV0, mV0, dV0, CV, mV, dV, mid9, rfl, hml, hown, hown2, hmid1, hmid2, hb⟩
          have hbs9 : w8.heap.size ≤ w9.heap.size := hb.size
          clear X0_8
          clear X1_8
          have S_9 := Lib.hid (S_8.out.step hb)
          clear S_8
          have Bl_9 := Lib.hid (Bl_8.out.step hb)
          clear Bl_8
          have BX0_9 := Lib.hid (BX0_8.out.step hb)
          clear BX0_8
          have BX1_9 := Lib.hid (BX1_8.out.step hb)
          clear BX1_8
          have Bk_9 := Lib.hid (Bk_8.out.trans (hb.mono (by omega)))
          clear Bk_8
          have NB_9 := Lib.hid (NB_8.out.step hb)
          clear NB_8
          have V_9 : Hid (As w8.heap.size mid9 (OwH w8.heap.size mid9 BV0 mV0 dV0 F0) w9) := ⟨hown, hmid2, OwSS.loc _ _ _ _ _⟩
          have V1_9 : Hid (As mid9 w9.heap.size (OwR mid9 w9.heap.size 3 1 (.slice CV mV dV) mV (F1.map (Value.int .i64))) w9) := ⟨hown2, Nat.le_refl _, OwR.loc _ _ _ _ _ _ _⟩
          have HMLV := Lib.hid hml
          clear hown2 hml
          clear hown hb
          clear z0_8 z1_8 z1_8b
          have z0_9 := BX0_9.out.it
          obtain ⟨z1_9, z1_9b⟩ := BX1_9.out.it
          refine hK.out _ _ ⟨z0_9, z1_9, z1_9b⟩ (fun hHeld => ?_); clear hK K; (try simp only [Act.put, List.setIfInBounds_toArray, List.set_cons_zero, List.set_cons_succ])
          refine wpAnyH_take (i := 6) (oi := ⟨some 32, _, _, _, _, _⟩) (v := ?_) rfl (by kernel_rfl) (by kernel_rfl) (by kernel_rfl) (fun _ _ _ h => h) (Or.inl ⟨by rfl, ?_⟩) (by assumption) ?_; rotate_left; (focus (intro w hSw; (try dsimp only at hSw); go_simp; (try with_reducible rfl))); (try simp only [Act.put, List.setIfInBounds_toArray, List.set_cons_zero, List.set_cons_succ])
          refine wpAnyH_take (i := 7) (oi := ⟨some 39, _, _, _, _, _⟩) (v := ?_) rfl (by kernel_rfl) (by kernel_rfl) (by kernel_rfl) (fun _ _ _ h => h) (Or.inl ⟨by rfl, ?_⟩) (by assumption) ?_; rotate_left; (focus (intro w hSw; (try dsimp only at hSw); go_simp; (try with_reducible rfl))); (try simp only [Act.put, List.setIfInBounds_toArray, List.set_cons_zero, List.set_cons_succ])
          refine wpAnyH_take (i := 8) (oi := ⟨some 40, _, _, _, _, _⟩) (v := ?_) rfl (by kernel_rfl) (by kernel_rfl) (by kernel_rfl) (fun _ _ _ h => h) (Or.inl ⟨by rfl, ?_⟩) (by assumption) ?_; rotate_left; (focus (intro w hSw; (try dsimp only at hSw); go_simp; (try with_reducible rfl))); (try simp only [Act.put, List.setIfInBounds_toArray, List.set_cons_zero, List.set_cons_succ])
          refine wpAnyH_take (i := 9) (oi := ⟨some 41, _, _, _, _, _⟩) (v := ?_) rfl (by kernel_rfl) (by kernel_rfl) (by kernel_rfl) (fun _ _ _ h => h) (Or.inl ⟨by rfl, ?_⟩) (by assumption) ?_; rotate_left; (focus (intro w hSw; (try dsimp only at hSw); go_simp; (try with_reducible rfl))); (try simp only [Act.put, List.setIfInBounds_toArray, List.set_cons_zero, List.set_cons_succ])
          have hvl : mid9 ≤ w9.heap.size := V_9.out.le
          have hvl2 : w9.heap.size ≤ w9.heap.size := V1_9.out.le
          have y0 := NB_9.out.c 0 _ rfl
          have x0 := NB_9.out.f 0
          have y1 := NB_9.out.c 1 _ rfl
          have x1 := NB_9.out.f 1
          refine wpAnyH_ready (rs := [11]) (by kernel_rfl) (by simp) ?_; refine AllReadyH.cons (o := ⟨none, _, _, _, _, _⟩) rfl (fun K hK => ?_) AllReadyH.nil; go_simp
          obtain ⟨w10, hw10⟩ : ∃ W : World, W = ((w9.setCell ⟨w7.heap.size, 0, none⟩ (.slice BV0 mV0 dV0)).setCell ⟨w7.heap.size, 1, none⟩ (.int .i64 F0.ix)) := ⟨_, rfl⟩
          have ht : Tch (w7.heap.size) (w7.heap.size + 1) w9 w10 := by rw [hw10]; exact ((Tch.refl _ _ _).trans (Bx.tch _ 0 _)).trans (Bx.tch _ 1 _)
          have NC : Hid (Bx (w7.heap.size) [.slice BV0 mV0 dV0, .int .i64 F0.ix] w10) := by rw [hw10]; exact ((NB_9.out.set 0 (by simp) (.slice BV0 mV0 dV0)).set 1 (by simp) (.int .i64 F0.ix))
          have hbs10 := ht.size
          have S_10 := Lib.hid (S_9.out.turn ht (by omega))
          clear S_9
          have Bl_10 := Lib.hid (Bl_9.out.turn ht (by omega))
          clear Bl_9
          have BX0_10 := Lib.hid (BX0_9.out.turn ht (by omega))
          clear BX0_9
          have BX1_10 := Lib.hid (BX1_9.out.turn ht (by omega))
          clear BX1_9
          have Bk_10 := Lib.hid (Bk_9.out.trans (ht.below (by omega) (by omega)))
          clear Bk_9
          clear NB_9
          have V_10 := Lib.hid (V_9.out.turn ht (by omega))
          clear V_9
          have V1_10 := Lib.hid (V1_9.out.turn ht (by omega))
          clear V1_9
          clear ht y0 x0 y1 x1 z0_9 z1_9 z1_9b
          have z0_10 := BX0_10.out.it
          obtain ⟨z1_10, z1_10b⟩ := BX1_10.out.it
          rw [← hw10]
          clear hw10
          refine hK.out _ _ ⟨z0_10, z1_10, z1_10b⟩ (fun hHeld => ?_); clear hK K; (try simp only [Act.put, List.setIfInBounds_toArray, List.set_cons_zero, List.set_cons_succ])
          refine wpAnyH_ready (rs := [12]) (by kernel_rfl) (by simp) ?_; refine AllReadyH.cons (o := ⟨some 9, _, _, _, _, _⟩) rfl (fun K hK => ?_) AllReadyH.nil; go_simp
          refine hK.out _ _ ⟨z0_10, z1_10, z1_10b⟩ (fun hHeld => ?_); clear hK K; (try simp only [Act.put, List.setIfInBounds_toArray, List.set_cons_zero, List.set_cons_succ])
          refine wpAnyH_ready (rs := [13]) (by kernel_rfl) (by simp) ?_; refine AllReadyH.cons (o := ⟨some 10, _, _, _, _, _⟩) rfl (fun K hK => ?_) AllReadyH.nil; go_simp
          refine hK.out _ _ ⟨z0_10, z1_10, z1_10b⟩ (fun hHeld => ?_); clear hK K; (try simp only [Act.put, List.setIfInBounds_toArray, List.set_cons_zero, List.set_cons_succ])
          refine wpAnyH_done (by kernel_rfl) ?_ _
          go_wp2_with fail
          go_meet
          exact ⟨w7.heap.size, w8.heap.size, w9.heap.size, _, _, _, _, _, _, mid9, rfl, rfl, rfl, V_10.out, Bx.as2 NC.out, by omega, by omega, by omega, Bk_10.out, HMLV.out, V1_10.out, by omega, by omega⟩
      · go_simp
        obtain ⟨w7, hw7⟩ : ∃ W : World, W = w6.alloc (.cells #[.slice none 0 0, .int .i64 0] 35) := ⟨_, rfl⟩
        have hb : Below w6.heap.size w6 w7 := by rw [hw7]; exact (Below.refl _ _).alloc (Nat.le_refl _) _
        have hbs7 : w7.heap.size = w6.heap.size + 1 := by rw [hw7]; simp
        have S_7 := Lib.hid (S_6.out.step hb)
        clear S_6
        have Bl_7 := Lib.hid (Bl_6.out.step hb)
        clear Bl_6
        have BX0_7 := Lib.hid (BX0_6.out.step hb)
        clear BX0_6
        have BX1_7 := Lib.hid (BX1_6.out.step hb)
        clear BX1_6
        have Bk_7 := Lib.hid (Bk_6.out.trans (hb.mono (by omega)))
        clear Bk_6
        have X0_7 := Lib.hid (X0_6.out.step hb)
        clear X0_6
        have NB_7 : Hid (Bx w6.heap.size [.slice none 0 0, .int .i64 0] w7) := by rw [hw7]; exact Bx.start w6 _ _
        have hbs7b : w6.heap.size < w7.heap.size := by omega
        clear hb z0_6 z1_6 z1_6b
        have z0_7 := BX0_7.out.it
        obtain ⟨z1_7, z1_7b⟩ := BX1_7.out.it
        rw [← hw7]
        clear hw7 hbs7
        refine hK.out _ _ ⟨z0_7, z1_7, z1_7b⟩ (fun hHeld => ?_); clear hK K; (try simp only [Act.put, List.setIfInBounds_toArray, List.set_cons_zero, List.set_cons_succ])
        refine wpAnyH_ready (rs := [3]) (by kernel_rfl) (by simp) ?_; refine AllReadyH.cons (o := ⟨some 36, _, _, _, _, _⟩) rfl (fun K hK => ?_) AllReadyH.nil; go_simp
        go_at_call 12
        refine (laws_toHistory A1 n1 c1 st1 _ w.heap.size Bl_7.out.le HN1.out S_7.out.it.2 HEG1.out).mono ?_
        rintro e w8 ⟨B8, m8, d8, rfl, hown, hb⟩
        have hn := hown.1
        have M8 := Lib.hid hn
        have hbs8 : w7.heap.size ≤ w8.heap.size := hb.size
        have S_8 := Lib.hid (S_7.out.step hb)
        clear S_7
        have Bl_8 := Lib.hid (Bl_7.out.step hb)
        clear Bl_7
        have BX0_8 := Lib.hid (BX0_7.out.step hb)
        clear BX0_7
        have BX1_8 := Lib.hid (BX1_7.out.step hb)
        clear BX1_7
        have Bk_8 := Lib.hid (Bk_7.out.trans (hb.mono (by omega)))
        clear Bk_7
        have X0_8 := Lib.hid (X0_7.out.step hb)
        clear X0_7
        have NB_8 := Lib.hid (NB_7.out.step hb)
        clear NB_7
        have X1_8 := Lib.hid (hist_start hown)
        clear hown hb hn
        clear z0_7 z1_7 z1_7b
        have z0_8 := BX0_8.out.it
        obtain ⟨z1_8, z1_8b⟩ := BX1_8.out.it
        refine hK.out _ _ ⟨z0_8, z1_8, z1_8b⟩ (fun hHeld => ?_); clear hK K; (try simp only [Act.put, List.setIfInBounds_toArray, List.set_cons_zero, List.set_cons_succ])
        refine wpAnyH_ready (rs := [5]) (by kernel_rfl) (by simp) ?_; refine AllReadyH.cons (o := ⟨some 38, _, _, _, _, _⟩) rfl (fun K hK => ?_) AllReadyH.nil; go_simp
        go_at_call 26
        refine (HSP.out B6 m6 d6 B8 m8 d8 _ M6.out NC6.out X0_8.out.graph M8.out X1_8.out.hist hx2a hx2b).mono ?_
        rintro e w9 ⟨BV0, mV0, dV0, CV, mV, dV, mid9, rfl, hml, hown, hown2, hmid1, hmid2, hb⟩
        have hbs9 : w8.heap.size ≤ w9.heap.size := hb.size
        clear X0_8
        clear X1_8
        have S_9 := Lib.hid (S_8.out.step hb)
        clear S_8
        have Bl_9 := Lib.hid (Bl_8.out.step hb)
        clear Bl_8
        have BX0_9 := Lib.hid (BX0_8.out.step hb)
        clear BX0_8
        have BX1_9 := Lib.hid (BX1_8.out.step hb)
        clear BX1_8
        have Bk_9 := Lib.hid (Bk_8.out.trans (hb.mono (by omega)))
        clear Bk_8
        have NB_9 := Lib.hid (NB_8.out.step hb)
        clear NB_8
        have V_9 : Hid (As w8.heap.size mid9 (OwH w8.heap.size mid9 BV0 mV0 dV0 F0) w9) := ⟨hown, hmid2, OwSS.loc _ _ _ _ _⟩
        have V1_9 : Hid (As mid9 w9.heap.size (OwR mid9 w9.heap.size 3 1 (.slice CV mV dV) mV (F1.map (Value.int .i64))) w9) := ⟨hown2, Nat.le_refl _, OwR.loc _ _ _ _ _ _ _⟩
        have HMLV := Lib.hid hml
        clear hown2 hml
        clear hown hb
        clear z0_8 z1_8 z1_8b
        have z0_9 := BX0_9.out.it
        obtain ⟨z1_9, z1_9b⟩ := BX1_9.out.it
        refine hK.out _ _ ⟨z0_9, z1_9, z1_9b⟩ (fun hHeld => ?_); clear hK K; (try simp only [Act.put, List.setIfInBounds_toArray, List.set_cons_zero, List.set_cons_succ])
        refine wpAnyH_take (i := 6) (oi := ⟨some 32, _, _, _, _, _⟩) (v := ?_) rfl (by kernel_rfl) (by kernel_rfl) (by kernel_rfl) (fun _ _ _ h => h) (Or.inl ⟨by rfl, ?_⟩) (by assumption) ?_; rotate_left; (focus (intro w hSw; (try dsimp only at hSw); go_simp; (try with_reducible rfl))); (try simp only [Act.put, List.setIfInBounds_toArray, List.set_cons_zero, List.set_cons_succ])
        refine wpAnyH_take (i := 7) (oi := ⟨some 39, _, _, _, _, _⟩) (v := ?_) rfl (by kernel_rfl) (by kernel_rfl) (by kernel_rfl) (fun _ _ _ h => h) (Or.inl ⟨by rfl, ?_⟩) (by assumption) ?_; rotate_left; (focus (intro w hSw; (try dsimp only at hSw); go_simp; (try with_reducible rfl))); (try simp only [Act.put, List.setIfInBounds_toArray, List.set_cons_zero, List.set_cons_succ])
        refine wpAnyH_take (i := 8) (oi := ⟨some 40, _, _, _, _, _⟩) (v := ?_) rfl (by kernel_rfl) (by kernel_rfl) (by kernel_rfl) (fun _ _ _ h => h) (Or.inl ⟨by rfl, ?_⟩) (by assumption) ?_; rotate_left; (focus (intro w hSw; (try dsimp only at hSw); go_simp; (try with_reducible rfl))); (try simp only [Act.put, List.setIfInBounds_toArray, List.set_cons_zero, List.set_cons_succ])
        refine wpAnyH_take (i := 9) (oi := ⟨some 41, _, _, _, _, _⟩) (v := ?_) rfl (by kernel_rfl) (by kernel_rfl) (by kernel_rfl) (fun _ _ _ h => h) (Or.inl ⟨by rfl, ?_⟩) (by assumption) ?_; rotate_left; (focus (intro w hSw; (try dsimp only at hSw); go_simp; (try with_reducible rfl))); (try simp only [Act.put, List.setIfInBounds_toArray, List.set_cons_zero, List.set_cons_succ])
        have hvl : mid9 ≤ w9.heap.size := V_9.out.le
        have hvl2 : w9.heap.size ≤ w9.heap.size := V1_9.out.le
        have y0 := NB_9.out.c 0 _ rfl
        have x0 := NB_9.out.f 0
        have y1 := NB_9.out.c 1 _ rfl
        have x1 := NB_9.out.f 1
        refine wpAnyH_ready (rs := [11]) (by kernel_rfl) (by simp) ?_; refine AllReadyH.cons (o := ⟨none, _, _, _, _, _⟩) rfl (fun K hK => ?_) AllReadyH.nil; go_simp
        obtain ⟨w10, hw10⟩ : ∃ W : World, W = ((w9.setCell ⟨w6.heap.size, 0, none⟩ (.slice BV0 mV0 dV0)).setCell ⟨w6.heap.size, 1, none⟩ (.int .i64 F0.ix)) := ⟨_, rfl⟩
        have ht : Tch (w6.heap.size) (w6.heap.size + 1) w9 w10 := by rw [hw10]; exact ((Tch.refl _ _ _).trans (Bx.tch _ 0 _)).trans (Bx.tch _ 1 _)
        have NC : Hid (Bx (w6.heap.size) [.slice BV0 mV0 dV0, .int .i64 F0.ix] w10) := by rw [hw10]; exact ((NB_9.out.set 0 (by simp) (.slice BV0 mV0 dV0)).set 1 (by simp) (.int .i64 F0.ix))
        have hbs10 := ht.size
        have S_10 := Lib.hid (S_9.out.turn ht (by omega))
        clear S_9
        have Bl_10 := Lib.hid (Bl_9.out.turn ht (by omega))
        clear Bl_9
        have BX0_10 := Lib.hid (BX0_9.out.turn ht (by omega))
        clear BX0_9
        have BX1_10 := Lib.hid (BX1_9.out.turn ht (by omega))
        clear BX1_9
        have Bk_10 := Lib.hid (Bk_9.out.trans (ht.below (by omega) (by omega)))
        clear Bk_9
        clear NB_9
        have V_10 := Lib.hid (V_9.out.turn ht (by omega))
        clear V_9
        have V1_10 := Lib.hid (V1_9.out.turn ht (by omega))
        clear V1_9
        clear ht y0 x0 y1 x1 z0_9 z1_9 z1_9b
        have z0_10 := BX0_10.out.it
        obtain ⟨z1_10, z1_10b⟩ := BX1_10.out.it
        rw [← hw10]
        clear hw10
        refine hK.out _ _ ⟨z0_10, z1_10, z1_10b⟩ (fun hHeld => ?_); clear hK K; (try simp only [Act.put, List.setIfInBounds_toArray, List.set_cons_zero, List.set_cons_succ])
        refine wpAnyH_ready (rs := [12]) (by kernel_rfl) (by simp) ?_; refine AllReadyH.cons (o := ⟨some 9, _, _, _, _, _⟩) rfl (fun K hK => ?_) AllReadyH.nil; go_simp
        refine hK.out _ _ ⟨z0_10, z1_10, z1_10b⟩ (fun hHeld => ?_); clear hK K; (try simp only [Act.put, List.setIfInBounds_toArray, List.set_cons_zero, List.set_cons_succ])
        refine wpAnyH_ready (rs := [13]) (by kernel_rfl) (by simp) ?_; refine AllReadyH.cons (o := ⟨some 10, _, _, _, _, _⟩) rfl (fun K hK => ?_) AllReadyH.nil; go_simp
        refine hK.out _ _ ⟨z0_10, z1_10, z1_10b⟩ (fun hHeld => ?_); clear hK K; (try simp only [Act.put, List.setIfInBounds_toArray, List.set_cons_zero, List.set_cons_succ])
        refine wpAnyH_done (by kernel_rfl) ?_ _
        go_wp2_with fail
        go_meet
        exact ⟨w6.heap.size, w8.heap.size, w9.heap.size, _, _, _, _, _, _, mid9, rfl, rfl, rfl, V_10.out, Bx.as2 NC.out, by omega, by omega, by omega, Bk_10.out, HMLV.out, V1_10.out, by omega, by omega⟩
    · go_simp
      obtain ⟨w6, hw6⟩ : ∃ W : World, W = w5.alloc (.cells #[.slice none 0 0, .int .i64 0] 35) := ⟨_, rfl⟩
      have hb : Below w5.heap.size w5 w6 := by rw [hw6]; exact (Below.refl _ _).alloc (Nat.le_refl _) _
      have hbs6 : w6.heap.size = w5.heap.size + 1 := by rw [hw6]; simp
      have S_6 := Lib.hid (S_5.out.step hb)
      clear S_5
      have Bl_6 := Lib.hid (Bl_5.out.step hb)
      clear Bl_5
      have BX0_6 := Lib.hid (BX0_5.out.step hb)
      clear BX0_5
      have BX1_6 := Lib.hid (BX1_5.out.step hb)
      clear BX1_5
      have Bk_6 := Lib.hid (Bk_5.out.trans (hb.mono (by omega)))
      clear Bk_5
      have NB_6 : Hid (Bx w5.heap.size [.slice none 0 0, .int .i64 0] w6) := by rw [hw6]; exact Bx.start w5 _ _
      have hbs6b : w5.heap.size < w6.heap.size := by omega
      clear hb z0_5 z1_5 z1_5b
      have z0_6 := BX0_6.out.it
      obtain ⟨z1_6, z1_6b⟩ := BX1_6.out.it
      rw [← hw6]
      clear hw6 hbs6
      refine hK.out _ _ ⟨z0_6, z1_6, z1_6b⟩ (fun hHeld => ?_); clear hK K; (try simp only [Act.put, List.setIfInBounds_toArray, List.set_cons_zero, List.set_cons_succ])
      refine wpAnyH_ready (rs := [1]) (by kernel_rfl) (by simp) ?_; refine AllReadyH.cons (o := ⟨some 34, _, _, _, _, _⟩) rfl (fun K hK => ?_) AllReadyH.nil; go_simp
      go_at_call 11
      refine (laws_toGraph A0 n0 c0 gs0 _ w.heap.size Bl_6.out.le HN0.out S_6.out.it.1 HG0.out).mono ?_
      rintro e w7 ⟨B7, m7, d7, rfl, hn, hown, hb⟩
      have M7 := Lib.hid hn
      have NC7 := Lib.hid hown.ncap
      have hbs7 : w6.heap.size ≤ w7.heap.size := hb.size
      have S_7 := Lib.hid (S_6.out.step hb)
      clear S_6
      have Bl_7 := Lib.hid (Bl_6.out.step hb)
      clear Bl_6
      have BX0_7 := Lib.hid (BX0_6.out.step hb)
      clear BX0_6
      have BX1_7 := Lib.hid (BX1_6.out.step hb)
      clear BX1_6
      have Bk_7 := Lib.hid (Bk_6.out.trans (hb.mono (by omega)))
      clear Bk_6
      have NB_7 := Lib.hid (NB_6.out.step hb)
      clear NB_6
      have X0_7 := Lib.hid (graph_start hown)
      clear hown hb hn
      clear z0_6 z1_6 z1_6b
      have z0_7 := BX0_7.out.it
      obtain ⟨z1_7, z1_7b⟩ := BX1_7.out.it
      refine hK.out _ _ ⟨z0_7, z1_7, z1_7b⟩ (fun hHeld => ?_); clear hK K; (try simp only [Act.put, List.setIfInBounds_toArray, List.set_cons_zero, List.set_cons_succ])
      refine wpAnyH_ready (rs := [3]) (by kernel_rfl) (by simp) ?_; refine AllReadyH.cons (o := ⟨some 36, _, _, _, _, _⟩) rfl (fun K hK => ?_) AllReadyH.nil; go_simp
      go_at_call 12
      refine (laws_toHistory A1 n1 c1 st1 _ w.heap.size Bl_7.out.le HN1.out S_7.out.it.2 HEG1.out).mono ?_
      rintro e w8 ⟨B8, m8, d8, rfl, hown, hb⟩
      have hn := hown.1
      have M8 := Lib.hid hn
      have hbs8 : w7.heap.size ≤ w8.heap.size := hb.size
      have S_8 := Lib.hid (S_7.out.step hb)
      clear S_7
      have Bl_8 := Lib.hid (Bl_7.out.step hb)
      clear Bl_7
      have BX0_8 := Lib.hid (BX0_7.out.step hb)
      clear BX0_7
      have BX1_8 := Lib.hid (BX1_7.out.step hb)
      clear BX1_7
      have Bk_8 := Lib.hid (Bk_7.out.trans (hb.mono (by omega)))
      clear Bk_7
      have NB_8 := Lib.hid (NB_7.out.step hb)
      clear NB_7
      have X0_8 := Lib.hid (X0_7.out.step hb)
      clear X0_7
      have X1_8 := Lib.hid (hist_start hown)
      clear hown hb hn
      clear z0_7 z1_7 z1_7b
      have z0_8 := BX0_8.out.it
      obtain ⟨z1_8, z1_8b⟩ := BX1_8.out.it
      refine hK.out _ _ ⟨z0_8, z1_8, z1_8b⟩ (fun hHeld => ?_); clear hK K; (try simp only [Act.put, List.setIfInBounds_toArray, List.set_cons_zero, List.set_cons_succ])
      refine wpAnyH_ready (rs := [5]) (by kernel_rfl) (by simp) ?_; refine AllReadyH.cons (o := ⟨some 38, _, _, _, _, _⟩) rfl (fun K hK => ?_) AllReadyH.nil; go_simp
      go_at_call 26
      refine (HSP.out B7 m7 d7 B8 m8 d8 _ M7.out NC7.out X0_8.out.graph M8.out X1_8.out.hist hx2a hx2b).mono ?_
      rintro e w9 ⟨BV0, mV0, dV0, CV, mV, dV, mid9, rfl, hml, hown, hown2, hmid1, hmid2, hb⟩
      have hbs9 : w8.heap.size ≤ w9.heap.size := hb.size
      clear X0_8
      clear X1_8
      have S_9 := Lib.hid (S_8.out.step hb)
      clear S_8
      have Bl_9 := Lib.hid (Bl_8.out.step hb)
      clear Bl_8
      have BX0_9 := Lib.hid (BX0_8.out.step hb)
      clear BX0_8
      have BX1_9 := Lib.hid (BX1_8.out.step hb)
      clear BX1_8
      have Bk_9 := Lib.hid (Bk_8.out.trans (hb.mono (by omega)))
      clear Bk_8
      have NB_9 := Lib.hid (NB_8.out.step hb)
      clear NB_8
      have V_9 : Hid (As w8.heap.size mid9 (OwH w8.heap.size mid9 BV0 mV0 dV0 F0) w9) := ⟨hown, hmid2, OwSS.loc _ _ _ _ _⟩
      have V1_9 : Hid (As mid9 w9.heap.size (OwR mid9 w9.heap.size 3 1 (.slice CV mV dV) mV (F1.map (Value.int .i64))) w9) := ⟨hown2, Nat.le_refl _, OwR.loc _ _ _ _ _ _ _⟩
      have HMLV := Lib.hid hml
      clear hown2 hml
      clear hown hb
      clear z0_8 z1_8 z1_8b
      have z0_9 := BX0_9.out.it
      obtain ⟨z1_9, z1_9b⟩ := BX1_9.out.it
      refine hK.out _ _ ⟨z0_9, z1_9, z1_9b⟩ (fun hHeld => ?_); clear hK K; (try simp only [Act.put, List.setIfInBounds_toArray, List.set_cons_zero, List.set_cons_succ])
      refine wpAnyH_take (i := 6) (oi := ⟨some 32, _, _, _, _, _⟩) (v := ?_) rfl (by kernel_rfl) (by kernel_rfl) (by kernel_rfl) (fun _ _ _ h => h) (Or.inl ⟨by rfl, ?_⟩) (by assumption) ?_; rotate_left; (focus (intro w hSw; (try dsimp only at hSw); go_simp; (try with_reducible rfl))); (try simp only [Act.put, List.setIfInBounds_toArray, List.set_cons_zero, List.set_cons_succ])
      refine wpAnyH_take (i := 7) (oi := ⟨some 39, _, _, _, _, _⟩) (v := ?_) rfl (by kernel_rfl) (by kernel_rfl) (by kernel_rfl) (fun _ _ _ h => h) (Or.inl ⟨by rfl, ?_⟩) (by assumption) ?_; rotate_left; (focus (intro w hSw; (try dsimp only at hSw); go_simp; (try with_reducible rfl))); (try simp only [Act.put, List.setIfInBounds_toArray, List.set_cons_zero, List.set_cons_succ])
      refine wpAnyH_take (i := 8) (oi := ⟨some 40, _, _, _, _, _⟩) (v := ?_) rfl (by kernel_rfl) (by kernel_rfl) (by kernel_rfl) (fun _ _ _ h => h) (Or.inl ⟨by rfl, ?_⟩) (by assumption) ?_; rotate_left; (focus (intro w hSw; (try dsimp only at hSw); go_simp; (try with_reducible rfl))); (try simp only [Act.put, List.setIfInBounds_toArray, List.set_cons_zero, List.set_cons_succ])
      refine wpAnyH_take (i := 9) (oi := ⟨some 41, _, _, _, _, _⟩) (v := ?_) rfl (by kernel_rfl) (by kernel_rfl) (by kernel_rfl) (fun _ _ _ h => h) (Or.inl ⟨by rfl, ?_⟩) (by assumption) ?_; rotate_left; (focus (intro w hSw; (try dsimp only at hSw); go_simp; (try with_reducible rfl))); (try simp only [Act.put, List.setIfInBounds_toArray, List.set_cons_zero, List.set_cons_succ])
      have hvl : mid9 ≤ w9.heap.size := V_9.out.le
      have hvl2 : w9.heap.size ≤ w9.heap.size := V1_9.out.le
      have y0 := NB_9.out.c 0 _ rfl
      have x0 := NB_9.out.f 0
      have y1 := NB_9.out.c 1 _ rfl
      have x1 := NB_9.out.f 1
      refine wpAnyH_ready (rs := [11]) (by kernel_rfl) (by simp) ?_; refine AllReadyH.cons (o := ⟨none, _, _, _, _, _⟩) rfl (fun K hK => ?_) AllReadyH.nil; go_simp
      obtain ⟨w10, hw10⟩ : ∃ W : World, W = ((w9.setCell ⟨w5.heap.size, 0, none⟩ (.slice BV0 mV0 dV0)).setCell ⟨w5.heap.size, 1, none⟩ (.int .i64 F0.ix)) := ⟨_, rfl⟩
      have ht : Tch (w5.heap.size) (w5.heap.size + 1) w9 w10 := by rw [hw10]; exact ((Tch.refl _ _ _).trans (Bx.tch _ 0 _)).trans (Bx.tch _ 1 _)
      have NC : Hid (Bx (w5.heap.size) [.slice BV0 mV0 dV0, .int .i64 F0.ix] w10) := by rw [hw10]; exact ((NB_9.out.set 0 (by simp) (.slice BV0 mV0 dV0)).set 1 (by simp) (.int .i64 F0.ix))
      have hbs10 := ht.size
      have S_10 := Lib.hid (S_9.out.turn ht (by omega))
      clear S_9
      have Bl_10 := Lib.hid (Bl_9.out.turn ht (by omega))
      clear Bl_9
      have BX0_10 := Lib.hid (BX0_9.out.turn ht (by omega))
      clear BX0_9
      have BX1_10 := Lib.hid (BX1_9.out.turn ht (by omega))
      clear BX1_9
      have Bk_10 := Lib.hid (Bk_9.out.trans (ht.below (by omega) (by omega)))
      clear Bk_9
      clear NB_9
      have V_10 := Lib.hid (V_9.out.turn ht (by omega))
      clear V_9
      have V1_10 := Lib.hid (V1_9.out.turn ht (by omega))
      clear V1_9
      clear ht y0 x0 y1 x1 z0_9 z1_9 z1_9b
      have z0_10 := BX0_10.out.it
      obtain ⟨z1_10, z1_10b⟩ := BX1_10.out.it
      rw [← hw10]
      clear hw10
      refine hK.out _ _ ⟨z0_10, z1_10, z1_10b⟩ (fun hHeld => ?_); clear hK K; (try simp only [Act.put, List.setIfInBounds_toArray, List.set_cons_zero, List.set_cons_succ])
      refine wpAnyH_ready (rs := [12]) (by kernel_rfl) (by simp) ?_; refine AllReadyH.cons (o := ⟨some 9, _, _, _, _, _⟩) rfl (fun K hK => ?_) AllReadyH.nil; go_simp
      refine hK.out _ _ ⟨z0_10, z1_10, z1_10b⟩ (fun hHeld => ?_); clear hK K; (try simp only [Act.put, List.setIfInBounds_toArray, List.set_cons_zero, List.set_cons_succ])
      refine wpAnyH_ready (rs := [13]) (by kernel_rfl) (by simp) ?_; refine AllReadyH.cons (o := ⟨some 10, _, _, _, _, _⟩) rfl (fun K hK => ?_) AllReadyH.nil; go_simp
      refine hK.out _ _ ⟨z0_10, z1_10, z1_10b⟩ (fun hHeld => ?_); clear hK K; (try simp only [Act.put, List.setIfInBounds_toArray, List.set_cons_zero, List.set_cons_succ])
      refine wpAnyH_done (by kernel_rfl) ?_ _
      go_wp2_with fail
      go_meet
      exact ⟨w5.heap.size, w8.heap.size, w9.heap.size, _, _, _, _, _, _, mid9, rfl, rfl, rfl, V_10.out, Bx.as2 NC.out, by omega, by omega, by omega, Bk_10.out, HMLV.out, V1_10.out, by omega, by omega⟩
  obtain ⟨Vb, Vlo, Vhi, BV0, mV0, dV0, CV, mV, dV, Vmid, hc0, hc1, hc2, HV, HVB, hv1, hv2, hv3, HB0, HMLV, HV2, hv6, hv7⟩ := hcut
  subst hc0 hc1 hc2
  obtain ⟨w5, hw5⟩ : ∃ W : World, W = wc := ⟨_, rfl⟩
  rw [← hw5] at HV HVB HB0 HV2 ⊢
  clear hw5
  have hb := HB0.out
  have hs_5 : w4.heap.size ≤ w5.heap.size := by have := hb.size; (try simp only [World.size_alloc] at this); omega
  have S_5 := Lib.hid (S_4.out.step hb)
  clear S_4
  have Bl_5 := Lib.hid (Bl_4.out.step hb)
  clear Bl_4
  have BX0_5 := Lib.hid (BX0_4.out.step hb)
  clear BX0_4
  have BX1_5 := Lib.hid (BX1_4.out.step hb)
  clear BX1_4
  have V_5 := HV
  have VB_5 := HVB
  have hv4 := HV.out.le
  have hv5 := HVB.out.le
  have V1_5 := HV2
  have hv8 := HV2.out.le
  clear HV2
  clear HV HVB HB0 hb
  have q := BX0_5.out.it
  go_wp2_with fail
  refine (laws_toGraph A0 n0 c0 gs0 _ w.heap.size Bl_5.out.le HN0.out S_5.out.it.1 HG0.out).mono ?_
  rintro e w6 ⟨B6, m6, d6, rfl, hn, hown, hb⟩
  try simp only [World.size_alloc] at hown
  have hs_6 : w5.heap.size ≤ w6.heap.size := by have := hb.size; (try simp only [World.size_alloc] at this); omega
  have M6 := Lib.hid hn
  have NC6 := Lib.hid hown.ncap
  have S_6 := Lib.hid ((S_5.out.step hb).alloc (.cells #[.slice B6 m6 d6] 33))
  clear S_5
  have Bl_6 := Lib.hid ((Bl_5.out.step hb).alloc (.cells #[.slice B6 m6 d6] 33))
  clear Bl_5
  have BX0_6 := Lib.hid ((BX0_5.out.step hb).alloc (.cells #[.slice B6 m6 d6] 33))
  clear BX0_5
  have BX1_6 := Lib.hid ((BX1_5.out.step hb).alloc (.cells #[.slice B6 m6 d6] 33))
  clear BX1_5
  have V_6 := Lib.hid ((V_5.out.step hb).alloc (.cells #[.slice B6 m6 d6] 33))
  clear V_5
  have VB_6 := Lib.hid ((VB_5.out.step hb).alloc (.cells #[.slice B6 m6 d6] 33))
  clear VB_5
  have V1_6 := Lib.hid ((V1_5.out.step hb).alloc (.cells #[.slice B6 m6 d6] 33))
  clear V1_5
  have X0_6 := Lib.hid ((graph_start hown).alloc (.cells #[.slice B6 m6 d6] 33))
  have XB0_6 := Lib.hid (box_new w6 (.slice B6 m6 d6) 33)
  clear q hn hown hb
  obtain ⟨q, qb⟩ := BX1_6.out.it
  go_wp2_with fail
  refine (laws_toHistory A1 n1 c1 st1 _ w.heap.size Bl_6.out.le HN1.out S_6.out.it.2 HEG1.out).mono ?_
  rintro e w7 ⟨B7, m7, d7, rfl, hown, hb⟩
  have hn := hown.1
  try simp only [World.size_alloc] at hown
  have hs_7 : w6.heap.size + 1 ≤ w7.heap.size := by have := hb.size; (try simp only [World.size_alloc] at this); omega
  have M7 := Lib.hid hn
  have S_7 := Lib.hid ((S_6.out.step hb).alloc (.cells #[.slice B7 m7 d7, .int .i64 st1.ix] 35))
  clear S_6
  have Bl_7 := Lib.hid ((Bl_6.out.step hb).alloc (.cells #[.slice B7 m7 d7, .int .i64 st1.ix] 35))
  clear Bl_6
  have BX0_7 := Lib.hid ((BX0_6.out.step hb).alloc (.cells #[.slice B7 m7 d7, .int .i64 st1.ix] 35))
  clear BX0_6
  have BX1_7 := Lib.hid ((BX1_6.out.step hb).alloc (.cells #[.slice B7 m7 d7, .int .i64 st1.ix] 35))
  clear BX1_6
  have V_7 := Lib.hid ((V_6.out.step hb).alloc (.cells #[.slice B7 m7 d7, .int .i64 st1.ix] 35))
  clear V_6
  have VB_7 := Lib.hid ((VB_6.out.step hb).alloc (.cells #[.slice B7 m7 d7, .int .i64 st1.ix] 35))
  clear VB_6
  have V1_7 := Lib.hid ((V1_6.out.step hb).alloc (.cells #[.slice B7 m7 d7, .int .i64 st1.ix] 35))
  clear V1_6
  have X0_7 := Lib.hid ((X0_6.out.step hb).alloc (.cells #[.slice B7 m7 d7, .int .i64 st1.ix] 35))
  clear X0_6
  have XB0_7 := Lib.hid ((XB0_6.out.step hb).alloc (.cells #[.slice B7 m7 d7, .int .i64 st1.ix] 35))
  clear XB0_6
  have X1_7 := Lib.hid ((hist_start hown).alloc (.cells #[.slice B7 m7 d7, .int .i64 st1.ix] 35))
  have XB1_7 := Lib.hid (box2_new w7 (.slice B7 m7 d7) (.int .i64 st1.ix) 35)
  clear q qb hn hown hb
  have q0 := XB0_7.out.it
  obtain ⟨q1, q1b⟩ := XB1_7.out.it
  go_wp2_with fail
  refine (HIM.out B6 m6 d6 B7 m7 d7 _ M6.out NC6.out X0_7.out.graph M7.out X1_7.out.hist hx2a hx2b).mono ?_
  rintro e w8 ⟨B8, m8, d8, C8, mm8, dd8, mid8, rfl, hml, hown, hown2, hmid1, hmid2, hb⟩
  try simp only [World.size_alloc] at hmid1
  try simp only [World.size_alloc] at hown
  have hs_8 : w7.heap.size + 1 ≤ w8.heap.size := by have := hb.size; (try simp only [World.size_alloc] at this); omega
  have S_8 := Lib.hid ((S_7.out.step hb).alloc (.cells #[.slice B8 m8 d8, .int .i64 F0.ix] 35))
  clear S_7
  have Bl_8 := Lib.hid ((Bl_7.out.step hb).alloc (.cells #[.slice B8 m8 d8, .int .i64 F0.ix] 35))
  clear Bl_7
  have BX0_8 := Lib.hid ((BX0_7.out.step hb).alloc (.cells #[.slice B8 m8 d8, .int .i64 F0.ix] 35))
  clear BX0_7
  have BX1_8 := Lib.hid ((BX1_7.out.step hb).alloc (.cells #[.slice B8 m8 d8, .int .i64 F0.ix] 35))
  clear BX1_7
  have V_8 := Lib.hid ((V_7.out.step hb).alloc (.cells #[.slice B8 m8 d8, .int .i64 F0.ix] 35))
  clear V_7
  have VB_8 := Lib.hid ((VB_7.out.step hb).alloc (.cells #[.slice B8 m8 d8, .int .i64 F0.ix] 35))
  clear VB_7
  have V1_8 := Lib.hid ((V1_7.out.step hb).alloc (.cells #[.slice B8 m8 d8, .int .i64 F0.ix] 35))
  clear V1_7
  have X0_8 := Lib.hid ((X0_7.out.step hb).alloc (.cells #[.slice B8 m8 d8, .int .i64 F0.ix] 35))
  clear X0_7
  have XB0_8 := Lib.hid ((XB0_7.out.step hb).alloc (.cells #[.slice B8 m8 d8, .int .i64 F0.ix] 35))
  clear XB0_7
  have X1_8 := Lib.hid ((X1_7.out.step hb).alloc (.cells #[.slice B8 m8 d8, .int .i64 F0.ix] 35))
  clear X1_7
  have XB1_8 := Lib.hid ((XB1_7.out.step hb).alloc (.cells #[.slice B8 m8 d8, .int .i64 F0.ix] 35))
  clear XB1_7
  have G_8 : Hid (As _ mid8 _ _) := Lib.hid ((show As _ mid8 (fun w' => OwH _ mid8 B8 m8 d8 F0 w') w8 from ⟨hown, hmid2, OwSS.loc _ _ _ _ _⟩).alloc (.cells #[.slice B8 m8 d8, .int .i64 F0.ix] 35))
  clear hown
  have G1_8 := Lib.hid ((show As mid8 w8.heap.size (OwR mid8 w8.heap.size 3 1 (.slice C8 mm8 dd8) mm8 (F1.map (Value.int .i64))) w8 from ⟨hown2, Nat.le_refl _, OwR.loc _ _ _ _ _ _ _⟩).alloc (.cells #[.slice B8 m8 d8, .int .i64 F0.ix] 35))
  have HMLG := Lib.hid hml
  clear hml hown2
  have GB_8 := Lib.hid (box2_new w8 (.slice B8 m8 d8) (.int .i64 F0.ix) 35)
  clear hb
  clear q0 q1 q1b
  obtain ⟨bg, bgb⟩ := GB_8.out.it
  obtain ⟨bv, bvb⟩ := VB_8.out.it
  go_wp2_with fail
  refine (laws_eqHistory _ _ _ _ _ _ F0 F0 _ _ (Nat.le_refl _) G_8.out.it.1 V_8.out.it.1 G_8.out.hist V_8.out.hist HEB0.out HEB0.out).mono ?_
  rintro e w9 ⟨rfl, hb⟩
  have S_9 := Lib.hid (S_8.out.step hb)
  clear S_8
  have Bl_9 := Lib.hid (Bl_8.out.step hb)
  clear Bl_8
  have BX0_9 := Lib.hid (BX0_8.out.step hb)
  clear BX0_8
  have BX1_9 := Lib.hid (BX1_8.out.step hb)
  clear BX1_8
  have V_9 := Lib.hid (V_8.out.step hb)
  clear V_8
  have VB_9 := Lib.hid (VB_8.out.step hb)
  clear VB_8
  have V1_9 := Lib.hid (V1_8.out.step hb)
  clear V1_8
  have X0_9 := Lib.hid (X0_8.out.step hb)
  clear X0_8
  have XB0_9 := Lib.hid (XB0_8.out.step hb)
  clear XB0_8
  have X1_9 := Lib.hid (X1_8.out.step hb)
  clear X1_8
  have XB1_9 := Lib.hid (XB1_8.out.step hb)
  clear XB1_8
  have G_9 := Lib.hid (G_8.out.step hb)
  clear G_8
  have GB_9 := Lib.hid (GB_8.out.step hb)
  clear GB_8
  have G1_9 := Lib.hid (G1_8.out.step hb)
  clear G1_8
  clear hb bg bgb bv bvb
  go_wp2_with fail
  refine (laws_eqIntS _ _ _ _ _ _ F1 F1 _ w9.heap.size (Nat.le_refl _) HMLG.out HMLV.out G1_9.out.ints V1_9.out.ints (by have := HMLG.out; have := HL1.out; omega) (by have := HMLV.out; have := HL1.out; omega)).mono ?_
  rintro e w10 ⟨rfl, hb⟩
  have S_10 := Lib.hid (S_9.out.step hb)
  clear S_9
  have Bl_10 := Lib.hid (Bl_9.out.step hb)
  clear Bl_9
  have BX0_10 := Lib.hid (BX0_9.out.step hb)
  clear BX0_9
  have BX1_10 := Lib.hid (BX1_9.out.step hb)
  clear BX1_9
  have V_10 := Lib.hid (V_9.out.step hb)
  clear V_9
  have VB_10 := Lib.hid (VB_9.out.step hb)
  clear VB_9
  have V1_10 := Lib.hid (V1_9.out.step hb)
  clear V1_9
  have X0_10 := Lib.hid (X0_9.out.step hb)
  clear X0_9
  have XB0_10 := Lib.hid (XB0_9.out.step hb)
  clear XB0_9
  have X1_10 := Lib.hid (X1_9.out.step hb)
  clear X1_9
  have XB1_10 := Lib.hid (XB1_9.out.step hb)
  clear XB1_9
  have G_10 := Lib.hid (G_9.out.step hb)
  clear G_9
  have GB_10 := Lib.hid (GB_9.out.step hb)
  clear GB_9
  have G1_10 := Lib.hid (G1_9.out.step hb)
  clear G1_9
  clear hb
  have q := XB0_10.out.it
  have r := BX0_10.out.it
  have hle := Bl_10.out.le
  go_wp2
  go_region_with (first
    | (go_at_call 11; refine (laws_toGraph A0 n0 c0 gs0 _ w.heap.size ?_ HN0.out ?_ HG0.out).mono ?_; (exact hle); exact S_10.out.it.1; rintro e w11 ⟨B11, m11, d11, rfl, hn, hown, hb'⟩; have hb : Below w10.heap.size w10 w11 := below_of_drew hb'; have M11 := Lib.hid hn; have C11 := Lib.hid (hown.nodes); have S_11 := Lib.hid (S_10.out.step hb); have Bl_11 := Lib.hid (Bl_10.out.step hb); have BX0_11 := Lib.hid (BX0_10.out.step hb); have BX1_11 := Lib.hid (BX1_10.out.step hb); have V_11 := Lib.hid (V_10.out.step hb); have VB_11 := Lib.hid (VB_10.out.step hb); have V1_11 := Lib.hid (V1_10.out.step hb); have X0_11 := Lib.hid (X0_10.out.step hb); have XB0_11 := Lib.hid (XB0_10.out.step hb); have X1_11 := Lib.hid (X1_10.out.step hb); have XB1_11 := Lib.hid (XB1_10.out.step hb); have G_11 := Lib.hid (G_10.out.step hb); have GB_11 := Lib.hid (GB_10.out.step hb); have G1_11 := Lib.hid (G1_10.out.step hb); have q2 := XB0_11.out.it; have r2 := BX0_11.out.it; clear hn hown hb' hb)
    | (go_at_call 14; refine (laws_eqGraph B6 B11 m6 m11 d6 d11 gs0 gs0 _ w11.heap.size (Nat.le_refl _) M6.out M11.out X0_11.out.graph C11.out HG0.out HG0.out).mono ?_; rintro e w12 ⟨rfl, hb⟩; have S_12 := Lib.hid (S_11.out.step hb); have Bl_12 := Lib.hid (Bl_11.out.step hb); have BX0_12 := Lib.hid (BX0_11.out.step hb); have BX1_12 := Lib.hid (BX1_11.out.step hb); have V_12 := Lib.hid (V_11.out.step hb); have VB_12 := Lib.hid (VB_11.out.step hb); have V1_12 := Lib.hid (V1_11.out.step hb); have X0_12 := Lib.hid (X0_11.out.step hb); have XB0_12 := Lib.hid (XB0_11.out.step hb); have X1_12 := Lib.hid (X1_11.out.step hb); have XB1_12 := Lib.hid (XB1_11.out.step hb); have G_12 := Lib.hid (G_11.out.step hb); have GB_12 := Lib.hid (GB_11.out.step hb); have G1_12 := Lib.hid (G1_11.out.step hb)))
  all_goals
    clear hb q r q2 r2 hle M11 C11 S_11 Bl_11 BX0_11 BX1_11 V_11 VB_11 V1_11 X0_11 XB0_11 X1_11 XB1_11 G_11 GB_11 G1_11 S_10 Bl_10 BX0_10 BX1_10 V_10 VB_10 V1_10 X0_10 XB0_10 X1_10 XB1_10 G_10 GB_10 G1_10
    obtain ⟨q, qb⟩ := XB1_12.out.it
    obtain ⟨r, rb⟩ := BX1_12.out.it
    have hle := Bl_12.out.le
    go_wp2
    go_region_with (first
      | (go_at_call 12; refine (laws_toHistory A1 n1 c1 st1 _ w.heap.size ?_ HN1.out ?_ HEG1.out).mono ?_; (exact hle); exact S_12.out.it.2; rintro e w13 ⟨B13, m13, d13, rfl, hown, hb'⟩; have hb : Below w12.heap.size w12 w13 := below_of_drew hb'; have hn := hown.1; have M13 := Lib.hid hown.1; have C13 := Lib.hid hown.hist; have S_13 := Lib.hid (S_12.out.step hb); have Bl_13 := Lib.hid (Bl_12.out.step hb); have BX0_13 := Lib.hid (BX0_12.out.step hb); have BX1_13 := Lib.hid (BX1_12.out.step hb); have V_13 := Lib.hid (V_12.out.step hb); have VB_13 := Lib.hid (VB_12.out.step hb); have V1_13 := Lib.hid (V1_12.out.step hb); have X0_13 := Lib.hid (X0_12.out.step hb); have XB0_13 := Lib.hid (XB0_12.out.step hb); have X1_13 := Lib.hid (X1_12.out.step hb); have XB1_13 := Lib.hid (XB1_12.out.step hb); have G_13 := Lib.hid (G_12.out.step hb); have GB_13 := Lib.hid (GB_12.out.step hb); have G1_13 := Lib.hid (G1_12.out.step hb); obtain ⟨q2, q2b⟩ := XB1_13.out.it; obtain ⟨r2, r2b⟩ := BX1_13.out.it; clear hn hown hb' hb)
      | (go_at_call 15; refine (laws_eqHistory B7 B13 m7 d7 m13 d13 st1 st1 _ w13.heap.size (Nat.le_refl _) M7.out M13.out X1_13.out.hist C13.out HEG1.out HEG1.out).mono ?_; rintro e w14 ⟨rfl, hb⟩; have S_14 := Lib.hid (S_13.out.step hb); have Bl_14 := Lib.hid (Bl_13.out.step hb); have BX0_14 := Lib.hid (BX0_13.out.step hb); have BX1_14 := Lib.hid (BX1_13.out.step hb); have V_14 := Lib.hid (V_13.out.step hb); have VB_14 := Lib.hid (VB_13.out.step hb); have V1_14 := Lib.hid (V1_13.out.step hb); have X0_14 := Lib.hid (X0_13.out.step hb); have XB0_14 := Lib.hid (XB0_13.out.step hb); have X1_14 := Lib.hid (X1_13.out.step hb); have XB1_14 := Lib.hid (XB1_13.out.step hb); have G_14 := Lib.hid (G_13.out.step hb); have GB_14 := Lib.hid (GB_13.out.step hb); have G1_14 := Lib.hid (G1_13.out.step hb)))
    all_goals
      clear hb q qb r rb q2 q2b r2 r2b hle M13 C13 S_13 Bl_13 BX0_13 BX1_13 V_13 VB_13 V1_13 X0_13 XB0_13 X1_13 XB1_13 G_13 GB_13 G1_13 S_12 Bl_12 BX0_12 BX1_12 V_12 VB_12 V1_12 X0_12 XB0_12 X1_12 XB1_12 G_12 GB_12 G1_12
      have q := XB0_14.out.it
      go_wp2_with fail
      refine (markw_graph _ _ _ _ _ gs0 1 _ X0_14.out HG0.out (by omega) (by omega)).mono ?_
      rintro e w15 ⟨k0, rfl, hk0a, hk0b, ht⟩
      have S_15 := Lib.hid (S_14.out.turn ht (by omega))
      clear S_14
      have Bl_15 := Lib.hid (Bl_14.out.turn ht (by omega))
      clear Bl_14
      have BX0_15 := Lib.hid (BX0_14.out.turn ht (by omega))
      clear BX0_14
      have BX1_15 := Lib.hid (BX1_14.out.turn ht (by omega))
      clear BX1_14
      have V_15 := Lib.hid (V_14.out.turn ht (by omega))
      clear V_14
      have VB_15 := Lib.hid (VB_14.out.turn ht (by omega))
      clear VB_14
      have V1_15 := Lib.hid (V1_14.out.turn ht (by omega))
      clear V1_14
      clear X0_14
      have XB0_15 := Lib.hid (XB0_14.out.turn ht (by omega))
      clear XB0_14
      have X1_15 := Lib.hid (X1_14.out.turn ht (by omega))
      clear X1_14
      have XB1_15 := Lib.hid (XB1_14.out.turn ht (by omega))
      clear XB1_14
      have G_15 := Lib.hid (G_14.out.turn ht (by omega))
      clear G_14
      have GB_15 := Lib.hid (GB_14.out.turn ht (by omega))
      clear GB_14
      have G1_15 := Lib.hid (G1_14.out.turn ht (by omega))
      clear G1_14
      clear ht q
      obtain ⟨q, qb⟩ := XB1_15.out.it
      go_wp2_with fail
      refine (markw_hist _ _ _ _ _ st1 k0 _ X1_15.out HEG1.out (by omega) (by omega)).mono ?_
      rintro e w16 ⟨k1, rfl, hk1a, hk1b, ht⟩
      have S_16 := Lib.hid (S_15.out.turn ht (by omega))
      clear S_15
      have Bl_16 := Lib.hid (Bl_15.out.turn ht (by omega))
      clear Bl_15
      have BX0_16 := Lib.hid (BX0_15.out.turn ht (by omega))
      clear BX0_15
      have BX1_16 := Lib.hid (BX1_15.out.turn ht (by omega))
      clear BX1_15
      have V_16 := Lib.hid (V_15.out.turn ht (by omega))
      clear V_15
      have VB_16 := Lib.hid (VB_15.out.turn ht (by omega))
      clear VB_15
      have V1_16 := Lib.hid (V1_15.out.turn ht (by omega))
      clear V1_15
      have XB0_16 := Lib.hid (XB0_15.out.turn ht (by omega))
      clear XB0_15
      clear X1_15
      have XB1_16 := Lib.hid (XB1_15.out.turn ht (by omega))
      clear XB1_15
      have G_16 := Lib.hid (G_15.out.turn ht (by omega))
      clear G_15
      have GB_16 := Lib.hid (GB_15.out.turn ht (by omega))
      clear GB_15
      have G1_16 := Lib.hid (G1_15.out.turn ht (by omega))
      clear G1_15
      clear ht q qb
      obtain ⟨bg, bgb⟩ := GB_16.out.it
      obtain ⟨bv, bvb⟩ := VB_16.out.it
      go_wp2_with fail
      refine (laws_eqHistory _ _ _ _ _ _ F0 F0 _ _ (Nat.le_refl _) G_16.out.it.1 V_16.out.it.1 G_16.out.hist V_16.out.hist HEB0.out HEB0.out).mono ?_
      rintro e w17 ⟨rfl, hb⟩
      have S_17 := Lib.hid (S_16.out.step hb)
      clear S_16
      have Bl_17 := Lib.hid (Bl_16.out.step hb)
      clear Bl_16
      have BX0_17 := Lib.hid (BX0_16.out.step hb)
      clear BX0_16
      have BX1_17 := Lib.hid (BX1_16.out.step hb)
      clear BX1_16
      have V_17 := Lib.hid (V_16.out.step hb)
      clear V_16
      have VB_17 := Lib.hid (VB_16.out.step hb)
      clear VB_16
      have V1_17 := Lib.hid (V1_16.out.step hb)
      clear V1_16
      have XB0_17 := Lib.hid (XB0_16.out.step hb)
      clear XB0_16
      have XB1_17 := Lib.hid (XB1_16.out.step hb)
      clear XB1_16
      have G_17 := Lib.hid (G_16.out.step hb)
      clear G_16
      have GB_17 := Lib.hid (GB_16.out.step hb)
      clear GB_16
      have G1_17 := Lib.hid (G1_16.out.step hb)
      clear G1_16
      clear hb bg bgb bv bvb
      go_wp2_with fail
      refine (laws_eqIntS _ _ _ _ _ _ F1 F1 _ w17.heap.size (Nat.le_refl _) HMLG.out HMLV.out G1_17.out.ints V1_17.out.ints (by have := HMLG.out; have := HL1.out; omega) (by have := HMLV.out; have := HL1.out; omega)).mono ?_
      rintro e w18 ⟨rfl, hb⟩
      have S_18 := Lib.hid (S_17.out.step hb)
      clear S_17
      have Bl_18 := Lib.hid (Bl_17.out.step hb)
      clear Bl_17
      have BX0_18 := Lib.hid (BX0_17.out.step hb)
      clear BX0_17
      have BX1_18 := Lib.hid (BX1_17.out.step hb)
      clear BX1_17
      have V_18 := Lib.hid (V_17.out.step hb)
      clear V_17
      have VB_18 := Lib.hid (VB_17.out.step hb)
      clear VB_17
      have V1_18 := Lib.hid (V1_17.out.step hb)
      clear V1_17
      have XB0_18 := Lib.hid (XB0_17.out.step hb)
      clear XB0_17
      have XB1_18 := Lib.hid (XB1_17.out.step hb)
      clear XB1_17
      have G_18 := Lib.hid (G_17.out.step hb)
      clear G_17
      have GB_18 := Lib.hid (GB_17.out.step hb)
      clear GB_17
      have G1_18 := Lib.hid (G1_17.out.step hb)
      clear G1_17
      clear hb
      obtain ⟨bg, bgb⟩ := GB_18.out.it
      go_wp2_with fail
      refine (mark_hist _ _ _ _ _ F0 1 _ G_18.out HEB0.out (by omega) (by omega)).mono ?_
      rintro e w19 ⟨he, hg, ht⟩
      rw [← HQ0.out] at he
      subst he
      have S_19 := Lib.hid (S_18.out.turn ht (by omega))
      clear S_18
      have Bl_19 := Lib.hid (Bl_18.out.turn ht (by omega))
      clear Bl_18
      have BX0_19 := Lib.hid (BX0_18.out.turn ht (by omega))
      clear BX0_18
      have BX1_19 := Lib.hid (BX1_18.out.turn ht (by omega))
      clear BX1_18
      have V_19 := Lib.hid (V_18.out.turn ht (by omega))
      clear V_18
      have VB_19 := Lib.hid (VB_18.out.turn ht (by omega))
      clear VB_18
      have V1_19 := Lib.hid (V1_18.out.turn ht (by omega))
      clear V1_18
      have XB0_19 := Lib.hid (XB0_18.out.turn ht (by omega))
      clear XB0_18
      have XB1_19 := Lib.hid (XB1_18.out.turn ht (by omega))
      clear XB1_18
      have G_19 := Lib.hid hg
      clear G_18
      have GB_19 := Lib.hid (GB_18.out.turn ht (by omega))
      clear GB_18
      have G1_19 := Lib.hid (G1_18.out.turn ht (by omega))
      clear G1_18
      clear ht hg bg bgb
      have hmm8 : mm8 ≤ 2000000 := by have := HMLG.out; have := HL1.out; omega
      go_wp2_with fail
      refine (mark_ints _ _ mm8 _ _ (1 + t0) _ G1_19.out (by omega) (by omega) (by omega)).mono ?_
      rintro e w20 ⟨he, hg, ht⟩
      subst he
      have S_20 := Lib.hid (S_19.out.turn ht (by omega))
      clear S_19
      have Bl_20 := Lib.hid (Bl_19.out.turn ht (by omega))
      clear Bl_19
      have BX0_20 := Lib.hid (BX0_19.out.turn ht (by omega))
      clear BX0_19
      have BX1_20 := Lib.hid (BX1_19.out.turn ht (by omega))
      clear BX1_19
      have V_20 := Lib.hid (V_19.out.turn ht (by omega))
      clear V_19
      have VB_20 := Lib.hid (VB_19.out.turn ht (by omega))
      clear VB_19
      have V1_20 := Lib.hid (V1_19.out.turn ht (by omega))
      clear V1_19
      have XB0_20 := Lib.hid (XB0_19.out.turn ht (by omega))
      clear XB0_19
      have XB1_20 := Lib.hid (XB1_19.out.turn ht (by omega))
      clear XB1_19
      have G_20 := Lib.hid (G_19.out.turn ht (by omega))
      clear G_19
      have GB_20 := Lib.hid (GB_19.out.turn ht (by omega))
      clear GB_19
      have G1_20 := Lib.hid hg
      clear G1_19
      clear ht hg
      obtain ⟨bg, bgb⟩ := GB_20.out.it
      go_wp2_with fail
      refine (held_hist _ _ _ _ _ F0 1 _ G_20.out HEB0.out (by omega) (by omega)).mono ?_
      rintro e w21 ⟨he, hb⟩
      rw [← HQ0.out] at he
      subst he
      have S_21 := Lib.hid (S_20.out.step hb)
      clear S_20
      have Bl_21 := Lib.hid (Bl_20.out.step hb)
      clear Bl_20
      have BX0_21 := Lib.hid (BX0_20.out.step hb)
      clear BX0_20
      have BX1_21 := Lib.hid (BX1_20.out.step hb)
      clear BX1_20
      have V_21 := Lib.hid (V_20.out.step hb)
      clear V_20
      have VB_21 := Lib.hid (VB_20.out.step hb)
      clear VB_20
      have V1_21 := Lib.hid (V1_20.out.step hb)
      clear V1_20
      have XB0_21 := Lib.hid (XB0_20.out.step hb)
      clear XB0_20
      have XB1_21 := Lib.hid (XB1_20.out.step hb)
      clear XB1_20
      have G_21 := Lib.hid (G_20.out.step hb)
      clear G_20
      have GB_21 := Lib.hid (GB_20.out.step hb)
      clear GB_20
      have G1_21 := Lib.hid (G1_20.out.step hb)
      clear G1_20
      clear hb bg bgb
      go_wp2_with fail
      refine (held_ints _ _ mm8 _ (1 + t0) _ G1_21.out (by omega) (by omega) (by omega)).mono ?_
      rintro e w22 ⟨he, hb⟩
      subst he
      have S_22 := Lib.hid (S_21.out.step hb)
      clear S_21
      have Bl_22 := Lib.hid (Bl_21.out.step hb)
      clear Bl_21
      have BX0_22 := Lib.hid (BX0_21.out.step hb)
      clear BX0_21
      have BX1_22 := Lib.hid (BX1_21.out.step hb)
      clear BX1_21
      have V_22 := Lib.hid (V_21.out.step hb)
      clear V_21
      have VB_22 := Lib.hid (VB_21.out.step hb)
      clear VB_21
      have V1_22 := Lib.hid (V1_21.out.step hb)
      clear V1_21
      have XB0_22 := Lib.hid (XB0_21.out.step hb)
      clear XB0_21
      have XB1_22 := Lib.hid (XB1_21.out.step hb)
      clear XB1_21
      have G_22 := Lib.hid (G_21.out.step hb)
      clear G_21
      have GB_22 := Lib.hid (GB_21.out.step hb)
      clear GB_21
      have G1_22 := Lib.hid (G1_21.out.step hb)
      clear G1_21
      clear hb
      have hnn : ((1 : Int) + (t0 : Int) + (mm8 : Int) != 1 + (t0 : Int) + (mm8 : Int)) = false := by simp
      go_upto_region 35 with fail
      go_cut [19, 20, 21] from 123 to 132 (fun tb t20 t21 wx => ∃ (b lo hi : Nat) (BZ0 : Option Addr) (mZ0 dZ0 : Nat) (CZ : Option Addr) (mZ dZ : Nat) (mid : Nat), tb = .pointer (some ⟨b, 0, none⟩) ∧ t20 = .slice CZ mZ dZ ∧ t21 = .bool F2 ∧ Hid (As lo mid (OwH lo mid BZ0 mZ0 dZ0 F0) wx) ∧ Hid (As b (b + 1) (fun w' => w'.cell? ⟨b, 0, none⟩ = some (.slice BZ0 mZ0 dZ0) ∧ w'.cell? ⟨b, 1, none⟩ = some (.int .i64 F0.ix)) wx) ∧ w22.heap.size ≤ lo ∧ w22.heap.size ≤ b ∧ (b < lo ∨ hi ≤ b) ∧ Hid (Below w22.heap.size w22 wx) ∧ Hid (mZ = F1.length) ∧ Hid (As mid hi (OwR mid hi 3 1 (.slice CZ mZ dZ) mZ (F1.map (Value.int .i64))) wx) ∧ lo ≤ mid ∧ mid ≤ hi)
      have hla0 := S_22.out.le
      have hla1 := Bl_22.out.le
      have hla2 := BX0_22.out.le
      have hla3 := BX1_22.out.le
      have hla4 := V_22.out.le
      have hla5 := VB_22.out.le
      have hla6 := V1_22.out.le
      have hla7 := XB0_22.out.le
      have hla8 := XB1_22.out.le
      have hla9 := G_22.out.le
      have hla10 := GB_22.out.le
      have hla11 := G1_22.out.le
      case first =>
        have z0_22 := BX0_22.out.it
        obtain ⟨z1_22, z1_22b⟩ := BX1_22.out.it
        refine wp_region_held_drew (S := fun w' => w'.cell? ⟨w.heap.size, 0, none⟩ = some (.slice A0 n0 c0) ∧ w'.cell? ⟨w.heap.size + 1, 0, none⟩ = some (.slice A1 n1 c1) ∧ w'.cell? ⟨w.heap.size + 1, 1, none⟩ = some (.int .i64 st1.ix)) (by kernel_rfl) ⟨z0_22, z1_22, z1_22b⟩ (fun hHeld => ?_)
        clear hHeld z0_22 z1_22 z1_22b
        obtain ⟨w23, hw23⟩ : ∃ W : World, W = w22.drew := ⟨_, rfl⟩
        have hb : Below w22.heap.size w22 w23 := by rw [hw23]; exact (Below.refl _ _).drew
        rw [← hw23]
        clear hw23
        have hbs23 : w22.heap.size ≤ w23.heap.size := hb.size
        have S_23 := Lib.hid (S_22.out.step hb)
        clear S_22
        have Bl_23 := Lib.hid (Bl_22.out.step hb)
        clear Bl_22
        have BX0_23 := Lib.hid (BX0_22.out.step hb)
        clear BX0_22
        have BX1_23 := Lib.hid (BX1_22.out.step hb)
        clear BX1_22
        have V_23 := Lib.hid (V_22.out.step hb)
        clear V_22
        have VB_23 := Lib.hid (VB_22.out.step hb)
        clear VB_22
        have V1_23 := Lib.hid (V1_22.out.step hb)
        clear V1_22
        have XB0_23 := Lib.hid (XB0_22.out.step hb)
        clear XB0_22
        have XB1_23 := Lib.hid (XB1_22.out.step hb)
        clear XB1_22
        have G_23 := Lib.hid (G_22.out.step hb)
        clear G_22
        have GB_23 := Lib.hid (GB_22.out.step hb)
        clear GB_22
        have G1_23 := Lib.hid (G1_22.out.step hb)
        clear G1_22
        have Bk_23 := Lib.hid hb
        clear hb
        have z0_23 := BX0_23.out.it
        obtain ⟨z1_23, z1_23b⟩ := BX1_23.out.it
        have hHeld : w23.cell? ⟨w.heap.size, 0, none⟩ = some (.slice A0 n0 c0) ∧ w23.cell? ⟨w.heap.size + 1, 0, none⟩ = some (.slice A1 n1 c1) ∧ w23.cell? ⟨w.heap.size + 1, 1, none⟩ = some (.int .i64 st1.ix) := ⟨z0_23, z1_23, z1_23b⟩
        refine wpAnyH_take (i := 0) (oi := ⟨some 124, _, _, _, _, _⟩) (v := ?_) rfl (by kernel_rfl) (by kernel_rfl) (by kernel_rfl) (fun _ _ _ h => h) (Or.inl ⟨by rfl, ?_⟩) (by assumption) ?_; rotate_left; (focus (intro w hSw; (try dsimp only at hSw); go_simp; (try with_reducible rfl))); (try simp only [Act.put, List.setIfInBounds_toArray, List.set_cons_zero, List.set_cons_succ])
        refine wpAnyH_take (i := 2) (oi := ⟨some 126, _, _, _, _, _⟩) (v := ?_) rfl (by kernel_rfl) (by kernel_rfl) (by kernel_rfl) (fun _ _ _ h => h) (Or.inl ⟨by rfl, ?_⟩) (by assumption) ?_; rotate_left; (focus (intro w hSw; (try dsimp only at hSw); go_simp; (try with_reducible rfl))); (try simp only [Act.put, List.setIfInBounds_toArray, List.set_cons_zero, List.set_cons_succ])
        refine wpAnyH_take (i := 4) (oi := ⟨some 128, _, _, _, _, _⟩) (v := ?_) rfl (by kernel_rfl) (by kernel_rfl) (by kernel_rfl) (fun _ _ _ h => h) (Or.inl ⟨by rfl, ?_⟩) (by assumption) ?_; rotate_left; (focus (intro w hSw; (try dsimp only at hSw); go_simp; (try with_reducible rfl))); (try simp only [Act.put, List.setIfInBounds_toArray, List.set_cons_zero, List.set_cons_succ])
        refine wpAnyH_ready (rs := [1, 10]) (by kernel_rfl) (by simp) ?_; refine AllReadyH.cons (o := ⟨some 125, _, _, _, _, _⟩) rfl (fun K hK => ?_) (AllReadyH.cons (o := ⟨some 19, _, _, _, _, _⟩) rfl (fun K hK => ?_) AllReadyH.nil)
        · go_simp
          go_at_call 11
          refine (laws_toGraph A0 n0 c0 gs0 _ w.heap.size Bl_23.out.le HN0.out S_23.out.it.1 HG0.out).mono ?_
          rintro e w24 ⟨B24, m24, d24, rfl, hn, hown, hb⟩
          have M24 := Lib.hid hn
          have NC24 := Lib.hid hown.ncap
          have hbs24 : w23.heap.size ≤ w24.heap.size := hb.size
          have S_24 := Lib.hid (S_23.out.step hb)
          clear S_23
          have Bl_24 := Lib.hid (Bl_23.out.step hb)
          clear Bl_23
          have BX0_24 := Lib.hid (BX0_23.out.step hb)
          clear BX0_23
          have BX1_24 := Lib.hid (BX1_23.out.step hb)
          clear BX1_23
          have V_24 := Lib.hid (V_23.out.step hb)
          clear V_23
          have VB_24 := Lib.hid (VB_23.out.step hb)
          clear VB_23
          have V1_24 := Lib.hid (V1_23.out.step hb)
          clear V1_23
          have XB0_24 := Lib.hid (XB0_23.out.step hb)
          clear XB0_23
          have XB1_24 := Lib.hid (XB1_23.out.step hb)
          clear XB1_23
          have G_24 := Lib.hid (G_23.out.step hb)
          clear G_23
          have GB_24 := Lib.hid (GB_23.out.step hb)
          clear GB_23
          have G1_24 := Lib.hid (G1_23.out.step hb)
          clear G1_23
          have Bk_24 := Lib.hid (Bk_23.out.trans (hb.mono (by omega)))
          clear Bk_23
          have X0_24 := Lib.hid (graph_start hown)
          clear hown hb hn
          clear z0_23 z1_23 z1_23b
          have z0_24 := BX0_24.out.it
          obtain ⟨z1_24, z1_24b⟩ := BX1_24.out.it
          refine hK.out _ _ ⟨z0_24, z1_24, z1_24b⟩ (fun hHeld => ?_); clear hK K; (try simp only [Act.put, List.setIfInBounds_toArray, List.set_cons_zero, List.set_cons_succ])
          refine wpAnyH_ready (rs := [3, 10]) (by kernel_rfl) (by simp) ?_; refine AllReadyH.cons (o := ⟨some 127, _, _, _, _, _⟩) rfl (fun K hK => ?_) (AllReadyH.cons (o := ⟨some 19, _, _, _, _, _⟩) rfl (fun K hK => ?_) AllReadyH.nil)
          · go_simp
            go_at_call 12
            refine (laws_toHistory A1 n1 c1 st1 _ w.heap.size Bl_24.out.le HN1.out S_24.out.it.2 HEG1.out).mono ?_
            rintro e w25 ⟨B25, m25, d25, rfl, hown, hb⟩
            have hn := hown.1
            have M25 := Lib.hid hn
            have hbs25 : w24.heap.size ≤ w25.heap.size := hb.size
            have S_25 := Lib.hid (S_24.out.step hb)
            clear S_24
            have Bl_25 := Lib.hid (Bl_24.out.step hb)
            clear Bl_24
            have BX0_25 := Lib.hid (BX0_24.out.step hb)
            clear BX0_24
            have BX1_25 := Lib.hid (BX1_24.out.step hb)
            clear BX1_24
            have V_25 := Lib.hid (V_24.out.step hb)
            clear V_24
            have VB_25 := Lib.hid (VB_24.out.step hb)
            clear VB_24
            have V1_25 := Lib.hid (V1_24.out.step hb)
            clear V1_24
            have XB0_25 := Lib.hid (XB0_24.out.step hb)
            clear XB0_24
            have XB1_25 := Lib.hid (XB1_24.out.step hb)
            clear XB1_24
            have G_25 := Lib.hid (G_24.out.step hb)
            clear G_24
            have GB_25 := Lib.hid (GB_24.out.step hb)
            clear GB_24
            have G1_25 := Lib.hid (G1_24.out.step hb)
            clear G1_24
            have Bk_25 := Lib.hid (Bk_24.out.trans (hb.mono (by omega)))
            clear Bk_24
            have X0_25 := Lib.hid (X0_24.out.step hb)
            clear X0_24
            have X1_25 := Lib.hid (hist_start hown)
            clear hown hb hn
            clear z0_24 z1_24 z1_24b
            have z0_25 := BX0_25.out.it
            obtain ⟨z1_25, z1_25b⟩ := BX1_25.out.it
            refine hK.out _ _ ⟨z0_25, z1_25, z1_25b⟩ (fun hHeld => ?_); clear hK K; (try simp only [Act.put, List.setIfInBounds_toArray, List.set_cons_zero, List.set_cons_succ])
            refine wpAnyH_ready (rs := [5, 10]) (by kernel_rfl) (by simp) ?_; refine AllReadyH.cons (o := ⟨some 129, _, _, _, _, _⟩) rfl (fun K hK => ?_) (AllReadyH.cons (o := ⟨some 19, _, _, _, _, _⟩) rfl (fun K hK => ?_) AllReadyH.nil)
            · go_simp
              go_at_call 27
              refine (HIM.out B24 m24 d24 B25 m25 d25 _ M24.out NC24.out X0_25.out.graph M25.out X1_25.out.hist hx2a hx2b).mono ?_
              rintro e w26 ⟨BZ0, mZ0, dZ0, CZ, mZ, dZ, mid26, rfl, hml, hown, hown2, hmid1, hmid2, hb⟩
              have hbs26 : w25.heap.size ≤ w26.heap.size := hb.size
              clear X0_25
              clear X1_25
              have S_26 := Lib.hid (S_25.out.step hb)
              clear S_25
              have Bl_26 := Lib.hid (Bl_25.out.step hb)
              clear Bl_25
              have BX0_26 := Lib.hid (BX0_25.out.step hb)
              clear BX0_25
              have BX1_26 := Lib.hid (BX1_25.out.step hb)
              clear BX1_25
              have V_26 := Lib.hid (V_25.out.step hb)
              clear V_25
              have VB_26 := Lib.hid (VB_25.out.step hb)
              clear VB_25
              have V1_26 := Lib.hid (V1_25.out.step hb)
              clear V1_25
              have XB0_26 := Lib.hid (XB0_25.out.step hb)
              clear XB0_25
              have XB1_26 := Lib.hid (XB1_25.out.step hb)
              clear XB1_25
              have G_26 := Lib.hid (G_25.out.step hb)
              clear G_25
              have GB_26 := Lib.hid (GB_25.out.step hb)
              clear GB_25
              have G1_26 := Lib.hid (G1_25.out.step hb)
              clear G1_25
              have Bk_26 := Lib.hid (Bk_25.out.trans (hb.mono (by omega)))
              clear Bk_25
              have Z_26 : Hid (As w25.heap.size mid26 (OwH w25.heap.size mid26 BZ0 mZ0 dZ0 F0) w26) := ⟨hown, hmid2, OwSS.loc _ _ _ _ _⟩
              have Z1_26 : Hid (As mid26 w26.heap.size (OwR mid26 w26.heap.size 3 1 (.slice CZ mZ dZ) mZ (F1.map (Value.int .i64))) w26) := ⟨hown2, Nat.le_refl _, OwR.loc _ _ _ _ _ _ _⟩
              have HMLZ := Lib.hid hml
              clear hown2 hml
              clear hown hb
              clear z0_25 z1_25 z1_25b
              have z0_26 := BX0_26.out.it
              obtain ⟨z1_26, z1_26b⟩ := BX1_26.out.it
              refine hK.out _ _ ⟨z0_26, z1_26, z1_26b⟩ (fun hHeld => ?_); clear hK K; (try simp only [Act.put, List.setIfInBounds_toArray, List.set_cons_zero, List.set_cons_succ])
              refine wpAnyH_take (i := 6) (oi := ⟨some 123, _, _, _, _, _⟩) (v := ?_) rfl (by kernel_rfl) (by kernel_rfl) (by kernel_rfl) (fun _ _ _ h => h) (Or.inl ⟨by rfl, ?_⟩) (by assumption) ?_; rotate_left; (focus (intro w hSw; (try dsimp only at hSw); go_simp; (try with_reducible rfl))); (try simp only [Act.put, List.setIfInBounds_toArray, List.set_cons_zero, List.set_cons_succ])
              refine wpAnyH_take (i := 7) (oi := ⟨some 130, _, _, _, _, _⟩) (v := ?_) rfl (by kernel_rfl) (by kernel_rfl) (by kernel_rfl) (fun _ _ _ h => h) (Or.inl ⟨by rfl, ?_⟩) (by assumption) ?_; rotate_left; (focus (intro w hSw; (try dsimp only at hSw); go_simp; (try with_reducible rfl))); (try simp only [Act.put, List.setIfInBounds_toArray, List.set_cons_zero, List.set_cons_succ])
              refine wpAnyH_take (i := 8) (oi := ⟨some 131, _, _, _, _, _⟩) (v := ?_) rfl (by kernel_rfl) (by kernel_rfl) (by kernel_rfl) (fun _ _ _ h => h) (Or.inl ⟨by rfl, ?_⟩) (by assumption) ?_; rotate_left; (focus (intro w hSw; (try dsimp only at hSw); go_simp; (try with_reducible rfl))); (try simp only [Act.put, List.setIfInBounds_toArray, List.set_cons_zero, List.set_cons_succ])
              refine wpAnyH_take (i := 9) (oi := ⟨some 132, _, _, _, _, _⟩) (v := ?_) rfl (by kernel_rfl) (by kernel_rfl) (by kernel_rfl) (fun _ _ _ h => h) (Or.inl ⟨by rfl, ?_⟩) (by assumption) ?_; rotate_left; (focus (intro w hSw; (try dsimp only at hSw); go_simp; (try with_reducible rfl))); (try simp only [Act.put, List.setIfInBounds_toArray, List.set_cons_zero, List.set_cons_succ])
              refine wpAnyH_ready (rs := [10]) (by kernel_rfl) (by simp) ?_; refine AllReadyH.cons (o := ⟨some 19, _, _, _, _, _⟩) rfl (fun K hK => ?_) AllReadyH.nil; go_simp
              obtain ⟨w27, hw27⟩ : ∃ W : World, W = w26.alloc (.cells #[.slice none 0 0, .int .i64 0] 35) := ⟨_, rfl⟩
              have hb : Below w26.heap.size w26 w27 := by rw [hw27]; exact (Below.refl _ _).alloc (Nat.le_refl _) _
              have hbs27 : w27.heap.size = w26.heap.size + 1 := by rw [hw27]; simp
              have S_27 := Lib.hid (S_26.out.step hb)
              clear S_26
              have Bl_27 := Lib.hid (Bl_26.out.step hb)
              clear Bl_26
              have BX0_27 := Lib.hid (BX0_26.out.step hb)
              clear BX0_26
              have BX1_27 := Lib.hid (BX1_26.out.step hb)
              clear BX1_26
              have V_27 := Lib.hid (V_26.out.step hb)
              clear V_26
              have VB_27 := Lib.hid (VB_26.out.step hb)
              clear VB_26
              have V1_27 := Lib.hid (V1_26.out.step hb)
              clear V1_26
              have XB0_27 := Lib.hid (XB0_26.out.step hb)
              clear XB0_26
              have XB1_27 := Lib.hid (XB1_26.out.step hb)
              clear XB1_26
              have G_27 := Lib.hid (G_26.out.step hb)
              clear G_26
              have GB_27 := Lib.hid (GB_26.out.step hb)
              clear GB_26
              have G1_27 := Lib.hid (G1_26.out.step hb)
              clear G1_26
              have Bk_27 := Lib.hid (Bk_26.out.trans (hb.mono (by omega)))
              clear Bk_26
              have Z_27 := Lib.hid (Z_26.out.step hb)
              clear Z_26
              have Z1_27 := Lib.hid (Z1_26.out.step hb)
              clear Z1_26
              have NB_27 : Hid (Bx w26.heap.size [.slice none 0 0, .int .i64 0] w27) := by rw [hw27]; exact Bx.start w26 _ _
              have hbs27b : w26.heap.size < w27.heap.size := by omega
              clear hb z0_26 z1_26 z1_26b
              have z0_27 := BX0_27.out.it
              obtain ⟨z1_27, z1_27b⟩ := BX1_27.out.it
              rw [← hw27]
              clear hw27 hbs27
              refine hK.out _ _ ⟨z0_27, z1_27, z1_27b⟩ (fun hHeld => ?_); clear hK K; (try simp only [Act.put, List.setIfInBounds_toArray, List.set_cons_zero, List.set_cons_succ])
              have hvl : mid26 ≤ w27.heap.size := Z_27.out.le
              have hvl2 : w26.heap.size ≤ w27.heap.size := Z1_27.out.le
              have y0 := NB_27.out.c 0 _ rfl
              have x0 := NB_27.out.f 0
              have y1 := NB_27.out.c 1 _ rfl
              have x1 := NB_27.out.f 1
              refine wpAnyH_ready (rs := [11]) (by kernel_rfl) (by simp) ?_; refine AllReadyH.cons (o := ⟨none, _, _, _, _, _⟩) rfl (fun K hK => ?_) AllReadyH.nil; go_simp
              obtain ⟨w28, hw28⟩ : ∃ W : World, W = ((w27.setCell ⟨w26.heap.size, 0, none⟩ (.slice BZ0 mZ0 dZ0)).setCell ⟨w26.heap.size, 1, none⟩ (.int .i64 F0.ix)) := ⟨_, rfl⟩
              have ht : Tch (w26.heap.size) (w26.heap.size + 1) w27 w28 := by rw [hw28]; exact ((Tch.refl _ _ _).trans (Bx.tch _ 0 _)).trans (Bx.tch _ 1 _)
              have NC : Hid (Bx (w26.heap.size) [.slice BZ0 mZ0 dZ0, .int .i64 F0.ix] w28) := by rw [hw28]; exact ((NB_27.out.set 0 (by simp) (.slice BZ0 mZ0 dZ0)).set 1 (by simp) (.int .i64 F0.ix))
              have hbs28 := ht.size
              have S_28 := Lib.hid (S_27.out.turn ht (by omega))
              clear S_27
              have Bl_28 := Lib.hid (Bl_27.out.turn ht (by omega))
              clear Bl_27
              have BX0_28 := Lib.hid (BX0_27.out.turn ht (by omega))
              clear BX0_27
              have BX1_28 := Lib.hid (BX1_27.out.turn ht (by omega))
              clear BX1_27
              have V_28 := Lib.hid (V_27.out.turn ht (by omega))
              clear V_27
              have VB_28 := Lib.hid (VB_27.out.turn ht (by omega))
              clear VB_27
              have V1_28 := Lib.hid (V1_27.out.turn ht (by omega))
              clear V1_27
              have XB0_28 := Lib.hid (XB0_27.out.turn ht (by omega))
              clear XB0_27
              have XB1_28 := Lib.hid (XB1_27.out.turn ht (by omega))
              clear XB1_27
              have G_28 := Lib.hid (G_27.out.turn ht (by omega))
              clear G_27
              have GB_28 := Lib.hid (GB_27.out.turn ht (by omega))
              clear GB_27
              have G1_28 := Lib.hid (G1_27.out.turn ht (by omega))
              clear G1_27
              have Bk_28 := Lib.hid (Bk_27.out.trans (ht.below (by omega) (by omega)))
              clear Bk_27
              have Z_28 := Lib.hid (Z_27.out.turn ht (by omega))
              clear Z_27
              have Z1_28 := Lib.hid (Z1_27.out.turn ht (by omega))
              clear Z1_27
              clear NB_27
              clear ht y0 x0 y1 x1 z0_27 z1_27 z1_27b
              have z0_28 := BX0_28.out.it
              obtain ⟨z1_28, z1_28b⟩ := BX1_28.out.it
              rw [← hw28]
              clear hw28
              refine hK.out _ _ ⟨z0_28, z1_28, z1_28b⟩ (fun hHeld => ?_); clear hK K; (try simp only [Act.put, List.setIfInBounds_toArray, List.set_cons_zero, List.set_cons_succ])
              refine wpAnyH_ready (rs := [12]) (by kernel_rfl) (by simp) ?_; refine AllReadyH.cons (o := ⟨some 20, _, _, _, _, _⟩) rfl (fun K hK => ?_) AllReadyH.nil; go_simp
              refine hK.out _ _ ⟨z0_28, z1_28, z1_28b⟩ (fun hHeld => ?_); clear hK K; (try simp only [Act.put, List.setIfInBounds_toArray, List.set_cons_zero, List.set_cons_succ])
              refine wpAnyH_ready (rs := [13]) (by kernel_rfl) (by simp) ?_; refine AllReadyH.cons (o := ⟨some 21, _, _, _, _, _⟩) rfl (fun K hK => ?_) AllReadyH.nil; go_simp
              refine hK.out _ _ ⟨z0_28, z1_28, z1_28b⟩ (fun hHeld => ?_); clear hK K; (try simp only [Act.put, List.setIfInBounds_toArray, List.set_cons_zero, List.set_cons_succ])
              refine wpAnyH_done (by kernel_rfl) ?_ _
              go_wp2_with fail
              go_meet
              exact ⟨w26.heap.size, w25.heap.size, w26.heap.size, _, _, _, _, _, _, mid26, rfl, rfl, rfl, Z_28.out, Bx.as2 NC.out, by omega, by omega, by omega, Bk_28.out, HMLZ.out, Z1_28.out, by omega, by omega⟩
            · go_simp
              obtain ⟨w26, hw26⟩ : ∃ W : World, W = w25.alloc (.cells #[.slice none 0 0, .int .i64 0] 35) := ⟨_, rfl⟩
              have hb : Below w25.heap.size w25 w26 := by rw [hw26]; exact (Below.refl _ _).alloc (Nat.le_refl _) _
              have hbs26 : w26.heap.size = w25.heap.size + 1 := by rw [hw26]; simp
              have S_26 := Lib.hid (S_25.out.step hb)
              clear S_25
              have Bl_26 := Lib.hid (Bl_25.out.step hb)
              clear Bl_25
              have BX0_26 := Lib.hid (BX0_25.out.step hb)
              clear BX0_25
              have BX1_26 := Lib.hid (BX1_25.out.step hb)
              clear BX1_25
              have V_26 := Lib.hid (V_25.out.step hb)
              clear V_25
              have VB_26 := Lib.hid (VB_25.out.step hb)
              clear VB_25
              have V1_26 := Lib.hid (V1_25.out.step hb)
              clear V1_25
              have XB0_26 := Lib.hid (XB0_25.out.step hb)
              clear XB0_25
              have XB1_26 := Lib.hid (XB1_25.out.step hb)
              clear XB1_25
              have G_26 := Lib.hid (G_25.out.step hb)
              clear G_25
              have GB_26 := Lib.hid (GB_25.out.step hb)
              clear GB_25
              have G1_26 := Lib.hid (G1_25.out.step hb)
              clear G1_25
              have Bk_26 := Lib.hid (Bk_25.out.trans (hb.mono (by omega)))
              clear Bk_25
              have X0_26 := Lib.hid (X0_25.out.step hb)
              clear X0_25
              have X1_26 := Lib.hid (X1_25.out.step hb)
              clear X1_25
              have NB_26 : Hid (Bx w25.heap.size [.slice none 0 0, .int .i64 0] w26) := by rw [hw26]; exact Bx.start w25 _ _
              have hbs26b : w25.heap.size < w26.heap.size := by omega
              clear hb z0_25 z1_25 z1_25b
              have z0_26 := BX0_26.out.it
              obtain ⟨z1_26, z1_26b⟩ := BX1_26.out.it
              rw [← hw26]
              clear hw26 hbs26
              refine hK.out _ _ ⟨z0_26, z1_26, z1_26b⟩ (fun hHeld => ?_); clear hK K; (try simp only [Act.put, List.setIfInBounds_toArray, List.set_cons_zero, List.set_cons_succ])
              refine wpAnyH_ready (rs := [5]) (by kernel_rfl) (by simp) ?_; refine AllReadyH.cons (o := ⟨some 129, _, _, _, _, _⟩) rfl (fun K hK => ?_) AllReadyH.nil; go_simp
              go_at_call 27
              refine (HIM.out B24 m24 d24 B25 m25 d25 _ M24.out NC24.out X0_26.out.graph M25.out X1_26.out.hist hx2a hx2b).mono ?_
              rintro e w27 ⟨BZ0, mZ0, dZ0, CZ, mZ, dZ, mid27, rfl, hml, hown, hown2, hmid1, hmid2, hb⟩
              have hbs27 : w26.heap.size ≤ w27.heap.size := hb.size
              clear X0_26
              clear X1_26
              have S_27 := Lib.hid (S_26.out.step hb)
              clear S_26
              have Bl_27 := Lib.hid (Bl_26.out.step hb)
              clear Bl_26
              have BX0_27 := Lib.hid (BX0_26.out.step hb)
              clear BX0_26
              have BX1_27 := Lib.hid (BX1_26.out.step hb)
              clear BX1_26
              have V_27 := Lib.hid (V_26.out.step hb)
              clear V_26
              have VB_27 := Lib.hid (VB_26.out.step hb)
              clear VB_26
              have V1_27 := Lib.hid (V1_26.out.step hb)
              clear V1_26
              have XB0_27 := Lib.hid (XB0_26.out.step hb)
              clear XB0_26
              have XB1_27 := Lib.hid (XB1_26.out.step hb)
              clear XB1_26
              have G_27 := Lib.hid (G_26.out.step hb)
              clear G_26
              have GB_27 := Lib.hid (GB_26.out.step hb)
              clear GB_26
              have G1_27 := Lib.hid (G1_26.out.step hb)
              clear G1_26
              have Bk_27 := Lib.hid (Bk_26.out.trans (hb.mono (by omega)))
              clear Bk_26
              have NB_27 := Lib.hid (NB_26.out.step hb)
              clear NB_26
              have Z_27 : Hid (As w26.heap.size mid27 (OwH w26.heap.size mid27 BZ0 mZ0 dZ0 F0) w27) := ⟨hown, hmid2, OwSS.loc _ _ _ _ _⟩
              have Z1_27 : Hid (As mid27 w27.heap.size (OwR mid27 w27.heap.size 3 1 (.slice CZ mZ dZ) mZ (F1.map (Value.int .i64))) w27) := ⟨hown2, Nat.le_refl _, OwR.loc _ _ _ _ _ _ _⟩
              have HMLZ := Lib.hid hml
              clear hown2 hml
              clear hown hb
              clear z0_26 z1_26 z1_26b
              have z0_27 := BX0_27.out.it
              obtain ⟨z1_27, z1_27b⟩ := BX1_27.out.it
              refine hK.out _ _ ⟨z0_27, z1_27, z1_27b⟩ (fun hHeld => ?_); clear hK K; (try simp only [Act.put, List.setIfInBounds_toArray, List.set_cons_zero, List.set_cons_succ])
              refine wpAnyH_take (i := 6) (oi := ⟨some 123, _, _, _, _, _⟩) (v := ?_) rfl (by kernel_rfl) (by kernel_rfl) (by kernel_rfl) (fun _ _ _ h => h) (Or.inl ⟨by rfl, ?_⟩) (by assumption) ?_; rotate_left; (focus (intro w hSw; (try dsimp only at hSw); go_simp; (try with_reducible rfl))); (try simp only [Act.put, List.setIfInBounds_toArray, List.set_cons_zero, List.set_cons_succ])
              refine wpAnyH_take (i := 7) (oi := ⟨some 130, _, _, _, _, _⟩) (v := ?_) rfl (by kernel_rfl) (by kernel_rfl) (by kernel_rfl) (fun _ _ _ h => h) (Or.inl ⟨by rfl, ?_⟩) (by assumption) ?_; rotate_left; (focus (intro w hSw; (try dsimp only at hSw); go_simp; (try with_reducible rfl))); (try simp only [Act.put, List.setIfInBounds_toArray, List.set_cons_zero, List.set_cons_succ])
              refine wpAnyH_take (i := 8) (oi := ⟨some 131, _, _, _, _, _⟩) (v := ?_) rfl (by kernel_rfl) (by kernel_rfl) (by kernel_rfl) (fun _ _ _ h => h) (Or.inl ⟨by rfl, ?_⟩) (by assumption) ?_; rotate_left; (focus (intro w hSw; (try dsimp only at hSw); go_simp; (try with_reducible rfl))); (try simp only [Act.put, List.setIfInBounds_toArray, List.set_cons_zero, List.set_cons_succ])
              refine wpAnyH_take (i := 9) (oi := ⟨some 132, _, _, _, _, _⟩) (v := ?_) rfl (by kernel_rfl) (by kernel_rfl) (by kernel_rfl) (fun _ _ _ h => h) (Or.inl ⟨by rfl, ?_⟩) (by assumption) ?_; rotate_left; (focus (intro w hSw; (try dsimp only at hSw); go_simp; (try with_reducible rfl))); (try simp only [Act.put, List.setIfInBounds_toArray, List.set_cons_zero, List.set_cons_succ])
              have hvl : mid27 ≤ w27.heap.size := Z_27.out.le
              have hvl2 : w27.heap.size ≤ w27.heap.size := Z1_27.out.le
              have y0 := NB_27.out.c 0 _ rfl
              have x0 := NB_27.out.f 0
              have y1 := NB_27.out.c 1 _ rfl
              have x1 := NB_27.out.f 1
              refine wpAnyH_ready (rs := [11]) (by kernel_rfl) (by simp) ?_; refine AllReadyH.cons (o := ⟨none, _, _, _, _, _⟩) rfl (fun K hK => ?_) AllReadyH.nil; go_simp
              obtain ⟨w28, hw28⟩ : ∃ W : World, W = ((w27.setCell ⟨w25.heap.size, 0, none⟩ (.slice BZ0 mZ0 dZ0)).setCell ⟨w25.heap.size, 1, none⟩ (.int .i64 F0.ix)) := ⟨_, rfl⟩
              have ht : Tch (w25.heap.size) (w25.heap.size + 1) w27 w28 := by rw [hw28]; exact ((Tch.refl _ _ _).trans (Bx.tch _ 0 _)).trans (Bx.tch _ 1 _)
              have NC : Hid (Bx (w25.heap.size) [.slice BZ0 mZ0 dZ0, .int .i64 F0.ix] w28) := by rw [hw28]; exact ((NB_27.out.set 0 (by simp) (.slice BZ0 mZ0 dZ0)).set 1 (by simp) (.int .i64 F0.ix))
              have hbs28 := ht.size
              have S_28 := Lib.hid (S_27.out.turn ht (by omega))
              clear S_27
              have Bl_28 := Lib.hid (Bl_27.out.turn ht (by omega))
              clear Bl_27
              have BX0_28 := Lib.hid (BX0_27.out.turn ht (by omega))
              clear BX0_27
              have BX1_28 := Lib.hid (BX1_27.out.turn ht (by omega))
              clear BX1_27
              have V_28 := Lib.hid (V_27.out.turn ht (by omega))
              clear V_27
              have VB_28 := Lib.hid (VB_27.out.turn ht (by omega))
              clear VB_27
              have V1_28 := Lib.hid (V1_27.out.turn ht (by omega))
              clear V1_27
              have XB0_28 := Lib.hid (XB0_27.out.turn ht (by omega))
              clear XB0_27
              have XB1_28 := Lib.hid (XB1_27.out.turn ht (by omega))
              clear XB1_27
              have G_28 := Lib.hid (G_27.out.turn ht (by omega))
              clear G_27
              have GB_28 := Lib.hid (GB_27.out.turn ht (by omega))
              clear GB_27
              have G1_28 := Lib.hid (G1_27.out.turn ht (by omega))
              clear G1_27
              have Bk_28 := Lib.hid (Bk_27.out.trans (ht.below (by omega) (by omega)))
              clear Bk_27
              clear NB_27
              have Z_28 := Lib.hid (Z_27.out.turn ht (by omega))
              clear Z_27
              have Z1_28 := Lib.hid (Z1_27.out.turn ht (by omega))
              clear Z1_27
              clear ht y0 x0 y1 x1 z0_27 z1_27 z1_27b
              have z0_28 := BX0_28.out.it
              obtain ⟨z1_28, z1_28b⟩ := BX1_28.out.it
              rw [← hw28]
              clear hw28
              refine hK.out _ _ ⟨z0_28, z1_28, z1_28b⟩ (fun hHeld => ?_); clear hK K; (try simp only [Act.put, List.setIfInBounds_toArray, List.set_cons_zero, List.set_cons_succ])
              refine wpAnyH_ready (rs := [12]) (by kernel_rfl) (by simp) ?_; refine AllReadyH.cons (o := ⟨some 20, _, _, _, _, _⟩) rfl (fun K hK => ?_) AllReadyH.nil; go_simp
              refine hK.out _ _ ⟨z0_28, z1_28, z1_28b⟩ (fun hHeld => ?_); clear hK K; (try simp only [Act.put, List.setIfInBounds_toArray, List.set_cons_zero, List.set_cons_succ])
              refine wpAnyH_ready (rs := [13]) (by kernel_rfl) (by simp) ?_; refine AllReadyH.cons (o := ⟨some 21, _, _, _, _, _⟩) rfl (fun K hK => ?_) AllReadyH.nil; go_simp
              refine hK.out _ _ ⟨z0_28, z1_28, z1_28b⟩ (fun hHeld => ?_); clear hK K; (try simp only [Act.put, List.setIfInBounds_toArray, List.set_cons_zero, List.set_cons_succ])
              refine wpAnyH_done (by kernel_rfl) ?_ _
              go_wp2_with fail
              go_meet
              exact ⟨w25.heap.size, w26.heap.size, w27.heap.size, _, _, _, _, _, _, mid27, rfl, rfl, rfl, Z_28.out, Bx.as2 NC.out, by omega, by omega, by omega, Bk_28.out, HMLZ.out, Z1_28.out, by omega, by omega⟩
          · go_simp
            obtain ⟨w25, hw25⟩ : ∃ W : World, W = w24.alloc (.cells #[.slice none 0 0, .int .i64 0] 35) := ⟨_, rfl⟩
            have hb : Below w24.heap.size w24 w25 := by rw [hw25]; exact (Below.refl _ _).alloc (Nat.le_refl _) _
            have hbs25 : w25.heap.size = w24.heap.size + 1 := by rw [hw25]; simp
            have S_25 := Lib.hid (S_24.out.step hb)
            clear S_24
            have Bl_25 := Lib.hid (Bl_24.out.step hb)
            clear Bl_24
            have BX0_25 := Lib.hid (BX0_24.out.step hb)
            clear BX0_24
            have BX1_25 := Lib.hid (BX1_24.out.step hb)
            clear BX1_24
            have V_25 := Lib.hid (V_24.out.step hb)
            clear V_24
            have VB_25 := Lib.hid (VB_24.out.step hb)
            clear VB_24
            have V1_25 := Lib.hid (V1_24.out.step hb)
            clear V1_24
            have XB0_25 := Lib.hid (XB0_24.out.step hb)
            clear XB0_24
            have XB1_25 := Lib.hid (XB1_24.out.step hb)
            clear XB1_24
            have G_25 := Lib.hid (G_24.out.step hb)
            clear G_24
            have GB_25 := Lib.hid (GB_24.out.step hb)
            clear GB_24
            have G1_25 := Lib.hid (G1_24.out.step hb)
            clear G1_24
            have Bk_25 := Lib.hid (Bk_24.out.trans (hb.mono (by omega)))
            clear Bk_24
            have X0_25 := Lib.hid (X0_24.out.step hb)
            clear X0_24
            have NB_25 : Hid (Bx w24.heap.size [.slice none 0 0, .int .i64 0] w25) := by rw [hw25]; exact Bx.start w24 _ _
            have hbs25b : w24.heap.size < w25.heap.size := by omega
            clear hb z0_24 z1_24 z1_24b
            have z0_25 := BX0_25.out.it
            obtain ⟨z1_25, z1_25b⟩ := BX1_25.out.it
            rw [← hw25]
            clear hw25 hbs25
            refine hK.out _ _ ⟨z0_25, z1_25, z1_25b⟩ (fun hHeld => ?_); clear hK K; (try simp only [Act.put, List.setIfInBounds_toArray, List.set_cons_zero, List.set_cons_succ])
            refine wpAnyH_ready (rs := [3]) (by kernel_rfl) (by simp) ?_; refine AllReadyH.cons (o := ⟨some 127, _, _, _, _, _⟩) rfl (fun K hK => ?_) AllReadyH.nil; go_simp
            go_at_call 12
            refine (laws_toHistory A1 n1 c1 st1 _ w.heap.size Bl_25.out.le HN1.out S_25.out.it.2 HEG1.out).mono ?_
            rintro e w26 ⟨B26, m26, d26, rfl, hown, hb⟩
            have hn := hown.1
            have M26 := Lib.hid hn
            have hbs26 : w25.heap.size ≤ w26.heap.size := hb.size
            have S_26 := Lib.hid (S_25.out.step hb)
            clear S_25
            have Bl_26 := Lib.hid (Bl_25.out.step hb)
            clear Bl_25
            have BX0_26 := Lib.hid (BX0_25.out.step hb)
            clear BX0_25
            have BX1_26 := Lib.hid (BX1_25.out.step hb)
            clear BX1_25
            have V_26 := Lib.hid (V_25.out.step hb)
            clear V_25
            have VB_26 := Lib.hid (VB_25.out.step hb)
            clear VB_25
            have V1_26 := Lib.hid (V1_25.out.step hb)
            clear V1_25
            have XB0_26 := Lib.hid (XB0_25.out.step hb)
            clear XB0_25
            have XB1_26 := Lib.hid (XB1_25.out.step hb)
            clear XB1_25
            have G_26 := Lib.hid (G_25.out.step hb)
            clear G_25
            have GB_26 := Lib.hid (GB_25.out.step hb)
            clear GB_25
            have G1_26 := Lib.hid (G1_25.out.step hb)
            clear G1_25
            have Bk_26 := Lib.hid (Bk_25.out.trans (hb.mono (by omega)))
            clear Bk_25
            have X0_26 := Lib.hid (X0_25.out.step hb)
            clear X0_25
            have NB_26 := Lib.hid (NB_25.out.step hb)
            clear NB_25
            have X1_26 := Lib.hid (hist_start hown)
            clear hown hb hn
            clear z0_25 z1_25 z1_25b
            have z0_26 := BX0_26.out.it
            obtain ⟨z1_26, z1_26b⟩ := BX1_26.out.it
            refine hK.out _ _ ⟨z0_26, z1_26, z1_26b⟩ (fun hHeld => ?_); clear hK K; (try simp only [Act.put, List.setIfInBounds_toArray, List.set_cons_zero, List.set_cons_succ])
            refine wpAnyH_ready (rs := [5]) (by kernel_rfl) (by simp) ?_; refine AllReadyH.cons (o := ⟨some 129, _, _, _, _, _⟩) rfl (fun K hK => ?_) AllReadyH.nil; go_simp
            go_at_call 27
            refine (HIM.out B24 m24 d24 B26 m26 d26 _ M24.out NC24.out X0_26.out.graph M26.out X1_26.out.hist hx2a hx2b).mono ?_
            rintro e w27 ⟨BZ0, mZ0, dZ0, CZ, mZ, dZ, mid27, rfl, hml, hown, hown2, hmid1, hmid2, hb⟩
            have hbs27 : w26.heap.size ≤ w27.heap.size := hb.size
            clear X0_26
            clear X1_26
            have S_27 := Lib.hid (S_26.out.step hb)
            clear S_26
            have Bl_27 := Lib.hid (Bl_26.out.step hb)
            clear Bl_26
            have BX0_27 := Lib.hid (BX0_26.out.step hb)
            clear BX0_26
            have BX1_27 := Lib.hid (BX1_26.out.step hb)
            clear BX1_26
            have V_27 := Lib.hid (V_26.out.step hb)
            clear V_26
            have VB_27 := Lib.hid (VB_26.out.step hb)
            clear VB_26
            have V1_27 := Lib.hid (V1_26.out.step hb)
            clear V1_26
            have XB0_27 := Lib.hid (XB0_26.out.step hb)
            clear XB0_26
            have XB1_27 := Lib.hid (XB1_26.out.step hb)
            clear XB1_26
            have G_27 := Lib.hid (G_26.out.step hb)
            clear G_26
            have GB_27 := Lib.hid (GB_26.out.step hb)
            clear GB_26
            have G1_27 := Lib.hid (G1_26.out.step hb)
            clear G1_26
            have Bk_27 := Lib.hid (Bk_26.out.trans (hb.mono (by omega)))
            clear Bk_26
            have NB_27 := Lib.hid (NB_26.out.step hb)
            clear NB_26
            have Z_27 : Hid (As w26.heap.size mid27 (OwH w26.heap.size mid27 BZ0 mZ0 dZ0 F0) w27) := ⟨hown, hmid2, OwSS.loc _ _ _ _ _⟩
            have Z1_27 : Hid (As mid27 w27.heap.size (OwR mid27 w27.heap.size 3 1 (.slice CZ mZ dZ) mZ (F1.map (Value.int .i64))) w27) := ⟨hown2, Nat.le_refl _, OwR.loc _ _ _ _ _ _ _⟩
            have HMLZ := Lib.hid hml
            clear hown2 hml
            clear hown hb
            clear z0_26 z1_26 z1_26b
            have z0_27 := BX0_27.out.it
            obtain ⟨z1_27, z1_27b⟩ := BX1_27.out.it
            refine hK.out _ _ ⟨z0_27, z1_27, z1_27b⟩ (fun hHeld => ?_); clear hK K; (try simp only [Act.put, List.setIfInBounds_toArray, List.set_cons_zero, List.set_cons_succ])
            refine wpAnyH_take (i := 6) (oi := ⟨some 123, _, _, _, _, _⟩) (v := ?_) rfl (by kernel_rfl) (by kernel_rfl) (by kernel_rfl) (fun _ _ _ h => h) (Or.inl ⟨by rfl, ?_⟩) (by assumption) ?_; rotate_left; (focus (intro w hSw; (try dsimp only at hSw); go_simp; (try with_reducible rfl))); (try simp only [Act.put, List.setIfInBounds_toArray, List.set_cons_zero, List.set_cons_succ])
            refine wpAnyH_take (i := 7) (oi := ⟨some 130, _, _, _, _, _⟩) (v := ?_) rfl (by kernel_rfl) (by kernel_rfl) (by kernel_rfl) (fun _ _ _ h => h) (Or.inl ⟨by rfl, ?_⟩) (by assumption) ?_; rotate_left; (focus (intro w hSw; (try dsimp only at hSw); go_simp; (try with_reducible rfl))); (try simp only [Act.put, List.setIfInBounds_toArray, List.set_cons_zero, List.set_cons_succ])
            refine wpAnyH_take (i := 8) (oi := ⟨some 131, _, _, _, _, _⟩) (v := ?_) rfl (by kernel_rfl) (by kernel_rfl) (by kernel_rfl) (fun _ _ _ h => h) (Or.inl ⟨by rfl, ?_⟩) (by assumption) ?_; rotate_left; (focus (intro w hSw; (try dsimp only at hSw); go_simp; (try with_reducible rfl))); (try simp only [Act.put, List.setIfInBounds_toArray, List.set_cons_zero, List.set_cons_succ])
            refine wpAnyH_take (i := 9) (oi := ⟨some 132, _, _, _, _, _⟩) (v := ?_) rfl (by kernel_rfl) (by kernel_rfl) (by kernel_rfl) (fun _ _ _ h => h) (Or.inl ⟨by rfl, ?_⟩) (by assumption) ?_; rotate_left; (focus (intro w hSw; (try dsimp only at hSw); go_simp; (try with_reducible rfl))); (try simp only [Act.put, List.setIfInBounds_toArray, List.set_cons_zero, List.set_cons_succ])
            have hvl : mid27 ≤ w27.heap.size := Z_27.out.le
            have hvl2 : w27.heap.size ≤ w27.heap.size := Z1_27.out.le
            have y0 := NB_27.out.c 0 _ rfl
            have x0 := NB_27.out.f 0
            have y1 := NB_27.out.c 1 _ rfl
            have x1 := NB_27.out.f 1
            refine wpAnyH_ready (rs := [11]) (by kernel_rfl) (by simp) ?_; refine AllReadyH.cons (o := ⟨none, _, _, _, _, _⟩) rfl (fun K hK => ?_) AllReadyH.nil; go_simp
            obtain ⟨w28, hw28⟩ : ∃ W : World, W = ((w27.setCell ⟨w24.heap.size, 0, none⟩ (.slice BZ0 mZ0 dZ0)).setCell ⟨w24.heap.size, 1, none⟩ (.int .i64 F0.ix)) := ⟨_, rfl⟩
            have ht : Tch (w24.heap.size) (w24.heap.size + 1) w27 w28 := by rw [hw28]; exact ((Tch.refl _ _ _).trans (Bx.tch _ 0 _)).trans (Bx.tch _ 1 _)
            have NC : Hid (Bx (w24.heap.size) [.slice BZ0 mZ0 dZ0, .int .i64 F0.ix] w28) := by rw [hw28]; exact ((NB_27.out.set 0 (by simp) (.slice BZ0 mZ0 dZ0)).set 1 (by simp) (.int .i64 F0.ix))
            have hbs28 := ht.size
            have S_28 := Lib.hid (S_27.out.turn ht (by omega))
            clear S_27
            have Bl_28 := Lib.hid (Bl_27.out.turn ht (by omega))
            clear Bl_27
            have BX0_28 := Lib.hid (BX0_27.out.turn ht (by omega))
            clear BX0_27
            have BX1_28 := Lib.hid (BX1_27.out.turn ht (by omega))
            clear BX1_27
            have V_28 := Lib.hid (V_27.out.turn ht (by omega))
            clear V_27
            have VB_28 := Lib.hid (VB_27.out.turn ht (by omega))
            clear VB_27
            have V1_28 := Lib.hid (V1_27.out.turn ht (by omega))
            clear V1_27
            have XB0_28 := Lib.hid (XB0_27.out.turn ht (by omega))
            clear XB0_27
            have XB1_28 := Lib.hid (XB1_27.out.turn ht (by omega))
            clear XB1_27
            have G_28 := Lib.hid (G_27.out.turn ht (by omega))
            clear G_27
            have GB_28 := Lib.hid (GB_27.out.turn ht (by omega))
            clear GB_27
            have G1_28 := Lib.hid (G1_27.out.turn ht (by omega))
            clear G1_27
            have Bk_28 := Lib.hid (Bk_27.out.trans (ht.below (by omega) (by omega)))
            clear Bk_27
            clear NB_27
            have Z_28 := Lib.hid (Z_27.out.turn ht (by omega))
            clear Z_27
            have Z1_28 := Lib.hid (Z1_27.out.turn ht (by omega))
            clear Z1_27
            clear ht y0 x0 y1 x1 z0_27 z1_27 z1_27b
            have z0_28 := BX0_28.out.it
            obtain ⟨z1_28, z1_28b⟩ := BX1_28.out.it
            rw [← hw28]
            clear hw28
            refine hK.out _ _ ⟨z0_28, z1_28, z1_28b⟩ (fun hHeld => ?_); clear hK K; (try simp only [Act.put, List.setIfInBounds_toArray, List.set_cons_zero, List.set_cons_succ])
            refine wpAnyH_ready (rs := [12]) (by kernel_rfl) (by simp) ?_; refine AllReadyH.cons (o := ⟨some 20, _, _, _, _, _⟩) rfl (fun K hK => ?_) AllReadyH.nil; go_simp
            refine hK.out _ _ ⟨z0_28, z1_28, z1_28b⟩ (fun hHeld => ?_); clear hK K; (try simp only [Act.put, List.setIfInBounds_toArray, List.set_cons_zero, List.set_cons_succ])
            refine wpAnyH_ready (rs := [13]) (by kernel_rfl) (by simp) ?_; refine AllReadyH.cons (o := ⟨some 21, _, _, _, _, _⟩) rfl (fun K hK => ?_) AllReadyH.nil; go_simp
            refine hK.out _ _ ⟨z0_28, z1_28, z1_28b⟩ (fun hHeld => ?_); clear hK K; (try simp only [Act.put, List.setIfInBounds_toArray, List.set_cons_zero, List.set_cons_succ])
            refine wpAnyH_done (by kernel_rfl) ?_ _
            go_wp2_with fail
            go_meet
            exact ⟨w24.heap.size, w26.heap.size, w27.heap.size, _, _, _, _, _, _, mid27, rfl, rfl, rfl, Z_28.out, Bx.as2 NC.out, by omega, by omega, by omega, Bk_28.out, HMLZ.out, Z1_28.out, by omega, by omega⟩
        · go_simp
          obtain ⟨w24, hw24⟩ : ∃ W : World, W = w23.alloc (.cells #[.slice none 0 0, .int .i64 0] 35) := ⟨_, rfl⟩
          have hb : Below w23.heap.size w23 w24 := by rw [hw24]; exact (Below.refl _ _).alloc (Nat.le_refl _) _
          have hbs24 : w24.heap.size = w23.heap.size + 1 := by rw [hw24]; simp
          have S_24 := Lib.hid (S_23.out.step hb)
          clear S_23
          have Bl_24 := Lib.hid (Bl_23.out.step hb)
          clear Bl_23
          have BX0_24 := Lib.hid (BX0_23.out.step hb)
          clear BX0_23
          have BX1_24 := Lib.hid (BX1_23.out.step hb)
          clear BX1_23
          have V_24 := Lib.hid (V_23.out.step hb)
          clear V_23
          have VB_24 := Lib.hid (VB_23.out.step hb)
          clear VB_23
          have V1_24 := Lib.hid (V1_23.out.step hb)
          clear V1_23
          have XB0_24 := Lib.hid (XB0_23.out.step hb)
          clear XB0_23
          have XB1_24 := Lib.hid (XB1_23.out.step hb)
          clear XB1_23
          have G_24 := Lib.hid (G_23.out.step hb)
          clear G_23
          have GB_24 := Lib.hid (GB_23.out.step hb)
          clear GB_23
          have G1_24 := Lib.hid (G1_23.out.step hb)
          clear G1_23
          have Bk_24 := Lib.hid (Bk_23.out.trans (hb.mono (by omega)))
          clear Bk_23
          have NB_24 : Hid (Bx w23.heap.size [.slice none 0 0, .int .i64 0] w24) := by rw [hw24]; exact Bx.start w23 _ _
          have hbs24b : w23.heap.size < w24.heap.size := by omega
          clear hb z0_23 z1_23 z1_23b
          have z0_24 := BX0_24.out.it
          obtain ⟨z1_24, z1_24b⟩ := BX1_24.out.it
          rw [← hw24]
          clear hw24 hbs24
          refine hK.out _ _ ⟨z0_24, z1_24, z1_24b⟩ (fun hHeld => ?_); clear hK K; (try simp only [Act.put, List.setIfInBounds_toArray, List.set_cons_zero, List.set_cons_succ])
          refine wpAnyH_ready (rs := [1]) (by kernel_rfl) (by simp) ?_; refine AllReadyH.cons (o := ⟨some 125, _, _, _, _, _⟩) rfl (fun K hK => ?_) AllReadyH.nil; go_simp
          go_at_call 11
          refine (laws_toGraph A0 n0 c0 gs0 _ w.heap.size Bl_24.out.le HN0.out S_24.out.it.1 HG0.out).mono ?_
          rintro e w25 ⟨B25, m25, d25, rfl, hn, hown, hb⟩
          have M25 := Lib.hid hn
          have NC25 := Lib.hid hown.ncap
          have hbs25 : w24.heap.size ≤ w25.heap.size := hb.size
          have S_25 := Lib.hid (S_24.out.step hb)
          clear S_24
          have Bl_25 := Lib.hid (Bl_24.out.step hb)
          clear Bl_24
          have BX0_25 := Lib.hid (BX0_24.out.step hb)
          clear BX0_24
          have BX1_25 := Lib.hid (BX1_24.out.step hb)
          clear BX1_24
          have V_25 := Lib.hid (V_24.out.step hb)
          clear V_24
          have VB_25 := Lib.hid (VB_24.out.step hb)
          clear VB_24
          have V1_25 := Lib.hid (V1_24.out.step hb)
          clear V1_24
          have XB0_25 := Lib.hid (XB0_24.out.step hb)
          clear XB0_24
          have XB1_25 := Lib.hid (XB1_24.out.step hb)
          clear XB1_24
          have G_25 := Lib.hid (G_24.out.step hb)
          clear G_24
          have GB_25 := Lib.hid (GB_24.out.step hb)
          clear GB_24
          have G1_25 := Lib.hid (G1_24.out.step hb)
          clear G1_24
          have Bk_25 := Lib.hid (Bk_24.out.trans (hb.mono (by omega)))
          clear Bk_24
          have NB_25 := Lib.hid (NB_24.out.step hb)
          clear NB_24
          have X0_25 := Lib.hid (graph_start hown)
          clear hown hb hn
          clear z0_24 z1_24 z1_24b
          have z0_25 := BX0_25.out.it
          obtain ⟨z1_25, z1_25b⟩ := BX1_25.out.it
          refine hK.out _ _ ⟨z0_25, z1_25, z1_25b⟩ (fun hHeld => ?_); clear hK K; (try simp only [Act.put, List.setIfInBounds_toArray, List.set_cons_zero, List.set_cons_succ])
          refine wpAnyH_ready (rs := [3]) (by kernel_rfl) (by simp) ?_; refine AllReadyH.cons (o := ⟨some 127, _, _, _, _, _⟩) rfl (fun K hK => ?_) AllReadyH.nil; go_simp
          go_at_call 12
          refine (laws_toHistory A1 n1 c1 st1 _ w.heap.size Bl_25.out.le HN1.out S_25.out.it.2 HEG1.out).mono ?_
          rintro e w26 ⟨B26, m26, d26, rfl, hown, hb⟩
          have hn := hown.1
          have M26 := Lib.hid hn
          have hbs26 : w25.heap.size ≤ w26.heap.size := hb.size
          have S_26 := Lib.hid (S_25.out.step hb)
          clear S_25
          have Bl_26 := Lib.hid (Bl_25.out.step hb)
          clear Bl_25
          have BX0_26 := Lib.hid (BX0_25.out.step hb)
          clear BX0_25
          have BX1_26 := Lib.hid (BX1_25.out.step hb)
          clear BX1_25
          have V_26 := Lib.hid (V_25.out.step hb)
          clear V_25
          have VB_26 := Lib.hid (VB_25.out.step hb)
          clear VB_25
          have V1_26 := Lib.hid (V1_25.out.step hb)
          clear V1_25
          have XB0_26 := Lib.hid (XB0_25.out.step hb)
          clear XB0_25
          have XB1_26 := Lib.hid (XB1_25.out.step hb)
          clear XB1_25
          have G_26 := Lib.hid (G_25.out.step hb)
          clear G_25
          have GB_26 := Lib.hid (GB_25.out.step hb)
          clear GB_25
          have G1_26 := Lib.hid (G1_25.out.step hb)
          clear G1_25
          have Bk_26 := Lib.hid (Bk_25.out.trans (hb.mono (by omega)))
          clear Bk_25
          have NB_26 := Lib.hid (NB_25.out.step hb)
          clear NB_25
          have X0_26 := Lib.hid (X0_25.out.step hb)
          clear X0_25
          have X1_26 := Lib.hid (hist_start hown)
          clear hown hb hn
          clear z0_25 z1_25 z1_25b
          have z0_26 := BX0_26.out.it
          obtain ⟨z1_26, z1_26b⟩ := BX1_26.out.it
          refine hK.out _ _ ⟨z0_26, z1_26, z1_26b⟩ (fun hHeld => ?_); clear hK K; (try simp only [Act.put, List.setIfInBounds_toArray, List.set_cons_zero, List.set_cons_succ])
          refine wpAnyH_ready (rs := [5]) (by kernel_rfl) (by simp) ?_; refine AllReadyH.cons (o := ⟨some 129, _, _, _, _, _⟩) rfl (fun K hK => ?_) AllReadyH.nil; go_simp
          go_at_call 27
          refine (HIM.out B25 m25 d25 B26 m26 d26 _ M25.out NC25.out X0_26.out.graph M26.out X1_26.out.hist hx2a hx2b).mono ?_
          rintro e w27 ⟨BZ0, mZ0, dZ0, CZ, mZ, dZ, mid27, rfl, hml, hown, hown2, hmid1, hmid2, hb⟩
          have hbs27 : w26.heap.size ≤ w27.heap.size := hb.size
          clear X0_26
          clear X1_26
          have S_27 := Lib.hid (S_26.out.step hb)
          clear S_26
          have Bl_27 := Lib.hid (Bl_26.out.step hb)
          clear Bl_26
          have BX0_27 := Lib.hid (BX0_26.out.step hb)
          clear BX0_26
          have BX1_27 := Lib.hid (BX1_26.out.step hb)
          clear BX1_26
          have V_27 := Lib.hid (V_26.out.step hb)
          clear V_26
          have VB_27 := Lib.hid (VB_26.out.step hb)
          clear VB_26
          have V1_27 := Lib.hid (V1_26.out.step hb)
          clear V1_26
          have XB0_27 := Lib.hid (XB0_26.out.step hb)
          clear XB0_26
          have XB1_27 := Lib.hid (XB1_26.out.step hb)
          clear XB1_26
          have G_27 := Lib.hid (G_26.out.step hb)
          clear G_26
          have GB_27 := Lib.hid (GB_26.out.step hb)
          clear GB_26
          have G1_27 := Lib.hid (G1_26.out.step hb)
          clear G1_26
          have Bk_27 := Lib.hid (Bk_26.out.trans (hb.mono (by omega)))
          clear Bk_26
          have NB_27 := Lib.hid (NB_26.out.step hb)
          clear NB_26
          have Z_27 : Hid (As w26.heap.size mid27 (OwH w26.heap.size mid27 BZ0 mZ0 dZ0 F0) w27) := ⟨hown, hmid2, OwSS.loc _ _ _ _ _⟩
          have Z1_27 : Hid (As mid27 w27.heap.size (OwR mid27 w27.heap.size 3 1 (.slice CZ mZ dZ) mZ (F1.map (Value.int .i64))) w27) := ⟨hown2, Nat.le_refl _, OwR.loc _ _ _ _ _ _ _⟩
          have HMLZ := Lib.hid hml
          clear hown2 hml
          clear hown hb
          clear z0_26 z1_26 z1_26b
          have z0_27 := BX0_27.out.it
          obtain ⟨z1_27, z1_27b⟩ := BX1_27.out.it
          refine hK.out _ _ ⟨z0_27, z1_27, z1_27b⟩ (fun hHeld => ?_); clear hK K; (try simp only [Act.put, List.setIfInBounds_toArray, List.set_cons_zero, List.set_cons_succ])
          refine wpAnyH_take (i := 6) (oi := ⟨some 123, _, _, _, _, _⟩) (v := ?_) rfl (by kernel_rfl) (by kernel_rfl) (by kernel_rfl) (fun _ _ _ h => h) (Or.inl ⟨by rfl, ?_⟩) (by assumption) ?_; rotate_left; (focus (intro w hSw; (try dsimp only at hSw); go_simp; (try with_reducible rfl))); (try simp only [Act.put, List.setIfInBounds_toArray, List.set_cons_zero, List.set_cons_succ])
          refine wpAnyH_take (i := 7) (oi := ⟨some 130, _, _, _, _, _⟩) (v := ?_) rfl (by kernel_rfl) (by kernel_rfl) (by kernel_rfl) (fun _ _ _ h => h) (Or.inl ⟨by rfl, ?_⟩) (by assumption) ?_; rotate_left; (focus (intro w hSw; (try dsimp only at hSw); go_simp; (try with_reducible rfl))); (try simp only [Act.put, List.setIfInBounds_toArray, List.set_cons_zero, List.set_cons_succ])
          refine wpAnyH_take (i := 8) (oi := ⟨some 131, _, _, _, _, _⟩) (v := ?_) rfl (by kernel_rfl) (by kernel_rfl) (by kernel_rfl) (fun _ _ _ h => h) (Or.inl ⟨by rfl, ?_⟩) (by assumption) ?_; rotate_left; (focus (intro w hSw; (try dsimp only at hSw); go_simp; (try with_reducible rfl))); (try simp only [Act.put, List.setIfInBounds_toArray, List.set_cons_zero, List.set_cons_succ])
          refine wpAnyH_take (i := 9) (oi := ⟨some 132, _, _, _, _, _⟩) (v := ?_) rfl (by kernel_rfl) (by kernel_rfl) (by kernel_rfl) (fun _ _ _ h => h) (Or.inl ⟨by rfl, ?_⟩) (by assumption) ?_; rotate_left; (focus (intro w hSw; (try dsimp only at hSw); go_simp; (try with_reducible rfl))); (try simp only [Act.put, List.setIfInBounds_toArray, List.set_cons_zero, List.set_cons_succ])
          have hvl : mid27 ≤ w27.heap.size := Z_27.out.le
          have hvl2 : w27.heap.size ≤ w27.heap.size := Z1_27.out.le
          have y0 := NB_27.out.c 0 _ rfl
          have x0 := NB_27.out.f 0
          have y1 := NB_27.out.c 1 _ rfl
          have x1 := NB_27.out.f 1
          refine wpAnyH_ready (rs := [11]) (by kernel_rfl) (by simp) ?_; refine AllReadyH.cons (o := ⟨none, _, _, _, _, _⟩) rfl (fun K hK => ?_) AllReadyH.nil; go_simp
          obtain ⟨w28, hw28⟩ : ∃ W : World, W = ((w27.setCell ⟨w23.heap.size, 0, none⟩ (.slice BZ0 mZ0 dZ0)).setCell ⟨w23.heap.size, 1, none⟩ (.int .i64 F0.ix)) := ⟨_, rfl⟩
          have ht : Tch (w23.heap.size) (w23.heap.size + 1) w27 w28 := by rw [hw28]; exact ((Tch.refl _ _ _).trans (Bx.tch _ 0 _)).trans (Bx.tch _ 1 _)
          have NC : Hid (Bx (w23.heap.size) [.slice BZ0 mZ0 dZ0, .int .i64 F0.ix] w28) := by rw [hw28]; exact ((NB_27.out.set 0 (by simp) (.slice BZ0 mZ0 dZ0)).set 1 (by simp) (.int .i64 F0.ix))
          have hbs28 := ht.size
          have S_28 := Lib.hid (S_27.out.turn ht (by omega))
          clear S_27
          have Bl_28 := Lib.hid (Bl_27.out.turn ht (by omega))
          clear Bl_27
          have BX0_28 := Lib.hid (BX0_27.out.turn ht (by omega))
          clear BX0_27
          have BX1_28 := Lib.hid (BX1_27.out.turn ht (by omega))
          clear BX1_27
          have V_28 := Lib.hid (V_27.out.turn ht (by omega))
          clear V_27
          have VB_28 := Lib.hid (VB_27.out.turn ht (by omega))
          clear VB_27
          have V1_28 := Lib.hid (V1_27.out.turn ht (by omega))
          clear V1_27
          have XB0_28 := Lib.hid (XB0_27.out.turn ht (by omega))
          clear XB0_27
          have XB1_28 := Lib.hid (XB1_27.out.turn ht (by omega))
          clear XB1_27
          have G_28 := Lib.hid (G_27.out.turn ht (by omega))
          clear G_27
          have GB_28 := Lib.hid (GB_27.out.turn ht (by omega))
          clear GB_27
          have G1_28 := Lib.hid (G1_27.out.turn ht (by omega))
          clear G1_27
          have Bk_28 := Lib.hid (Bk_27.out.trans (ht.below (by omega) (by omega)))
          clear Bk_27
          clear NB_27
          have Z_28 := Lib.hid (Z_27.out.turn ht (by omega))
          clear Z_27
          have Z1_28 := Lib.hid (Z1_27.out.turn ht (by omega))
          clear Z1_27
          clear ht y0 x0 y1 x1 z0_27 z1_27 z1_27b
          have z0_28 := BX0_28.out.it
          obtain ⟨z1_28, z1_28b⟩ := BX1_28.out.it
          rw [← hw28]
          clear hw28
          refine hK.out _ _ ⟨z0_28, z1_28, z1_28b⟩ (fun hHeld => ?_); clear hK K; (try simp only [Act.put, List.setIfInBounds_toArray, List.set_cons_zero, List.set_cons_succ])
          refine wpAnyH_ready (rs := [12]) (by kernel_rfl) (by simp) ?_; refine AllReadyH.cons (o := ⟨some 20, _, _, _, _, _⟩) rfl (fun K hK => ?_) AllReadyH.nil; go_simp
          refine hK.out _ _ ⟨z0_28, z1_28, z1_28b⟩ (fun hHeld => ?_); clear hK K; (try simp only [Act.put, List.setIfInBounds_toArray, List.set_cons_zero, List.set_cons_succ])
          refine wpAnyH_ready (rs := [13]) (by kernel_rfl) (by simp) ?_; refine AllReadyH.cons (o := ⟨some 21, _, _, _, _, _⟩) rfl (fun K hK => ?_) AllReadyH.nil; go_simp
          refine hK.out _ _ ⟨z0_28, z1_28, z1_28b⟩ (fun hHeld => ?_); clear hK K; (try simp only [Act.put, List.setIfInBounds_toArray, List.set_cons_zero, List.set_cons_succ])
          refine wpAnyH_done (by kernel_rfl) ?_ _
          go_wp2_with fail
          go_meet
          exact ⟨w23.heap.size, w26.heap.size, w27.heap.size, _, _, _, _, _, _, mid27, rfl, rfl, rfl, Z_28.out, Bx.as2 NC.out, by omega, by omega, by omega, Bk_28.out, HMLZ.out, Z1_28.out, by omega, by omega⟩
      obtain ⟨Zb, Zlo, Zhi, BZ0, mZ0, dZ0, CZ, mZ, dZ, Zmid, hc0, hc1, hc2, HV, HVB, hv1, hv2, hv3, HB0, HMLZ, HV2, hv6, hv7⟩ := hcut
      subst hc0 hc1 hc2
      obtain ⟨w23, hw23⟩ : ∃ W : World, W = wc := ⟨_, rfl⟩
      rw [← hw23] at HV HVB HB0 HV2 ⊢
      clear hw23
      have hb := HB0.out
      have S_23 := Lib.hid (S_22.out.step hb)
      clear S_22
      have Bl_23 := Lib.hid (Bl_22.out.step hb)
      clear Bl_22
      have BX0_23 := Lib.hid (BX0_22.out.step hb)
      clear BX0_22
      have BX1_23 := Lib.hid (BX1_22.out.step hb)
      clear BX1_22
      have V_23 := Lib.hid (V_22.out.step hb)
      clear V_22
      have VB_23 := Lib.hid (VB_22.out.step hb)
      clear VB_22
      have V1_23 := Lib.hid (V1_22.out.step hb)
      clear V1_22
      have XB0_23 := Lib.hid (XB0_22.out.step hb)
      clear XB0_22
      have XB1_23 := Lib.hid (XB1_22.out.step hb)
      clear XB1_22
      have G_23 := Lib.hid (G_22.out.step hb)
      clear G_22
      have GB_23 := Lib.hid (GB_22.out.step hb)
      clear GB_22
      have G1_23 := Lib.hid (G1_22.out.step hb)
      clear G1_22
      have Z_23 := HV
      have ZB_23 := HVB
      have hv4 := HV.out.le
      have hv5 := HVB.out.le
      have Z1_23 := HV2
      have hv8 := HV2.out.le
      clear HV2
      clear HV HVB HB0 hb
      obtain ⟨bg, bgb⟩ := ZB_23.out.it
      obtain ⟨bv, bvb⟩ := VB_23.out.it
      go_wp2_with fail
      refine (laws_eqHistory _ _ _ _ _ _ F0 F0 _ _ (Nat.le_refl _) Z_23.out.it.1 V_23.out.it.1 Z_23.out.hist V_23.out.hist HEB0.out HEB0.out).mono ?_
      rintro e w24 ⟨rfl, hb⟩
      have S_24 := Lib.hid (S_23.out.step hb)
      clear S_23
      have Bl_24 := Lib.hid (Bl_23.out.step hb)
      clear Bl_23
      have BX0_24 := Lib.hid (BX0_23.out.step hb)
      clear BX0_23
      have BX1_24 := Lib.hid (BX1_23.out.step hb)
      clear BX1_23
      have V_24 := Lib.hid (V_23.out.step hb)
      clear V_23
      have VB_24 := Lib.hid (VB_23.out.step hb)
      clear VB_23
      have V1_24 := Lib.hid (V1_23.out.step hb)
      clear V1_23
      have XB0_24 := Lib.hid (XB0_23.out.step hb)
      clear XB0_23
      have XB1_24 := Lib.hid (XB1_23.out.step hb)
      clear XB1_23
      have G_24 := Lib.hid (G_23.out.step hb)
      clear G_23
      have GB_24 := Lib.hid (GB_23.out.step hb)
      clear GB_23
      have G1_24 := Lib.hid (G1_23.out.step hb)
      clear G1_23
      have Z_24 := Lib.hid (Z_23.out.step hb)
      clear Z_23
      have ZB_24 := Lib.hid (ZB_23.out.step hb)
      clear ZB_23
      have Z1_24 := Lib.hid (Z1_23.out.step hb)
      clear Z1_23
      clear hb bg bgb bv bvb
      go_wp2_with fail
      refine (laws_eqIntS _ _ _ _ _ _ F1 F1 _ w24.heap.size (Nat.le_refl _) HMLZ.out HMLV.out Z1_24.out.ints V1_24.out.ints (by have := HMLZ.out; have := HL1.out; omega) (by have := HMLV.out; have := HL1.out; omega)).mono ?_
      rintro e w25 ⟨rfl, hb⟩
      have S_25 := Lib.hid (S_24.out.step hb)
      clear S_24
      have Bl_25 := Lib.hid (Bl_24.out.step hb)
      clear Bl_24
      have BX0_25 := Lib.hid (BX0_24.out.step hb)
      clear BX0_24
      have BX1_25 := Lib.hid (BX1_24.out.step hb)
      clear BX1_24
      have V_25 := Lib.hid (V_24.out.step hb)
      clear V_24
      have VB_25 := Lib.hid (VB_24.out.step hb)
      clear VB_24
      have V1_25 := Lib.hid (V1_24.out.step hb)
      clear V1_24
      have XB0_25 := Lib.hid (XB0_24.out.step hb)
      clear XB0_24
      have XB1_25 := Lib.hid (XB1_24.out.step hb)
      clear XB1_24
      have G_25 := Lib.hid (G_24.out.step hb)
      clear G_24
      have GB_25 := Lib.hid (GB_24.out.step hb)
      clear GB_24
      have G1_25 := Lib.hid (G1_24.out.step hb)
      clear G1_24
      have Z_25 := Lib.hid (Z_24.out.step hb)
      clear Z_24
      have ZB_25 := Lib.hid (ZB_24.out.step hb)
      clear ZB_24
      have Z1_25 := Lib.hid (Z1_24.out.step hb)
      clear Z1_24
      clear hb
      obtain ⟨bg, bgb⟩ := GB_25.out.it
      go_wp2_with fail
      refine (held_hist _ _ _ _ _ F0 1 _ G_25.out HEB0.out (by omega) (by omega)).mono ?_
      rintro e w26 ⟨he, hb⟩
      rw [← HQ0.out] at he
      subst he
      have S_26 := Lib.hid (S_25.out.step hb)
      clear S_25
      have Bl_26 := Lib.hid (Bl_25.out.step hb)
      clear Bl_25
      have BX0_26 := Lib.hid (BX0_25.out.step hb)
      clear BX0_25
      have BX1_26 := Lib.hid (BX1_25.out.step hb)
      clear BX1_25
      have V_26 := Lib.hid (V_25.out.step hb)
      clear V_25
      have VB_26 := Lib.hid (VB_25.out.step hb)
      clear VB_25
      have V1_26 := Lib.hid (V1_25.out.step hb)
      clear V1_25
      have XB0_26 := Lib.hid (XB0_25.out.step hb)
      clear XB0_25
      have XB1_26 := Lib.hid (XB1_25.out.step hb)
      clear XB1_25
      have G_26 := Lib.hid (G_25.out.step hb)
      clear G_25
      have GB_26 := Lib.hid (GB_25.out.step hb)
      clear GB_25
      have G1_26 := Lib.hid (G1_25.out.step hb)
      clear G1_25
      have Z_26 := Lib.hid (Z_25.out.step hb)
      clear Z_25
      have ZB_26 := Lib.hid (ZB_25.out.step hb)
      clear ZB_25
      have Z1_26 := Lib.hid (Z1_25.out.step hb)
      clear Z1_25
      clear hb bg bgb
      go_wp2_with fail
      refine (held_ints _ _ mm8 _ (1 + t0) _ G1_26.out (by omega) (by omega) (by omega)).mono ?_
      rintro e w27 ⟨he, hb⟩
      subst he
      have S_27 := Lib.hid (S_26.out.step hb)
      clear S_26
      have Bl_27 := Lib.hid (Bl_26.out.step hb)
      clear Bl_26
      have BX0_27 := Lib.hid (BX0_26.out.step hb)
      clear BX0_26
      have BX1_27 := Lib.hid (BX1_26.out.step hb)
      clear BX1_26
      have V_27 := Lib.hid (V_26.out.step hb)
      clear V_26
      have VB_27 := Lib.hid (VB_26.out.step hb)
      clear VB_26
      have V1_27 := Lib.hid (V1_26.out.step hb)
      clear V1_26
      have XB0_27 := Lib.hid (XB0_26.out.step hb)
      clear XB0_26
      have XB1_27 := Lib.hid (XB1_26.out.step hb)
      clear XB1_26
      have G_27 := Lib.hid (G_26.out.step hb)
      clear G_26
      have GB_27 := Lib.hid (GB_26.out.step hb)
      clear GB_26
      have G1_27 := Lib.hid (G1_26.out.step hb)
      clear G1_26
      have Z_27 := Lib.hid (Z_26.out.step hb)
      clear Z_26
      have ZB_27 := Lib.hid (ZB_26.out.step hb)
      clear ZB_26
      have Z1_27 := Lib.hid (Z1_26.out.step hb)
      clear Z1_26
      clear hb
      go_wp2
      go_ret
      exact ⟨rfl, Bl_27.out⟩
end Go.Proofs.Ytlliomnfbgdpfaa
