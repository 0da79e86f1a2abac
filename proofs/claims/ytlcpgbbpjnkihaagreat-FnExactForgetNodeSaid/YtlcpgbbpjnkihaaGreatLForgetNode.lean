/- laws.FnExactForgetNode returns true for all arguments, and writes nothing that was there. (Made by genlaw.py.) -/
import Derived.Test.YtlcpgbbpjnkihaaGreatLd
import Derived.Deep.RegionWith
import Derived.Test.YtlcpgbbpjnkihaaGreatT48
import Derived.Test.YtlcpgbbpjnkihaaGreatT53
import Derived.Test.YtlcpgbbpjnkihaaGreatM48

-- AUX
namespace Go.Proofs.YtlcpgbbpjnkihaaGreat
set_option linter.unusedSimpArgs false
set_option linter.unusedVariables false
open Go.RowKit

set_option maxRecDepth 100000 in
set_option maxHeartbeats 25600000 in
theorem law_ForgetNode (A0 : Option Addr) (n0 c0 : Nat) (gs0 : List Nd) (A1 : Option Addr) (n1 c1 : Nat) (E1 : Option Addr) (en1 ec1 : Nat) (K1 : Option Addr) (kn1 kc1 : Nat) (st1 : Lz) (x2 : Int) (w : World) (hn0 : n0 = gs0.length) (h0 : GS w w.heap.size A0 gs0) (hm0 : n0 ≤ 9223372036854775807) (hp0 : ∀ j, (gs0.getD j default).ps.length ≤ 9223372036854775807) (hn1 : n1 = st1.vs.length) (he1 : en1 = st1.rs.length) (hk1 : kn1 = st1.cs.length) (h1 : LS3 w w.heap.size A1 E1 K1 st1) (hm1 : n1 ≤ 9223372036854775807) (hem1 : en1 ≤ 9223372036854775807) (hkm1 : kn1 ≤ 9223372036854775807) (hp1 : ∀ j, (st1.rs.getD j []).length ≤ 9223372036854775807) :
    Calls Tryz.prog 4 #[.agg #[.slice A0 n0 c0], .agg #[.slice A1 n1 c1, .slice E1 en1 ec1, .slice K1 kn1 kc1], .int .i64 x2] w fun e w' => e = .returned (.bool true) ∧ Below w.heap.size w w' := by
  obtain ⟨l0, hl0⟩ : ∃ l0 : Int, l0 = 1048576 := ⟨_, rfl⟩
  have HC0 := Lib.hid fun (w' : World) (hB : w.heap.size ≤ w'.heap.size) (h : GS w' w.heap.size A0 gs0) => laws_szGraph A0 n0 c0 gs0 l0 w' w.heap.size hB hn0 h (by omega) (by omega) hm0 hp0
  by_cases hz0 : ((gsz gs0 : Nat) : Int) ≤ l0
  case neg =>
    rw [leftOf_no hz0] at HC0
    subst hl0
    have S_0 : Hid (As 0 w.heap.size (fun wk => GS wk w.heap.size A0 gs0 ∧ LS3 wk w.heap.size A1 E1 K1 st1) w) := ⟨⟨h0, h1⟩, Nat.le_refl _, ((GS.loc _ _ _).and (LS3.loc _ _ _ _ _))⟩
    have Bl_0 : Hid (Bl w w) := Bl.refl w
    have S_1 := Lib.hid (S_0.out.alloc (.cells #[.slice A0 n0 c0] 24))
    clear S_0
    have Bl_1 := Lib.hid (Bl_0.out.alloc (.cells #[.slice A0 n0 c0] 24))
    clear Bl_0
    have bx := box_new w (.slice A0 n0 c0) 24
    have BX0_1 := Lib.hid bx
    clear bx
    have S_2 := Lib.hid (S_1.out.alloc (.cells #[.slice A1 n1 c1, .slice E1 en1 ec1, .slice K1 kn1 kc1] 28))
    clear S_1
    have Bl_2 := Lib.hid (Bl_1.out.alloc (.cells #[.slice A1 n1 c1, .slice E1 en1 ec1, .slice K1 kn1 kc1] 28))
    clear Bl_1
    have BX0_2 := Lib.hid (BX0_1.out.alloc (.cells #[.slice A1 n1 c1, .slice E1 en1 ec1, .slice K1 kn1 kc1] 28))
    clear BX0_1
    have bx := box3_new (w.alloc (.cells #[.slice A0 n0 c0] 24)) (.slice A1 n1 c1) (.slice E1 en1 ec1) (.slice K1 kn1 kc1) 28
    simp only [World.size_alloc] at bx
    have BX1_2 := Lib.hid bx
    clear bx
    clear hn0 h0 hp0 hn1 h1 he1 hk1 hp1 hz0
    go_enter Tryz.func4, Tryz.ntmps4
    have q := BX0_2.out.it
    go_wp2_with fail
    refine (HC0.out _ Bl_2.out.le S_2.out.it.1).mono ?_
    rintro e w3 ⟨rfl, hb⟩
    have S_3 := Lib.hid (S_2.out.step hb)
    clear S_2
    have Bl_3 := Lib.hid (Bl_2.out.step hb)
    clear Bl_2
    have BX0_3 := Lib.hid (BX0_2.out.step hb)
    clear BX0_2
    have BX1_3 := Lib.hid (BX1_2.out.step hb)
    clear BX1_2
    clear q hb
    go_wp2
    go_ret
    exact ⟨rfl, Bl_3.out⟩
  rw [leftOf_ok hz0] at HC0
  obtain ⟨l1, hl1⟩ : ∃ l1 : Int, l1 = l0 - ((gsz gs0 : Nat) : Int) := ⟨_, rfl⟩
  rw [← hl1] at HC0
  have hge1 : 0 ≤ l1 := by omega
  have hle1 : l1 ≤ 1048576 := by omega
  have HC1 := Lib.hid fun (w' : World) (hB : w.heap.size ≤ w'.heap.size) (h : LS3 w' w.heap.size A1 E1 K1 st1) => laws_szLazy A1 E1 K1 n1 c1 en1 ec1 kn1 kc1 st1 l1 w' w.heap.size hB hn1 he1 hk1 h (by omega) (by omega) hm1 hem1 hkm1 hp1
  by_cases hz1 : ((lsz st1 : Nat) : Int) ≤ l1
  case neg =>
    rw [leftOf_no hz1] at HC1
    subst hl0
    have S_0 : Hid (As 0 w.heap.size (fun wk => GS wk w.heap.size A0 gs0 ∧ LS3 wk w.heap.size A1 E1 K1 st1) w) := ⟨⟨h0, h1⟩, Nat.le_refl _, ((GS.loc _ _ _).and (LS3.loc _ _ _ _ _))⟩
    have Bl_0 : Hid (Bl w w) := Bl.refl w
    have S_1 := Lib.hid (S_0.out.alloc (.cells #[.slice A0 n0 c0] 24))
    clear S_0
    have Bl_1 := Lib.hid (Bl_0.out.alloc (.cells #[.slice A0 n0 c0] 24))
    clear Bl_0
    have bx := box_new w (.slice A0 n0 c0) 24
    have BX0_1 := Lib.hid bx
    clear bx
    have S_2 := Lib.hid (S_1.out.alloc (.cells #[.slice A1 n1 c1, .slice E1 en1 ec1, .slice K1 kn1 kc1] 28))
    clear S_1
    have Bl_2 := Lib.hid (Bl_1.out.alloc (.cells #[.slice A1 n1 c1, .slice E1 en1 ec1, .slice K1 kn1 kc1] 28))
    clear Bl_1
    have BX0_2 := Lib.hid (BX0_1.out.alloc (.cells #[.slice A1 n1 c1, .slice E1 en1 ec1, .slice K1 kn1 kc1] 28))
    clear BX0_1
    have bx := box3_new (w.alloc (.cells #[.slice A0 n0 c0] 24)) (.slice A1 n1 c1) (.slice E1 en1 ec1) (.slice K1 kn1 kc1) 28
    simp only [World.size_alloc] at bx
    have BX1_2 := Lib.hid bx
    clear bx
    clear hn0 h0 hp0 hn1 h1 he1 hk1 hp1 hz1 hl1 hz0
    go_enter Tryz.func4, Tryz.ntmps4
    have q := BX0_2.out.it
    go_wp2_with fail
    refine (HC0.out _ Bl_2.out.le S_2.out.it.1).mono ?_
    rintro e w3 ⟨rfl, hb⟩
    have S_3 := Lib.hid (S_2.out.step hb)
    clear S_2
    have Bl_3 := Lib.hid (Bl_2.out.step hb)
    clear Bl_2
    have BX0_3 := Lib.hid (BX0_2.out.step hb)
    clear BX0_2
    have BX1_3 := Lib.hid (BX1_2.out.step hb)
    clear BX1_2
    clear q hb
    obtain ⟨q, qb, qbb⟩ := BX1_3.out.it
    go_wp2_with fail
    refine (HC1.out _ Bl_3.out.le S_3.out.it.2).mono ?_
    rintro e w4 ⟨rfl, hb⟩
    have S_4 := Lib.hid (S_3.out.step hb)
    clear S_3
    have Bl_4 := Lib.hid (Bl_3.out.step hb)
    clear Bl_3
    have BX0_4 := Lib.hid (BX0_3.out.step hb)
    clear BX0_3
    have BX1_4 := Lib.hid (BX1_3.out.step hb)
    clear BX1_3
    clear q qb qbb hb
    go_wp2
    go_ret
    exact ⟨rfl, Bl_4.out⟩
  rw [leftOf_ok hz1] at HC1
  obtain ⟨l2, hl2⟩ : ∃ l2 : Int, l2 = l1 - ((lsz st1 : Nat) : Int) := ⟨_, rfl⟩
  rw [← hl2] at HC1
  have hge2 : 0 ≤ l2 := by omega
  have hle2 : l2 ≤ 1048576 := by omega
  have hG0 : GB gs0 := GB.of_gsz (by omega)
  have hEB1 : LB st1 := LB.of_lsz (by omega)
  have HSP := Lib.hid (top_spec_ForgetNode gs0 st1 x2 hG0 hEB1)
  have HIM := Lib.hid (top_impl_ForgetNode gs0 st1 x2 hG0 hEB1)
  have heb0 := forgetL_LB gs0 st1 x2 hEB1
  generalize forgetL gs0 st1 x2 = F0 at *
  obtain ⟨t0, hq0⟩ : ∃ t0 : Nat, t0 = ((rowsL F0).map List.length).sum := ⟨_, rfl⟩
  have htb0 : t0 ≤ 1048576 := by rw [hq0]; exact heb0.2.2.2.2.1
  have HQ0 := Lib.hid hq0
  have HEB0 := Lib.hid heb0
  clear hq0 heb0
  have ht0 : decide (F0 = F0) = true := by simp
  generalize forgetLB gs0 st1 x2 = F1 at *
  have hf1 : (F1 != F1) = false := by simp
  have HN0 := Lib.hid hn0
  have HG0 := Lib.hid hG0
  have hx0 : decide (gs0 = gs0) = true := by simp
  have hnb0 : n0 ≤ 1048576 := by rw [hn0]; exact hG0.1
  have HN1 := Lib.hid hn1
  have HE1 := Lib.hid he1
  have HK1 := Lib.hid hk1
  have HEG1 := Lib.hid hEB1
  have hx1 : decide (st1 = st1) = true := by simp
  have hnb1 : n1 ≤ 1048576 := by rw [hn1]; exact hEB1.1
  have S_0 : Hid (As 0 w.heap.size (fun wk => GS wk w.heap.size A0 gs0 ∧ LS3 wk w.heap.size A1 E1 K1 st1) w) := ⟨⟨h0, h1⟩, Nat.le_refl _, ((GS.loc _ _ _).and (LS3.loc _ _ _ _ _))⟩
  have Bl_0 : Hid (Bl w w) := Bl.refl w
  have S_1 := Lib.hid (S_0.out.alloc (.cells #[.slice A0 n0 c0] 24))
  clear S_0
  have Bl_1 := Lib.hid (Bl_0.out.alloc (.cells #[.slice A0 n0 c0] 24))
  clear Bl_0
  have bx := box_new w (.slice A0 n0 c0) 24
  have BX0_1 := Lib.hid bx
  clear bx
  have S_2 := Lib.hid (S_1.out.alloc (.cells #[.slice A1 n1 c1, .slice E1 en1 ec1, .slice K1 kn1 kc1] 28))
  clear S_1
  have Bl_2 := Lib.hid (Bl_1.out.alloc (.cells #[.slice A1 n1 c1, .slice E1 en1 ec1, .slice K1 kn1 kc1] 28))
  clear Bl_1
  have BX0_2 := Lib.hid (BX0_1.out.alloc (.cells #[.slice A1 n1 c1, .slice E1 en1 ec1, .slice K1 kn1 kc1] 28))
  clear BX0_1
  have bx := box3_new (w.alloc (.cells #[.slice A0 n0 c0] 24)) (.slice A1 n1 c1) (.slice E1 en1 ec1) (.slice K1 kn1 kc1) 28
  simp only [World.size_alloc] at bx
  have BX1_2 := Lib.hid bx
  clear bx
  have HLS := Lib.hid hl0
  subst hl0
  clear HLS hn0 h0 hp0 hn1 h1 he1 hk1 hp1 hl1 hl2 hz0 hz1 hG0 hEB1
  go_enter Tryz.func4, Tryz.ntmps4
  have q := BX0_2.out.it
  go_wp2_with fail
  refine (HC0.out _ Bl_2.out.le S_2.out.it.1).mono ?_
  rintro e w3 ⟨rfl, hb⟩
  have hs_3 : w.heap.size + 2 ≤ w3.heap.size := by have := hb.size; (try simp only [World.size_alloc] at this); omega
  have S_3 := Lib.hid (S_2.out.step hb)
  clear S_2
  have Bl_3 := Lib.hid (Bl_2.out.step hb)
  clear Bl_2
  have BX0_3 := Lib.hid (BX0_2.out.step hb)
  clear BX0_2
  have BX1_3 := Lib.hid (BX1_2.out.step hb)
  clear BX1_2
  clear q hb
  obtain ⟨q, qb, qbb⟩ := BX1_3.out.it
  go_wp2_with fail
  refine (HC1.out _ Bl_3.out.le S_3.out.it.2).mono ?_
  rintro e w4 ⟨rfl, hb⟩
  have hs_4 : w3.heap.size ≤ w4.heap.size := by have := hb.size; (try simp only [World.size_alloc] at this); omega
  have S_4 := Lib.hid (S_3.out.step hb)
  clear S_3
  have Bl_4 := Lib.hid (Bl_3.out.step hb)
  clear Bl_3
  have BX0_4 := Lib.hid (BX0_3.out.step hb)
  clear BX0_3
  have BX1_4 := Lib.hid (BX1_3.out.step hb)
  clear BX1_3
  clear q qb qbb hb
  go_upto_region 8 with fail
  go_cut [8, 9] from 29 to 37 (fun tb t9 wx => ∃ (b lo hi : Nat) (BV0 : Option Addr) (mV0 dV0 : Nat) (BV1 : Option Addr) (mV1 dV1 : Nat) (BV2 : Option Addr) (mV2 dV2 : Nat), tb = .pointer (some ⟨b, 0, none⟩) ∧ t9 = .bool F1 ∧ Hid (As lo hi (OwL lo hi BV0 mV0 dV0 BV1 mV1 dV1 BV2 mV2 dV2 F0) wx) ∧ Hid (As b (b + 1) (fun w' => w'.cell? ⟨b, 0, none⟩ = some (.slice BV0 mV0 dV0) ∧ w'.cell? ⟨b, 1, none⟩ = some (.slice BV1 mV1 dV1) ∧ w'.cell? ⟨b, 2, none⟩ = some (.slice BV2 mV2 dV2)) wx) ∧ w4.heap.size ≤ lo ∧ w4.heap.size ≤ b ∧ (b < lo ∨ hi ≤ b) ∧ Hid (Below w4.heap.size w4 wx))
  have hla0 := S_4.out.le
  have hla1 := Bl_4.out.le
  have hla2 := BX0_4.out.le
  have hla3 := BX1_4.out.le
  case first =>
    have z0_4 := BX0_4.out.it
    obtain ⟨z1_4, z1_4b, z1_4bb⟩ := BX1_4.out.it
    refine wp_region_held_drew (S := fun w' => w'.cell? ⟨w.heap.size, 0, none⟩ = some (.slice A0 n0 c0) ∧ w'.cell? ⟨w.heap.size + 1, 0, none⟩ = some (.slice A1 n1 c1) ∧ w'.cell? ⟨w.heap.size + 1, 1, none⟩ = some (.slice E1 en1 ec1) ∧ w'.cell? ⟨w.heap.size + 1, 2, none⟩ = some (.slice K1 kn1 kc1)) (by kernel_rfl) ⟨z0_4, z1_4, z1_4b, z1_4bb⟩ (fun hHeld => ?_)
    clear hHeld z0_4 z1_4 z1_4b z1_4bb
    obtain ⟨w5, hw5⟩ : ∃ W : World, W = w4.drew := ⟨_, rfl⟩
    have hb : Below w4.heap.size w4 w5 := by rw [hw5]; exact (Below.refl _ _).drew
    rw [← hw5]
    clear hw5
    have hbs5 : w4.heap.size ≤ w5.heap.size := hb.size
    have S_5 := Lib.hid (S_4.out.step hb)
    clear S_4
    have Bl_5 := Lib.hid (Bl_4.out.step hb)
    clear Bl_4
    have BX0_5 := Lib.hid (BX0_4.out.step hb)
    clear BX0_4
    have BX1_5 := Lib.hid (BX1_4.out.step hb)
    clear BX1_4
    have Bk_5 := Lib.hid hb
    clear hb
    have z0_5 := BX0_5.out.it
    obtain ⟨z1_5, z1_5b, z1_5bb⟩ := BX1_5.out.it
    have hHeld : w5.cell? ⟨w.heap.size, 0, none⟩ = some (.slice A0 n0 c0) ∧ w5.cell? ⟨w.heap.size + 1, 0, none⟩ = some (.slice A1 n1 c1) ∧ w5.cell? ⟨w.heap.size + 1, 1, none⟩ = some (.slice E1 en1 ec1) ∧ w5.cell? ⟨w.heap.size + 1, 2, none⟩ = some (.slice K1 kn1 kc1) := ⟨z0_5, z1_5, z1_5b, z1_5bb⟩
    refine wpAnyH_take (i := 0) (oi := ⟨some 30, _, _, _, _, _⟩) (v := ?_) rfl (by as_aux_lemma => kernel_rfl) (by as_aux_lemma => kernel_rfl) (by as_aux_lemma => kernel_rfl) (fun _ _ _ h => h) (Or.inl ⟨by rfl, ?_⟩) (by assumption) ?_; rotate_left; (focus (intro w hSw; (try dsimp only at hSw); go_simp; (try with_reducible rfl))); (try simp only [Act.put, List.setIfInBounds_toArray]); (try dsimp only [List.set_cons_zero, List.set_cons_succ])
    refine wpAnyH_take (i := 2) (oi := ⟨some 32, _, _, _, _, _⟩) (v := ?_) rfl (by as_aux_lemma => kernel_rfl) (by as_aux_lemma => kernel_rfl) (by as_aux_lemma => kernel_rfl) (fun _ _ _ h => h) (Or.inl ⟨by rfl, ?_⟩) (by assumption) ?_; rotate_left; (focus (intro w hSw; (try dsimp only at hSw); go_simp; (try with_reducible rfl))); (try simp only [Act.put, List.setIfInBounds_toArray]); (try dsimp only [List.set_cons_zero, List.set_cons_succ])
    refine wpAnyH_take (i := 4) (oi := ⟨some 34, _, _, _, _, _⟩) (v := ?_) rfl (by as_aux_lemma => kernel_rfl) (by as_aux_lemma => kernel_rfl) (by as_aux_lemma => kernel_rfl) (fun _ _ _ h => h) (Or.inl ⟨by rfl, ?_⟩) (by assumption) ?_; rotate_left; (focus (intro w hSw; (try dsimp only at hSw); go_simp; (try with_reducible rfl))); (try simp only [Act.put, List.setIfInBounds_toArray]); (try dsimp only [List.set_cons_zero, List.set_cons_succ])
    refine wpAnyH_ready (rs := [1, 9]) (by kernel_rfl) (by simp) ?_; refine AllReadyH.cons (o := ⟨some 31, _, _, _, _, _⟩) rfl (fun K hK => ?_) (AllReadyH.cons (o := ⟨some 8, _, _, _, _, _⟩) rfl (fun K hK => ?_) AllReadyH.nil)
    · go_simp
      go_at_call 11
      refine (laws_toGraph A0 n0 c0 gs0 _ w.heap.size Bl_5.out.le HN0.out S_5.out.it.1 HG0.out).mono ?_
      rintro e w6 ⟨B6, m6, d6, rfl, hn, hown, hb⟩
      have M6 := Lib.hid hn
      have NC6 := Lib.hid hown.ncap
      have hbs6 : w5.heap.size ≤ w6.heap.size := hb.size
      have S_6 := Lib.hid (S_5.out.step hb)
      clear S_5
      have Bl_6 := Lib.hid (Bl_5.out.step hb)
      clear Bl_5
      have BX0_6 := Lib.hid (BX0_5.out.step hb)
      clear BX0_5
      have BX1_6 := Lib.hid (BX1_5.out.step hb)
      clear BX1_5
      have Bk_6 := Lib.hid (Bk_5.out.trans (hb.mono (by omega)))
      clear Bk_5
      have X0_6 := Lib.hid (graph_start hown)
      clear hown hb hn
      clear z0_5 z1_5 z1_5b z1_5bb
      have z0_6 := BX0_6.out.it
      obtain ⟨z1_6, z1_6b, z1_6bb⟩ := BX1_6.out.it
      refine hK.out _ _ ⟨z0_6, z1_6, z1_6b, z1_6bb⟩ (fun hHeld => ?_); clear hK K; (try simp only [Act.put, List.setIfInBounds_toArray]); (try dsimp only [List.set_cons_zero, List.set_cons_succ])
      refine wpAnyH_ready (rs := [3, 9]) (by kernel_rfl) (by simp) ?_; refine AllReadyH.cons (o := ⟨some 33, _, _, _, _, _⟩) rfl (fun K hK => ?_) (AllReadyH.cons (o := ⟨some 8, _, _, _, _, _⟩) rfl (fun K hK => ?_) AllReadyH.nil)
      · go_simp
        go_at_call 12
        refine (laws_toLazy A1 E1 K1 n1 c1 en1 ec1 kn1 kc1 st1 _ w.heap.size Bl_6.out.le HN1.out HE1.out HK1.out S_6.out.it.2 HEG1.out).mono ?_
        rintro e w7 ⟨B7, m7, d7, D7, em7, ed7, L7, lm7, ld7, rfl, hown, hb⟩
        have hn := hown.1
        have hen := hown.2.1
        have hkn := hown.2.2.1
        have M7 := Lib.hid hn
        have EM7 := Lib.hid hen
        have KM7 := Lib.hid hkn
        have hbs7 : w6.heap.size ≤ w7.heap.size := hb.size
        have S_7 := Lib.hid (S_6.out.step hb)
        clear S_6
        have Bl_7 := Lib.hid (Bl_6.out.step hb)
        clear Bl_6
        have BX0_7 := Lib.hid (BX0_6.out.step hb)
        clear BX0_6
        have BX1_7 := Lib.hid (BX1_6.out.step hb)
        clear BX1_6
        have Bk_7 := Lib.hid (Bk_6.out.trans (hb.mono (by omega)))
        clear Bk_6
        have X0_7 := Lib.hid (X0_6.out.step hb)
        clear X0_6
        have X1_7 := Lib.hid (lazy_start hown)
        clear hown hb hn hen hkn
        clear z0_6 z1_6 z1_6b z1_6bb
        have z0_7 := BX0_7.out.it
        obtain ⟨z1_7, z1_7b, z1_7bb⟩ := BX1_7.out.it
        refine hK.out _ _ ⟨z0_7, z1_7, z1_7b, z1_7bb⟩ (fun hHeld => ?_); clear hK K; (try simp only [Act.put, List.setIfInBounds_toArray]); (try dsimp only [List.set_cons_zero, List.set_cons_succ])
        refine wpAnyH_ready (rs := [5, 9]) (by kernel_rfl) (by simp) ?_; refine AllReadyH.cons (o := ⟨some 35, _, _, _, _, _⟩) rfl (fun K hK => ?_) (AllReadyH.cons (o := ⟨some 8, _, _, _, _, _⟩) rfl (fun K hK => ?_) AllReadyH.nil)
        · go_simp
          go_at_call 19
          refine (HSP.out B6 m6 d6 B7 m7 d7 D7 em7 ed7 L7 lm7 ld7 _ M6.out NC6.out X0_7.out.graph M7.out EM7.out KM7.out X1_7.out.lazy4).mono ?_
          rintro e w8 ⟨BV0, mV0, dV0, BV1, mV1, dV1, BV2, mV2, dV2, rfl, hown, hb⟩
          have hbs8 : w7.heap.size ≤ w8.heap.size := hb.size
          clear X0_7
          clear X1_7
          have S_8 := Lib.hid (S_7.out.step hb)
          clear S_7
          have Bl_8 := Lib.hid (Bl_7.out.step hb)
          clear Bl_7
          have BX0_8 := Lib.hid (BX0_7.out.step hb)
          clear BX0_7
          have BX1_8 := Lib.hid (BX1_7.out.step hb)
          clear BX1_7
          have Bk_8 := Lib.hid (Bk_7.out.trans (hb.mono (by omega)))
          clear Bk_7
          have V_8 := Lib.hid (lazy_start hown)
          clear hown hb
          clear z0_7 z1_7 z1_7b z1_7bb
          have z0_8 := BX0_8.out.it
          obtain ⟨z1_8, z1_8b, z1_8bb⟩ := BX1_8.out.it
          refine hK.out _ _ ⟨z0_8, z1_8, z1_8b, z1_8bb⟩ (fun hHeld => ?_); clear hK K; (try simp only [Act.put, List.setIfInBounds_toArray]); (try dsimp only [List.set_cons_zero, List.set_cons_succ])
          refine wpAnyH_take (i := 6) (oi := ⟨some 29, _, _, _, _, _⟩) (v := ?_) rfl (by as_aux_lemma => kernel_rfl) (by as_aux_lemma => kernel_rfl) (by as_aux_lemma => kernel_rfl) (fun _ _ _ h => h) (Or.inl ⟨by rfl, ?_⟩) (by assumption) ?_; rotate_left; (focus (intro w hSw; (try dsimp only at hSw); go_simp; (try with_reducible rfl))); (try simp only [Act.put, List.setIfInBounds_toArray]); (try dsimp only [List.set_cons_zero, List.set_cons_succ])
          refine wpAnyH_take (i := 7) (oi := ⟨some 36, _, _, _, _, _⟩) (v := ?_) rfl (by as_aux_lemma => kernel_rfl) (by as_aux_lemma => kernel_rfl) (by as_aux_lemma => kernel_rfl) (fun _ _ _ h => h) (Or.inl ⟨by rfl, ?_⟩) (by assumption) ?_; rotate_left; (focus (intro w hSw; (try dsimp only at hSw); go_simp; (try with_reducible rfl))); (try simp only [Act.put, List.setIfInBounds_toArray]); (try dsimp only [List.set_cons_zero, List.set_cons_succ])
          refine wpAnyH_take (i := 8) (oi := ⟨some 37, _, _, _, _, _⟩) (v := ?_) rfl (by as_aux_lemma => kernel_rfl) (by as_aux_lemma => kernel_rfl) (by as_aux_lemma => kernel_rfl) (fun _ _ _ h => h) (Or.inl ⟨by rfl, ?_⟩) (by assumption) ?_; rotate_left; (focus (intro w hSw; (try dsimp only at hSw); go_simp; (try with_reducible rfl))); (try simp only [Act.put, List.setIfInBounds_toArray]); (try dsimp only [List.set_cons_zero, List.set_cons_succ])
          refine wpAnyH_ready (rs := [9]) (by as_aux_lemma => kernel_rfl) (by simp) ?_; refine AllReadyH.cons (o := ⟨some 8, _, _, _, _, _⟩) rfl (fun K hK => ?_) AllReadyH.nil; go_simp
          obtain ⟨w9, hw9⟩ : ∃ W : World, W = w8.alloc (.cells #[.slice none 0 0, .slice none 0 0, .slice none 0 0] 31) := ⟨_, rfl⟩
          have hb : Below w8.heap.size w8 w9 := by rw [hw9]; exact (Below.refl _ _).alloc (Nat.le_refl _) _
          have hbs9 : w9.heap.size = w8.heap.size + 1 := by rw [hw9]; simp
          have S_9 := Lib.hid (S_8.out.step hb)
          clear S_8
          have Bl_9 := Lib.hid (Bl_8.out.step hb)
          clear Bl_8
          have BX0_9 := Lib.hid (BX0_8.out.step hb)
          clear BX0_8
          have BX1_9 := Lib.hid (BX1_8.out.step hb)
          clear BX1_8
          have Bk_9 := Lib.hid (Bk_8.out.trans (hb.mono (by omega)))
          clear Bk_8
          have V_9 := Lib.hid (V_8.out.step hb)
          clear V_8
          have NB_9 : Hid (Bx w8.heap.size [.slice none 0 0, .slice none 0 0, .slice none 0 0] w9) := by rw [hw9]; exact Bx.start w8 _ _
          have hbs9b : w8.heap.size < w9.heap.size := by omega
          clear hb z0_8 z1_8 z1_8b z1_8bb
          have z0_9 := BX0_9.out.it
          obtain ⟨z1_9, z1_9b, z1_9bb⟩ := BX1_9.out.it
          rw [← hw9]
          clear hw9 hbs9
          refine hK.out _ _ ⟨z0_9, z1_9, z1_9b, z1_9bb⟩ (fun hHeld => ?_); clear hK K; (try simp only [Act.put, List.setIfInBounds_toArray]); (try dsimp only [List.set_cons_zero, List.set_cons_succ])
          have hvl : w8.heap.size ≤ w9.heap.size := V_9.out.le
          have y0 := NB_9.out.c 0 _ rfl
          have x0 := NB_9.out.f 0
          have y1 := NB_9.out.c 1 _ rfl
          have x1 := NB_9.out.f 1
          have y2 := NB_9.out.c 2 _ rfl
          have x2 := NB_9.out.f 2
          refine wpAnyH_ready (rs := [10]) (by as_aux_lemma => kernel_rfl) (by simp) ?_; refine AllReadyH.cons (o := ⟨none, _, _, _, _, _⟩) rfl (fun K hK => ?_) AllReadyH.nil; go_simp
          obtain ⟨w10, hw10⟩ : ∃ W : World, W = (((w9.setCell ⟨w8.heap.size, 0, none⟩ (.slice BV0 mV0 dV0)).setCell ⟨w8.heap.size, 1, none⟩ (.slice BV1 mV1 dV1)).setCell ⟨w8.heap.size, 2, none⟩ (.slice BV2 mV2 dV2)) := ⟨_, rfl⟩
          have ht : Tch (w8.heap.size) (w8.heap.size + 1) w9 w10 := by rw [hw10]; exact (((Tch.refl _ _ _).trans (Bx.tch _ 0 _)).trans (Bx.tch _ 1 _)).trans (Bx.tch _ 2 _)
          have NC : Hid (Bx (w8.heap.size) [.slice BV0 mV0 dV0, .slice BV1 mV1 dV1, .slice BV2 mV2 dV2] w10) := by rw [hw10]; exact (((NB_9.out.set 0 (by simp) (.slice BV0 mV0 dV0)).set 1 (by simp) (.slice BV1 mV1 dV1)).set 2 (by simp) (.slice BV2 mV2 dV2))
          have hbs10 := ht.size
          have S_10 := Lib.hid (S_9.out.turn ht (by omega))
          clear S_9
          have Bl_10 := Lib.hid (Bl_9.out.turn ht (by omega))
          clear Bl_9
          have BX0_10 := Lib.hid (BX0_9.out.turn ht (by omega))
          clear BX0_9
          have BX1_10 := Lib.hid (BX1_9.out.turn ht (by omega))
          clear BX1_9
          have Bk_10 := Lib.hid (Bk_9.out.trans (ht.below (by omega) (by omega)))
          clear Bk_9
          have V_10 := Lib.hid (V_9.out.turn ht (by omega))
          clear V_9
          clear NB_9
          clear ht y0 x0 y1 x1 y2 x2 z0_9 z1_9 z1_9b z1_9bb
          have z0_10 := BX0_10.out.it
          obtain ⟨z1_10, z1_10b, z1_10bb⟩ := BX1_10.out.it
          rw [← hw10]
          clear hw10
          refine hK.out _ _ ⟨z0_10, z1_10, z1_10b, z1_10bb⟩ (fun hHeld => ?_); clear hK K; (try simp only [Act.put, List.setIfInBounds_toArray]); (try dsimp only [List.set_cons_zero, List.set_cons_succ])
          refine wpAnyH_ready (rs := [11]) (by as_aux_lemma => kernel_rfl) (by simp) ?_; refine AllReadyH.cons (o := ⟨some 9, _, _, _, _, _⟩) rfl (fun K hK => ?_) AllReadyH.nil; go_simp
          refine hK.out _ _ ⟨z0_10, z1_10, z1_10b, z1_10bb⟩ (fun hHeld => ?_); clear hK K; (try simp only [Act.put, List.setIfInBounds_toArray]); (try dsimp only [List.set_cons_zero, List.set_cons_succ])
          refine wpAnyH_done (by kernel_rfl) ?_ _
          go_wp2_with fail
          go_meet
          exact ⟨w8.heap.size, w7.heap.size, w8.heap.size, _, _, _, _, _, _, _, _, _, rfl, rfl, V_10.out, Bx.as3 NC.out, by omega, by omega, by omega, Bk_10.out⟩
        · go_simp
          obtain ⟨w8, hw8⟩ : ∃ W : World, W = w7.alloc (.cells #[.slice none 0 0, .slice none 0 0, .slice none 0 0] 31) := ⟨_, rfl⟩
          have hb : Below w7.heap.size w7 w8 := by rw [hw8]; exact (Below.refl _ _).alloc (Nat.le_refl _) _
          have hbs8 : w8.heap.size = w7.heap.size + 1 := by rw [hw8]; simp
          have S_8 := Lib.hid (S_7.out.step hb)
          clear S_7
          have Bl_8 := Lib.hid (Bl_7.out.step hb)
          clear Bl_7
          have BX0_8 := Lib.hid (BX0_7.out.step hb)
          clear BX0_7
          have BX1_8 := Lib.hid (BX1_7.out.step hb)
          clear BX1_7
          have Bk_8 := Lib.hid (Bk_7.out.trans (hb.mono (by omega)))
          clear Bk_7
          have X0_8 := Lib.hid (X0_7.out.step hb)
          clear X0_7
          have X1_8 := Lib.hid (X1_7.out.step hb)
          clear X1_7
          have NB_8 : Hid (Bx w7.heap.size [.slice none 0 0, .slice none 0 0, .slice none 0 0] w8) := by rw [hw8]; exact Bx.start w7 _ _
          have hbs8b : w7.heap.size < w8.heap.size := by omega
          clear hb z0_7 z1_7 z1_7b z1_7bb
          have z0_8 := BX0_8.out.it
          obtain ⟨z1_8, z1_8b, z1_8bb⟩ := BX1_8.out.it
          rw [← hw8]
          clear hw8 hbs8
          refine hK.out _ _ ⟨z0_8, z1_8, z1_8b, z1_8bb⟩ (fun hHeld => ?_); clear hK K; (try simp only [Act.put, List.setIfInBounds_toArray]); (try dsimp only [List.set_cons_zero, List.set_cons_succ])
          refine wpAnyH_ready (rs := [5]) (by as_aux_lemma => kernel_rfl) (by simp) ?_; refine AllReadyH.cons (o := ⟨some 35, _, _, _, _, _⟩) rfl (fun K hK => ?_) AllReadyH.nil; go_simp
          go_at_call 19
          refine (HSP.out B6 m6 d6 B7 m7 d7 D7 em7 ed7 L7 lm7 ld7 _ M6.out NC6.out X0_8.out.graph M7.out EM7.out KM7.out X1_8.out.lazy4).mono ?_
          rintro e w9 ⟨BV0, mV0, dV0, BV1, mV1, dV1, BV2, mV2, dV2, rfl, hown, hb⟩
          have hbs9 : w8.heap.size ≤ w9.heap.size := hb.size
          clear X0_8
          clear X1_8
          have S_9 := Lib.hid (S_8.out.step hb)
          clear S_8
          have Bl_9 := Lib.hid (Bl_8.out.step hb)
          clear Bl_8
          have BX0_9 := Lib.hid (BX0_8.out.step hb)
          clear BX0_8
          have BX1_9 := Lib.hid (BX1_8.out.step hb)
          clear BX1_8
          have Bk_9 := Lib.hid (Bk_8.out.trans (hb.mono (by omega)))
          clear Bk_8
          have NB_9 := Lib.hid (NB_8.out.step hb)
          clear NB_8
          have V_9 := Lib.hid (lazy_start hown)
          clear hown hb
          clear z0_8 z1_8 z1_8b z1_8bb
          have z0_9 := BX0_9.out.it
          obtain ⟨z1_9, z1_9b, z1_9bb⟩ := BX1_9.out.it
          refine hK.out _ _ ⟨z0_9, z1_9, z1_9b, z1_9bb⟩ (fun hHeld => ?_); clear hK K; (try simp only [Act.put, List.setIfInBounds_toArray]); (try dsimp only [List.set_cons_zero, List.set_cons_succ])
          refine wpAnyH_take (i := 6) (oi := ⟨some 29, _, _, _, _, _⟩) (v := ?_) rfl (by as_aux_lemma => kernel_rfl) (by as_aux_lemma => kernel_rfl) (by as_aux_lemma => kernel_rfl) (fun _ _ _ h => h) (Or.inl ⟨by rfl, ?_⟩) (by assumption) ?_; rotate_left; (focus (intro w hSw; (try dsimp only at hSw); go_simp; (try with_reducible rfl))); (try simp only [Act.put, List.setIfInBounds_toArray]); (try dsimp only [List.set_cons_zero, List.set_cons_succ])
          refine wpAnyH_take (i := 7) (oi := ⟨some 36, _, _, _, _, _⟩) (v := ?_) rfl (by as_aux_lemma => kernel_rfl) (by as_aux_lemma => kernel_rfl) (by as_aux_lemma => kernel_rfl) (fun _ _ _ h => h) (Or.inl ⟨by rfl, ?_⟩) (by assumption) ?_; rotate_left; (focus (intro w hSw; (try dsimp only at hSw); go_simp; (try with_reducible rfl))); (try simp only [Act.put, List.setIfInBounds_toArray]); (try dsimp only [List.set_cons_zero, List.set_cons_succ])
          refine wpAnyH_take (i := 8) (oi := ⟨some 37, _, _, _, _, _⟩) (v := ?_) rfl (by as_aux_lemma => kernel_rfl) (by as_aux_lemma => kernel_rfl) (by as_aux_lemma => kernel_rfl) (fun _ _ _ h => h) (Or.inl ⟨by rfl, ?_⟩) (by assumption) ?_; rotate_left; (focus (intro w hSw; (try dsimp only at hSw); go_simp; (try with_reducible rfl))); (try simp only [Act.put, List.setIfInBounds_toArray]); (try dsimp only [List.set_cons_zero, List.set_cons_succ])
          have hvl : w9.heap.size ≤ w9.heap.size := V_9.out.le
          have y0 := NB_9.out.c 0 _ rfl
          have x0 := NB_9.out.f 0
          have y1 := NB_9.out.c 1 _ rfl
          have x1 := NB_9.out.f 1
          have y2 := NB_9.out.c 2 _ rfl
          have x2 := NB_9.out.f 2
          refine wpAnyH_ready (rs := [10]) (by as_aux_lemma => kernel_rfl) (by simp) ?_; refine AllReadyH.cons (o := ⟨none, _, _, _, _, _⟩) rfl (fun K hK => ?_) AllReadyH.nil; go_simp
          obtain ⟨w10, hw10⟩ : ∃ W : World, W = (((w9.setCell ⟨w7.heap.size, 0, none⟩ (.slice BV0 mV0 dV0)).setCell ⟨w7.heap.size, 1, none⟩ (.slice BV1 mV1 dV1)).setCell ⟨w7.heap.size, 2, none⟩ (.slice BV2 mV2 dV2)) := ⟨_, rfl⟩
          have ht : Tch (w7.heap.size) (w7.heap.size + 1) w9 w10 := by rw [hw10]; exact (((Tch.refl _ _ _).trans (Bx.tch _ 0 _)).trans (Bx.tch _ 1 _)).trans (Bx.tch _ 2 _)
          have NC : Hid (Bx (w7.heap.size) [.slice BV0 mV0 dV0, .slice BV1 mV1 dV1, .slice BV2 mV2 dV2] w10) := by rw [hw10]; exact (((NB_9.out.set 0 (by simp) (.slice BV0 mV0 dV0)).set 1 (by simp) (.slice BV1 mV1 dV1)).set 2 (by simp) (.slice BV2 mV2 dV2))
          have hbs10 := ht.size
          have S_10 := Lib.hid (S_9.out.turn ht (by omega))
          clear S_9
          have Bl_10 := Lib.hid (Bl_9.out.turn ht (by omega))
          clear Bl_9
          have BX0_10 := Lib.hid (BX0_9.out.turn ht (by omega))
          clear BX0_9
          have BX1_10 := Lib.hid (BX1_9.out.turn ht (by omega))
          clear BX1_9
          have Bk_10 := Lib.hid (Bk_9.out.trans (ht.below (by omega) (by omega)))
          clear Bk_9
          clear NB_9
          have V_10 := Lib.hid (V_9.out.turn ht (by omega))
          clear V_9
          clear ht y0 x0 y1 x1 y2 x2 z0_9 z1_9 z1_9b z1_9bb
          have z0_10 := BX0_10.out.it
          obtain ⟨z1_10, z1_10b, z1_10bb⟩ := BX1_10.out.it
          rw [← hw10]
          clear hw10
          refine hK.out _ _ ⟨z0_10, z1_10, z1_10b, z1_10bb⟩ (fun hHeld => ?_); clear hK K; (try simp only [Act.put, List.setIfInBounds_toArray]); (try dsimp only [List.set_cons_zero, List.set_cons_succ])
          refine wpAnyH_ready (rs := [11]) (by as_aux_lemma => kernel_rfl) (by simp) ?_; refine AllReadyH.cons (o := ⟨some 9, _, _, _, _, _⟩) rfl (fun K hK => ?_) AllReadyH.nil; go_simp
          refine hK.out _ _ ⟨z0_10, z1_10, z1_10b, z1_10bb⟩ (fun hHeld => ?_); clear hK K; (try simp only [Act.put, List.setIfInBounds_toArray]); (try dsimp only [List.set_cons_zero, List.set_cons_succ])
          refine wpAnyH_done (by kernel_rfl) ?_ _
          go_wp2_with fail
          go_meet
          exact ⟨w7.heap.size, w8.heap.size, w9.heap.size, _, _, _, _, _, _, _, _, _, rfl, rfl, V_10.out, Bx.as3 NC.out, by omega, by omega, by omega, Bk_10.out⟩
      · go_simp
        obtain ⟨w7, hw7⟩ : ∃ W : World, W = w6.alloc (.cells #[.slice none 0 0, .slice none 0 0, .slice none 0 0] 31) := ⟨_, rfl⟩
        have hb : Below w6.heap.size w6 w7 := by rw [hw7]; exact (Below.refl _ _).alloc (Nat.le_refl _) _
        have hbs7 : w7.heap.size = w6.heap.size + 1 := by rw [hw7]; simp
        have S_7 := Lib.hid (S_6.out.step hb)
        clear S_6
        have Bl_7 := Lib.hid (Bl_6.out.step hb)
        clear Bl_6
        have BX0_7 := Lib.hid (BX0_6.out.step hb)
        clear BX0_6
        have BX1_7 := Lib.hid (BX1_6.out.step hb)
        clear BX1_6
        have Bk_7 := Lib.hid (Bk_6.out.trans (hb.mono (by omega)))
        clear Bk_6
        have X0_7 := Lib.hid (X0_6.out.step hb)
        clear X0_6
        have NB_7 : Hid (Bx w6.heap.size [.slice none 0 0, .slice none 0 0, .slice none 0 0] w7) := by rw [hw7]; exact Bx.start w6 _ _
        have hbs7b : w6.heap.size < w7.heap.size := by omega
        clear hb z0_6 z1_6 z1_6b z1_6bb
        have z0_7 := BX0_7.out.it
        obtain ⟨z1_7, z1_7b, z1_7bb⟩ := BX1_7.out.it
        rw [← hw7]
        clear hw7 hbs7
        refine hK.out _ _ ⟨z0_7, z1_7, z1_7b, z1_7bb⟩ (fun hHeld => ?_); clear hK K; (try simp only [Act.put, List.setIfInBounds_toArray]); (try dsimp only [List.set_cons_zero, List.set_cons_succ])
        refine wpAnyH_ready (rs := [3]) (by as_aux_lemma => kernel_rfl) (by simp) ?_; refine AllReadyH.cons (o := ⟨some 33, _, _, _, _, _⟩) rfl (fun K hK => ?_) AllReadyH.nil; go_simp
        go_at_call 12
        refine (laws_toLazy A1 E1 K1 n1 c1 en1 ec1 kn1 kc1 st1 _ w.heap.size Bl_7.out.le HN1.out HE1.out HK1.out S_7.out.it.2 HEG1.out).mono ?_
        rintro e w8 ⟨B8, m8, d8, D8, em8, ed8, L8, lm8, ld8, rfl, hown, hb⟩
        have hn := hown.1
        have hen := hown.2.1
        have hkn := hown.2.2.1
        have M8 := Lib.hid hn
        have EM8 := Lib.hid hen
        have KM8 := Lib.hid hkn
        have hbs8 : w7.heap.size ≤ w8.heap.size := hb.size
        have S_8 := Lib.hid (S_7.out.step hb)
        clear S_7
        have Bl_8 := Lib.hid (Bl_7.out.step hb)
        clear Bl_7
        have BX0_8 := Lib.hid (BX0_7.out.step hb)
        clear BX0_7
        have BX1_8 := Lib.hid (BX1_7.out.step hb)
        clear BX1_7
        have Bk_8 := Lib.hid (Bk_7.out.trans (hb.mono (by omega)))
        clear Bk_7
        have X0_8 := Lib.hid (X0_7.out.step hb)
        clear X0_7
        have NB_8 := Lib.hid (NB_7.out.step hb)
        clear NB_7
        have X1_8 := Lib.hid (lazy_start hown)
        clear hown hb hn hen hkn
        clear z0_7 z1_7 z1_7b z1_7bb
        have z0_8 := BX0_8.out.it
        obtain ⟨z1_8, z1_8b, z1_8bb⟩ := BX1_8.out.it
        refine hK.out _ _ ⟨z0_8, z1_8, z1_8b, z1_8bb⟩ (fun hHeld => ?_); clear hK K; (try simp only [Act.put, List.setIfInBounds_toArray]); (try dsimp only [List.set_cons_zero, List.set_cons_succ])
        refine wpAnyH_ready (rs := [5]) (by as_aux_lemma => kernel_rfl) (by simp) ?_; refine AllReadyH.cons (o := ⟨some 35, _, _, _, _, _⟩) rfl (fun K hK => ?_) AllReadyH.nil; go_simp
        go_at_call 19
        refine (HSP.out B6 m6 d6 B8 m8 d8 D8 em8 ed8 L8 lm8 ld8 _ M6.out NC6.out X0_8.out.graph M8.out EM8.out KM8.out X1_8.out.lazy4).mono ?_
        rintro e w9 ⟨BV0, mV0, dV0, BV1, mV1, dV1, BV2, mV2, dV2, rfl, hown, hb⟩
        have hbs9 : w8.heap.size ≤ w9.heap.size := hb.size
        clear X0_8
        clear X1_8
        have S_9 := Lib.hid (S_8.out.step hb)
        clear S_8
        have Bl_9 := Lib.hid (Bl_8.out.step hb)
        clear Bl_8
        have BX0_9 := Lib.hid (BX0_8.out.step hb)
        clear BX0_8
        have BX1_9 := Lib.hid (BX1_8.out.step hb)
        clear BX1_8
        have Bk_9 := Lib.hid (Bk_8.out.trans (hb.mono (by omega)))
        clear Bk_8
        have NB_9 := Lib.hid (NB_8.out.step hb)
        clear NB_8
        have V_9 := Lib.hid (lazy_start hown)
        clear hown hb
        clear z0_8 z1_8 z1_8b z1_8bb
        have z0_9 := BX0_9.out.it
        obtain ⟨z1_9, z1_9b, z1_9bb⟩ := BX1_9.out.it
        refine hK.out _ _ ⟨z0_9, z1_9, z1_9b, z1_9bb⟩ (fun hHeld => ?_); clear hK K; (try simp only [Act.put, List.setIfInBounds_toArray]); (try dsimp only [List.set_cons_zero, List.set_cons_succ])
        refine wpAnyH_take (i := 6) (oi := ⟨some 29, _, _, _, _, _⟩) (v := ?_) rfl (by as_aux_lemma => kernel_rfl) (by as_aux_lemma => kernel_rfl) (by as_aux_lemma => kernel_rfl) (fun _ _ _ h => h) (Or.inl ⟨by rfl, ?_⟩) (by assumption) ?_; rotate_left; (focus (intro w hSw; (try dsimp only at hSw); go_simp; (try with_reducible rfl))); (try simp only [Act.put, List.setIfInBounds_toArray]); (try dsimp only [List.set_cons_zero, List.set_cons_succ])
        refine wpAnyH_take (i := 7) (oi := ⟨some 36, _, _, _, _, _⟩) (v := ?_) rfl (by as_aux_lemma => kernel_rfl) (by as_aux_lemma => kernel_rfl) (by as_aux_lemma => kernel_rfl) (fun _ _ _ h => h) (Or.inl ⟨by rfl, ?_⟩) (by assumption) ?_; rotate_left; (focus (intro w hSw; (try dsimp only at hSw); go_simp; (try with_reducible rfl))); (try simp only [Act.put, List.setIfInBounds_toArray]); (try dsimp only [List.set_cons_zero, List.set_cons_succ])
        refine wpAnyH_take (i := 8) (oi := ⟨some 37, _, _, _, _, _⟩) (v := ?_) rfl (by as_aux_lemma => kernel_rfl) (by as_aux_lemma => kernel_rfl) (by as_aux_lemma => kernel_rfl) (fun _ _ _ h => h) (Or.inl ⟨by rfl, ?_⟩) (by assumption) ?_; rotate_left; (focus (intro w hSw; (try dsimp only at hSw); go_simp; (try with_reducible rfl))); (try simp only [Act.put, List.setIfInBounds_toArray]); (try dsimp only [List.set_cons_zero, List.set_cons_succ])
        have hvl : w9.heap.size ≤ w9.heap.size := V_9.out.le
        have y0 := NB_9.out.c 0 _ rfl
        have x0 := NB_9.out.f 0
        have y1 := NB_9.out.c 1 _ rfl
        have x1 := NB_9.out.f 1
        have y2 := NB_9.out.c 2 _ rfl
        have x2 := NB_9.out.f 2
        refine wpAnyH_ready (rs := [10]) (by as_aux_lemma => kernel_rfl) (by simp) ?_; refine AllReadyH.cons (o := ⟨none, _, _, _, _, _⟩) rfl (fun K hK => ?_) AllReadyH.nil; go_simp
        obtain ⟨w10, hw10⟩ : ∃ W : World, W = (((w9.setCell ⟨w6.heap.size, 0, none⟩ (.slice BV0 mV0 dV0)).setCell ⟨w6.heap.size, 1, none⟩ (.slice BV1 mV1 dV1)).setCell ⟨w6.heap.size, 2, none⟩ (.slice BV2 mV2 dV2)) := ⟨_, rfl⟩
        have ht : Tch (w6.heap.size) (w6.heap.size + 1) w9 w10 := by rw [hw10]; exact (((Tch.refl _ _ _).trans (Bx.tch _ 0 _)).trans (Bx.tch _ 1 _)).trans (Bx.tch _ 2 _)
        have NC : Hid (Bx (w6.heap.size) [.slice BV0 mV0 dV0, .slice BV1 mV1 dV1, .slice BV2 mV2 dV2] w10) := by rw [hw10]; exact (((NB_9.out.set 0 (by simp) (.slice BV0 mV0 dV0)).set 1 (by simp) (.slice BV1 mV1 dV1)).set 2 (by simp) (.slice BV2 mV2 dV2))
        have hbs10 := ht.size
        have S_10 := Lib.hid (S_9.out.turn ht (by omega))
        clear S_9
        have Bl_10 := Lib.hid (Bl_9.out.turn ht (by omega))
        clear Bl_9
        have BX0_10 := Lib.hid (BX0_9.out.turn ht (by omega))
        clear BX0_9
        have BX1_10 := Lib.hid (BX1_9.out.turn ht (by omega))
        clear BX1_9
        have Bk_10 := Lib.hid (Bk_9.out.trans (ht.below (by omega) (by omega)))
        clear Bk_9
        clear NB_9
        have V_10 := Lib.hid (V_9.out.turn ht (by omega))
        clear V_9
        clear ht y0 x0 y1 x1 y2 x2 z0_9 z1_9 z1_9b z1_9bb
        have z0_10 := BX0_10.out.it
        obtain ⟨z1_10, z1_10b, z1_10bb⟩ := BX1_10.out.it
        rw [← hw10]
        clear hw10
        refine hK.out _ _ ⟨z0_10, z1_10, z1_10b, z1_10bb⟩ (fun hHeld => ?_); clear hK K; (try simp only [Act.put, List.setIfInBounds_toArray]); (try dsimp only [List.set_cons_zero, List.set_cons_succ])
        refine wpAnyH_ready (rs := [11]) (by as_aux_lemma => kernel_rfl) (by simp) ?_; refine AllReadyH.cons (o := ⟨some 9, _, _, _, _, _⟩) rfl (fun K hK => ?_) AllReadyH.nil; go_simp
        refine hK.out _ _ ⟨z0_10, z1_10, z1_10b, z1_10bb⟩ (fun hHeld => ?_); clear hK K; (try simp only [Act.put, List.setIfInBounds_toArray]); (try dsimp only [List.set_cons_zero, List.set_cons_succ])
        refine wpAnyH_done (by kernel_rfl) ?_ _
        go_wp2_with fail
        go_meet
        exact ⟨w6.heap.size, w8.heap.size, w9.heap.size, _, _, _, _, _, _, _, _, _, rfl, rfl, V_10.out, Bx.as3 NC.out, by omega, by omega, by omega, Bk_10.out⟩
    · go_simp
      obtain ⟨w6, hw6⟩ : ∃ W : World, W = w5.alloc (.cells #[.slice none 0 0, .slice none 0 0, .slice none 0 0] 31) := ⟨_, rfl⟩
      have hb : Below w5.heap.size w5 w6 := by rw [hw6]; exact (Below.refl _ _).alloc (Nat.le_refl _) _
      have hbs6 : w6.heap.size = w5.heap.size + 1 := by rw [hw6]; simp
      have S_6 := Lib.hid (S_5.out.step hb)
      clear S_5
      have Bl_6 := Lib.hid (Bl_5.out.step hb)
      clear Bl_5
      have BX0_6 := Lib.hid (BX0_5.out.step hb)
      clear BX0_5
      have BX1_6 := Lib.hid (BX1_5.out.step hb)
      clear BX1_5
      have Bk_6 := Lib.hid (Bk_5.out.trans (hb.mono (by omega)))
      clear Bk_5
      have NB_6 : Hid (Bx w5.heap.size [.slice none 0 0, .slice none 0 0, .slice none 0 0] w6) := by rw [hw6]; exact Bx.start w5 _ _
      have hbs6b : w5.heap.size < w6.heap.size := by omega
      clear hb z0_5 z1_5 z1_5b z1_5bb
      have z0_6 := BX0_6.out.it
      obtain ⟨z1_6, z1_6b, z1_6bb⟩ := BX1_6.out.it
      rw [← hw6]
      clear hw6 hbs6
      refine hK.out _ _ ⟨z0_6, z1_6, z1_6b, z1_6bb⟩ (fun hHeld => ?_); clear hK K; (try simp only [Act.put, List.setIfInBounds_toArray]); (try dsimp only [List.set_cons_zero, List.set_cons_succ])
      refine wpAnyH_ready (rs := [1]) (by as_aux_lemma => kernel_rfl) (by simp) ?_; refine AllReadyH.cons (o := ⟨some 31, _, _, _, _, _⟩) rfl (fun K hK => ?_) AllReadyH.nil; go_simp
      go_at_call 11
      refine (laws_toGraph A0 n0 c0 gs0 _ w.heap.size Bl_6.out.le HN0.out S_6.out.it.1 HG0.out).mono ?_
      rintro e w7 ⟨B7, m7, d7, rfl, hn, hown, hb⟩
      have M7 := Lib.hid hn
      have NC7 := Lib.hid hown.ncap
      have hbs7 : w6.heap.size ≤ w7.heap.size := hb.size
      have S_7 := Lib.hid (S_6.out.step hb)
      clear S_6
      have Bl_7 := Lib.hid (Bl_6.out.step hb)
      clear Bl_6
      have BX0_7 := Lib.hid (BX0_6.out.step hb)
      clear BX0_6
      have BX1_7 := Lib.hid (BX1_6.out.step hb)
      clear BX1_6
      have Bk_7 := Lib.hid (Bk_6.out.trans (hb.mono (by omega)))
      clear Bk_6
      have NB_7 := Lib.hid (NB_6.out.step hb)
      clear NB_6
      have X0_7 := Lib.hid (graph_start hown)
      clear hown hb hn
      clear z0_6 z1_6 z1_6b z1_6bb
      have z0_7 := BX0_7.out.it
      obtain ⟨z1_7, z1_7b, z1_7bb⟩ := BX1_7.out.it
      refine hK.out _ _ ⟨z0_7, z1_7, z1_7b, z1_7bb⟩ (fun hHeld => ?_); clear hK K; (try simp only [Act.put, List.setIfInBounds_toArray]); (try dsimp only [List.set_cons_zero, List.set_cons_succ])
      refine wpAnyH_ready (rs := [3]) (by as_aux_lemma => kernel_rfl) (by simp) ?_; refine AllReadyH.cons (o := ⟨some 33, _, _, _, _, _⟩) rfl (fun K hK => ?_) AllReadyH.nil; go_simp
      go_at_call 12
      refine (laws_toLazy A1 E1 K1 n1 c1 en1 ec1 kn1 kc1 st1 _ w.heap.size Bl_7.out.le HN1.out HE1.out HK1.out S_7.out.it.2 HEG1.out).mono ?_
      rintro e w8 ⟨B8, m8, d8, D8, em8, ed8, L8, lm8, ld8, rfl, hown, hb⟩
      have hn := hown.1
      have hen := hown.2.1
      have hkn := hown.2.2.1
      have M8 := Lib.hid hn
      have EM8 := Lib.hid hen
      have KM8 := Lib.hid hkn
      have hbs8 : w7.heap.size ≤ w8.heap.size := hb.size
      have S_8 := Lib.hid (S_7.out.step hb)
      clear S_7
      have Bl_8 := Lib.hid (Bl_7.out.step hb)
      clear Bl_7
      have BX0_8 := Lib.hid (BX0_7.out.step hb)
      clear BX0_7
      have BX1_8 := Lib.hid (BX1_7.out.step hb)
      clear BX1_7
      have Bk_8 := Lib.hid (Bk_7.out.trans (hb.mono (by omega)))
      clear Bk_7
      have NB_8 := Lib.hid (NB_7.out.step hb)
      clear NB_7
      have X0_8 := Lib.hid (X0_7.out.step hb)
      clear X0_7
      have X1_8 := Lib.hid (lazy_start hown)
      clear hown hb hn hen hkn
      clear z0_7 z1_7 z1_7b z1_7bb
      have z0_8 := BX0_8.out.it
      obtain ⟨z1_8, z1_8b, z1_8bb⟩ := BX1_8.out.it
      refine hK.out _ _ ⟨z0_8, z1_8, z1_8b, z1_8bb⟩ (fun hHeld => ?_); clear hK K; (try simp only [Act.put, List.setIfInBounds_toArray]); (try dsimp only [List.set_cons_zero, List.set_cons_succ])
      refine wpAnyH_ready (rs := [5]) (by as_aux_lemma => kernel_rfl) (by simp) ?_; refine AllReadyH.cons (o := ⟨some 35, _, _, _, _, _⟩) rfl (fun K hK => ?_) AllReadyH.nil; go_simp
      go_at_call 19
      refine (HSP.out B7 m7 d7 B8 m8 d8 D8 em8 ed8 L8 lm8 ld8 _ M7.out NC7.out X0_8.out.graph M8.out EM8.out KM8.out X1_8.out.lazy4).mono ?_
      rintro e w9 ⟨BV0, mV0, dV0, BV1, mV1, dV1, BV2, mV2, dV2, rfl, hown, hb⟩
      have hbs9 : w8.heap.size ≤ w9.heap.size := hb.size
      clear X0_8
      clear X1_8
      have S_9 := Lib.hid (S_8.out.step hb)
      clear S_8
      have Bl_9 := Lib.hid (Bl_8.out.step hb)
      clear Bl_8
      have BX0_9 := Lib.hid (BX0_8.out.step hb)
      clear BX0_8
      have BX1_9 := Lib.hid (BX1_8.out.step hb)
      clear BX1_8
      have Bk_9 := Lib.hid (Bk_8.out.trans (hb.mono (by omega)))
      clear Bk_8
      have NB_9 := Lib.hid (NB_8.out.step hb)
      clear NB_8
      have V_9 := Lib.hid (lazy_start hown)
      clear hown hb
      clear z0_8 z1_8 z1_8b z1_8bb
      have z0_9 := BX0_9.out.it
      obtain ⟨z1_9, z1_9b, z1_9bb⟩ := BX1_9.out.it
      refine hK.out _ _ ⟨z0_9, z1_9, z1_9b, z1_9bb⟩ (fun hHeld => ?_); clear hK K; (try simp only [Act.put, List.setIfInBounds_toArray]); (try dsimp only [List.set_cons_zero, List.set_cons_succ])
      refine wpAnyH_take (i := 6) (oi := ⟨some 29, _, _, _, _, _⟩) (v := ?_) rfl (by as_aux_lemma => kernel_rfl) (by as_aux_lemma => kernel_rfl) (by as_aux_lemma => kernel_rfl) (fun _ _ _ h => h) (Or.inl ⟨by rfl, ?_⟩) (by assumption) ?_; rotate_left; (focus (intro w hSw; (try dsimp only at hSw); go_simp; (try with_reducible rfl))); (try simp only [Act.put, List.setIfInBounds_toArray]); (try dsimp only [List.set_cons_zero, List.set_cons_succ])
      refine wpAnyH_take (i := 7) (oi := ⟨some 36, _, _, _, _, _⟩) (v := ?_) rfl (by as_aux_lemma => kernel_rfl) (by as_aux_lemma => kernel_rfl) (by as_aux_lemma => kernel_rfl) (fun _ _ _ h => h) (Or.inl ⟨by rfl, ?_⟩) (by assumption) ?_; rotate_left; (focus (intro w hSw; (try dsimp only at hSw); go_simp; (try with_reducible rfl))); (try simp only [Act.put, List.setIfInBounds_toArray]); (try dsimp only [List.set_cons_zero, List.set_cons_succ])
      refine wpAnyH_take (i := 8) (oi := ⟨some 37, _, _, _, _, _⟩) (v := ?_) rfl (by as_aux_lemma => kernel_rfl) (by as_aux_lemma => kernel_rfl) (by as_aux_lemma => kernel_rfl) (fun _ _ _ h => h) (Or.inl ⟨by rfl, ?_⟩) (by assumption) ?_; rotate_left; (focus (intro w hSw; (try dsimp only at hSw); go_simp; (try with_reducible rfl))); (try simp only [Act.put, List.setIfInBounds_toArray]); (try dsimp only [List.set_cons_zero, List.set_cons_succ])
      have hvl : w9.heap.size ≤ w9.heap.size := V_9.out.le
      have y0 := NB_9.out.c 0 _ rfl
      have x0 := NB_9.out.f 0
      have y1 := NB_9.out.c 1 _ rfl
      have x1 := NB_9.out.f 1
      have y2 := NB_9.out.c 2 _ rfl
      have x2 := NB_9.out.f 2
      refine wpAnyH_ready (rs := [10]) (by as_aux_lemma => kernel_rfl) (by simp) ?_; refine AllReadyH.cons (o := ⟨none, _, _, _, _, _⟩) rfl (fun K hK => ?_) AllReadyH.nil; go_simp
      obtain ⟨w10, hw10⟩ : ∃ W : World, W = (((w9.setCell ⟨w5.heap.size, 0, none⟩ (.slice BV0 mV0 dV0)).setCell ⟨w5.heap.size, 1, none⟩ (.slice BV1 mV1 dV1)).setCell ⟨w5.heap.size, 2, none⟩ (.slice BV2 mV2 dV2)) := ⟨_, rfl⟩
      have ht : Tch (w5.heap.size) (w5.heap.size + 1) w9 w10 := by rw [hw10]; exact (((Tch.refl _ _ _).trans (Bx.tch _ 0 _)).trans (Bx.tch _ 1 _)).trans (Bx.tch _ 2 _)
      have NC : Hid (Bx (w5.heap.size) [.slice BV0 mV0 dV0, .slice BV1 mV1 dV1, .slice BV2 mV2 dV2] w10) := by rw [hw10]; exact (((NB_9.out.set 0 (by simp) (.slice BV0 mV0 dV0)).set 1 (by simp) (.slice BV1 mV1 dV1)).set 2 (by simp) (.slice BV2 mV2 dV2))
      have hbs10 := ht.size
      have S_10 := Lib.hid (S_9.out.turn ht (by omega))
      clear S_9
      have Bl_10 := Lib.hid (Bl_9.out.turn ht (by omega))
      clear Bl_9
      have BX0_10 := Lib.hid (BX0_9.out.turn ht (by omega))
      clear BX0_9
      have BX1_10 := Lib.hid (BX1_9.out.turn ht (by omega))
      clear BX1_9
      have Bk_10 := Lib.hid (Bk_9.out.trans (ht.below (by omega) (by omega)))
      clear Bk_9
      clear NB_9
      have V_10 := Lib.hid (V_9.out.turn ht (by omega))
      clear V_9
      clear ht y0 x0 y1 x1 y2 x2 z0_9 z1_9 z1_9b z1_9bb
      have z0_10 := BX0_10.out.it
      obtain ⟨z1_10, z1_10b, z1_10bb⟩ := BX1_10.out.it
      rw [← hw10]
      clear hw10
      refine hK.out _ _ ⟨z0_10, z1_10, z1_10b, z1_10bb⟩ (fun hHeld => ?_); clear hK K; (try simp only [Act.put, List.setIfInBounds_toArray]); (try dsimp only [List.set_cons_zero, List.set_cons_succ])
      refine wpAnyH_ready (rs := [11]) (by as_aux_lemma => kernel_rfl) (by simp) ?_; refine AllReadyH.cons (o := ⟨some 9, _, _, _, _, _⟩) rfl (fun K hK => ?_) AllReadyH.nil; go_simp
      refine hK.out _ _ ⟨z0_10, z1_10, z1_10b, z1_10bb⟩ (fun hHeld => ?_); clear hK K; (try simp only [Act.put, List.setIfInBounds_toArray]); (try dsimp only [List.set_cons_zero, List.set_cons_succ])
      refine wpAnyH_done (by kernel_rfl) ?_ _
      go_wp2_with fail
      go_meet
      exact ⟨w5.heap.size, w8.heap.size, w9.heap.size, _, _, _, _, _, _, _, _, _, rfl, rfl, V_10.out, Bx.as3 NC.out, by omega, by omega, by omega, Bk_10.out⟩
  obtain ⟨Vb, Vlo, Vhi, BV0, mV0, dV0, BV1, mV1, dV1, BV2, mV2, dV2, hc0, hc1, HV, HVB, hv1, hv2, hv3, HB0⟩ := hcut
  subst hc0 hc1
  obtain ⟨w5, hw5⟩ : ∃ W : World, W = wc := ⟨_, rfl⟩
  rw [← hw5] at HV HVB HB0 ⊢
  clear hw5
  have hb := HB0.out
  have hs_5 : w4.heap.size ≤ w5.heap.size := by have := hb.size; (try simp only [World.size_alloc] at this); omega
  have S_5 := Lib.hid (S_4.out.step hb)
  clear S_4
  have Bl_5 := Lib.hid (Bl_4.out.step hb)
  clear Bl_4
  have BX0_5 := Lib.hid (BX0_4.out.step hb)
  clear BX0_4
  have BX1_5 := Lib.hid (BX1_4.out.step hb)
  clear BX1_4
  have V_5 := HV
  have VB_5 := HVB
  have hv4 := HV.out.le
  have hv5 := HVB.out.le
  clear HV HVB HB0 hb
  have q := BX0_5.out.it
  go_wp2_with fail
  refine (laws_toGraph A0 n0 c0 gs0 _ w.heap.size Bl_5.out.le HN0.out S_5.out.it.1 HG0.out).mono ?_
  rintro e w6 ⟨B6, m6, d6, rfl, hn, hown, hb⟩
  try simp only [World.size_alloc] at hown
  have hs_6 : w5.heap.size ≤ w6.heap.size := by have := hb.size; (try simp only [World.size_alloc] at this); omega
  have M6 := Lib.hid hn
  have NC6 := Lib.hid hown.ncap
  have S_6 := Lib.hid ((S_5.out.step hb).alloc (.cells #[.slice B6 m6 d6] 36))
  clear S_5
  have Bl_6 := Lib.hid ((Bl_5.out.step hb).alloc (.cells #[.slice B6 m6 d6] 36))
  clear Bl_5
  have BX0_6 := Lib.hid ((BX0_5.out.step hb).alloc (.cells #[.slice B6 m6 d6] 36))
  clear BX0_5
  have BX1_6 := Lib.hid ((BX1_5.out.step hb).alloc (.cells #[.slice B6 m6 d6] 36))
  clear BX1_5
  have V_6 := Lib.hid ((V_5.out.step hb).alloc (.cells #[.slice B6 m6 d6] 36))
  clear V_5
  have VB_6 := Lib.hid ((VB_5.out.step hb).alloc (.cells #[.slice B6 m6 d6] 36))
  clear VB_5
  have X0_6 := Lib.hid ((graph_start hown).alloc (.cells #[.slice B6 m6 d6] 36))
  have XB0_6 := Lib.hid (box_new w6 (.slice B6 m6 d6) 36)
  clear q hn hown hb
  obtain ⟨q, qb, qbb⟩ := BX1_6.out.it
  go_wp2_with fail
  refine (laws_toLazy A1 E1 K1 n1 c1 en1 ec1 kn1 kc1 st1 _ w.heap.size Bl_6.out.le HN1.out HE1.out HK1.out S_6.out.it.2 HEG1.out).mono ?_
  rintro e w7 ⟨B7, m7, d7, D7, em7, ed7, L7, lm7, ld7, rfl, hown, hb⟩
  have hn := hown.1
  have hen := hown.2.1
  have hkn := hown.2.2.1
  try simp only [World.size_alloc] at hown
  have hs_7 : w6.heap.size + 1 ≤ w7.heap.size := by have := hb.size; (try simp only [World.size_alloc] at this); omega
  have M7 := Lib.hid hn
  have EM7 := Lib.hid hen
  have KM7 := Lib.hid hkn
  clear hen hkn
  have S_7 := Lib.hid ((S_6.out.step hb).alloc (.cells #[.slice B7 m7 d7, .slice D7 em7 ed7, .slice L7 lm7 ld7] 31))
  clear S_6
  have Bl_7 := Lib.hid ((Bl_6.out.step hb).alloc (.cells #[.slice B7 m7 d7, .slice D7 em7 ed7, .slice L7 lm7 ld7] 31))
  clear Bl_6
  have BX0_7 := Lib.hid ((BX0_6.out.step hb).alloc (.cells #[.slice B7 m7 d7, .slice D7 em7 ed7, .slice L7 lm7 ld7] 31))
  clear BX0_6
  have BX1_7 := Lib.hid ((BX1_6.out.step hb).alloc (.cells #[.slice B7 m7 d7, .slice D7 em7 ed7, .slice L7 lm7 ld7] 31))
  clear BX1_6
  have V_7 := Lib.hid ((V_6.out.step hb).alloc (.cells #[.slice B7 m7 d7, .slice D7 em7 ed7, .slice L7 lm7 ld7] 31))
  clear V_6
  have VB_7 := Lib.hid ((VB_6.out.step hb).alloc (.cells #[.slice B7 m7 d7, .slice D7 em7 ed7, .slice L7 lm7 ld7] 31))
  clear VB_6
  have X0_7 := Lib.hid ((X0_6.out.step hb).alloc (.cells #[.slice B7 m7 d7, .slice D7 em7 ed7, .slice L7 lm7 ld7] 31))
  clear X0_6
  have XB0_7 := Lib.hid ((XB0_6.out.step hb).alloc (.cells #[.slice B7 m7 d7, .slice D7 em7 ed7, .slice L7 lm7 ld7] 31))
  clear XB0_6
  have X1_7 := Lib.hid ((lazy_start hown).alloc (.cells #[.slice B7 m7 d7, .slice D7 em7 ed7, .slice L7 lm7 ld7] 31))
  have XB1_7 := Lib.hid (box3_new w7 (.slice B7 m7 d7) (.slice D7 em7 ed7) (.slice L7 lm7 ld7) 31)
  clear q qb qbb hn hown hb
  have q0 := XB0_7.out.it
  obtain ⟨q1, q1b, q1bb⟩ := XB1_7.out.it
  go_wp2_with fail
  refine (HIM.out B6 m6 d6 B7 m7 d7 D7 em7 ed7 L7 lm7 ld7 _ M6.out NC6.out X0_7.out.graph M7.out EM7.out KM7.out X1_7.out.lazy4).mono ?_
  rintro e w8 ⟨B8, m8, d8, D8, em8, ed8, L8, lm8, ld8, rfl, hown, hb⟩
  try simp only [World.size_alloc] at hown
  have hs_8 : w7.heap.size + 1 ≤ w8.heap.size := by have := hb.size; (try simp only [World.size_alloc] at this); omega
  have S_8 := Lib.hid ((S_7.out.step hb).alloc (.cells #[.slice B8 m8 d8, .slice D8 em8 ed8, .slice L8 lm8 ld8] 31))
  clear S_7
  have Bl_8 := Lib.hid ((Bl_7.out.step hb).alloc (.cells #[.slice B8 m8 d8, .slice D8 em8 ed8, .slice L8 lm8 ld8] 31))
  clear Bl_7
  have BX0_8 := Lib.hid ((BX0_7.out.step hb).alloc (.cells #[.slice B8 m8 d8, .slice D8 em8 ed8, .slice L8 lm8 ld8] 31))
  clear BX0_7
  have BX1_8 := Lib.hid ((BX1_7.out.step hb).alloc (.cells #[.slice B8 m8 d8, .slice D8 em8 ed8, .slice L8 lm8 ld8] 31))
  clear BX1_7
  have V_8 := Lib.hid ((V_7.out.step hb).alloc (.cells #[.slice B8 m8 d8, .slice D8 em8 ed8, .slice L8 lm8 ld8] 31))
  clear V_7
  have VB_8 := Lib.hid ((VB_7.out.step hb).alloc (.cells #[.slice B8 m8 d8, .slice D8 em8 ed8, .slice L8 lm8 ld8] 31))
  clear VB_7
  have X0_8 := Lib.hid ((X0_7.out.step hb).alloc (.cells #[.slice B8 m8 d8, .slice D8 em8 ed8, .slice L8 lm8 ld8] 31))
  clear X0_7
  have XB0_8 := Lib.hid ((XB0_7.out.step hb).alloc (.cells #[.slice B8 m8 d8, .slice D8 em8 ed8, .slice L8 lm8 ld8] 31))
  clear XB0_7
  have X1_8 := Lib.hid ((X1_7.out.step hb).alloc (.cells #[.slice B8 m8 d8, .slice D8 em8 ed8, .slice L8 lm8 ld8] 31))
  clear X1_7
  have XB1_8 := Lib.hid ((XB1_7.out.step hb).alloc (.cells #[.slice B8 m8 d8, .slice D8 em8 ed8, .slice L8 lm8 ld8] 31))
  clear XB1_7
  have G_8 := Lib.hid ((lazy_start hown).alloc (.cells #[.slice B8 m8 d8, .slice D8 em8 ed8, .slice L8 lm8 ld8] 31))
  clear hown
  have GB_8 := Lib.hid (box3_new w8 (.slice B8 m8 d8) (.slice D8 em8 ed8) (.slice L8 lm8 ld8) 31)
  clear hb
  clear q0 q1 q1b q1bb
  obtain ⟨bg, bgb, bgbb⟩ := GB_8.out.it
  obtain ⟨bv, bvb, bvbb⟩ := VB_8.out.it
  go_wp2_with fail
  refine (laws_eqLazy _ _ _ _ _ _ _ _ _ _ _ _ _ _ _ _ _ _ F0 F0 _ _ (Nat.le_refl _) G_8.out.it.1 G_8.out.it.2.1 G_8.out.it.2.2.1 V_8.out.it.1 V_8.out.it.2.1 V_8.out.it.2.2.1 G_8.out.lazy V_8.out.lazy HEB0.out HEB0.out).mono ?_
  rintro e w9 ⟨rfl, hb⟩
  have S_9 := Lib.hid (S_8.out.step hb)
  clear S_8
  have Bl_9 := Lib.hid (Bl_8.out.step hb)
  clear Bl_8
  have BX0_9 := Lib.hid (BX0_8.out.step hb)
  clear BX0_8
  have BX1_9 := Lib.hid (BX1_8.out.step hb)
  clear BX1_8
  have V_9 := Lib.hid (V_8.out.step hb)
  clear V_8
  have VB_9 := Lib.hid (VB_8.out.step hb)
  clear VB_8
  have X0_9 := Lib.hid (X0_8.out.step hb)
  clear X0_8
  have XB0_9 := Lib.hid (XB0_8.out.step hb)
  clear XB0_8
  have X1_9 := Lib.hid (X1_8.out.step hb)
  clear X1_8
  have XB1_9 := Lib.hid (XB1_8.out.step hb)
  clear XB1_8
  have G_9 := Lib.hid (G_8.out.step hb)
  clear G_8
  have GB_9 := Lib.hid (GB_8.out.step hb)
  clear GB_8
  clear hb bg bgb bgbb bv bvb bvbb
  have q := XB0_9.out.it
  have r := BX0_9.out.it
  have hle := Bl_9.out.le
  go_wp2
  go_region_held3 (fun w' => w'.cell? ⟨w6.heap.size, 0, none⟩ = some (.slice B6 m6 d6) ∧ w'.cell? ⟨w.heap.size, 0, none⟩ = some (.slice A0 n0 c0)) (first | exact ⟨q, r⟩ | exact ⟨q2, r2⟩ | exact ⟨q3, r3⟩)
    (first
    | (go_at_call 11; refine (laws_toGraph A0 n0 c0 gs0 _ w.heap.size ?_ HN0.out ?_ HG0.out).mono ?_; (exact hle); exact S_9.out.it.1; rintro e w10 ⟨B10, m10, d10, rfl, hn, hown, hb'⟩; have hb : Below w9.heap.size w9 w10 := (by first | exact below_of_drew hb' | exact hb'); have M10 := Lib.hid hn; have C10 := Lib.hid (hown.nodes); have S_10 := Lib.hid (S_9.out.step hb); have Bl_10 := Lib.hid (Bl_9.out.step hb); have BX0_10 := Lib.hid (BX0_9.out.step hb); have BX1_10 := Lib.hid (BX1_9.out.step hb); have V_10 := Lib.hid (V_9.out.step hb); have VB_10 := Lib.hid (VB_9.out.step hb); have X0_10 := Lib.hid (X0_9.out.step hb); have XB0_10 := Lib.hid (XB0_9.out.step hb); have X1_10 := Lib.hid (X1_9.out.step hb); have XB1_10 := Lib.hid (XB1_9.out.step hb); have G_10 := Lib.hid (G_9.out.step hb); have GB_10 := Lib.hid (GB_9.out.step hb); have q2 := XB0_10.out.it; have r2 := BX0_10.out.it; clear hn hown hb' hb)
    | (go_at_call 15; refine (laws_eqGraph B6 B10 m6 m10 d6 d10 gs0 gs0 _ w10.heap.size (Nat.le_refl _) M6.out M10.out X0_10.out.graph C10.out HG0.out HG0.out).mono ?_; rintro e w11 ⟨rfl, hb⟩; have S_11 := Lib.hid (S_10.out.step hb); have Bl_11 := Lib.hid (Bl_10.out.step hb); have BX0_11 := Lib.hid (BX0_10.out.step hb); have BX1_11 := Lib.hid (BX1_10.out.step hb); have V_11 := Lib.hid (V_10.out.step hb); have VB_11 := Lib.hid (VB_10.out.step hb); have X0_11 := Lib.hid (X0_10.out.step hb); have XB0_11 := Lib.hid (XB0_10.out.step hb); have X1_11 := Lib.hid (X1_10.out.step hb); have XB1_11 := Lib.hid (XB1_10.out.step hb); have G_11 := Lib.hid (G_10.out.step hb); have GB_11 := Lib.hid (GB_10.out.step hb); have q3 := XB0_11.out.it; have r3 := BX0_11.out.it))
  clear hb q r q3 r3 q2 r2 hle M10 C10 S_10 Bl_10 BX0_10 BX1_10 V_10 VB_10 X0_10 XB0_10 X1_10 XB1_10 G_10 GB_10 S_9 Bl_9 BX0_9 BX1_9 V_9 VB_9 X0_9 XB0_9 X1_9 XB1_9 G_9 GB_9
  obtain ⟨q, qb, qbb⟩ := XB1_11.out.it
  obtain ⟨r, rb, rbb⟩ := BX1_11.out.it
  have hle := Bl_11.out.le
  go_wp2
  go_region_held3 (fun w' => w'.cell? ⟨w7.heap.size, 0, none⟩ = some (.slice B7 m7 d7) ∧ w'.cell? ⟨w7.heap.size, 1, none⟩ = some (.slice D7 em7 ed7) ∧ w'.cell? ⟨w7.heap.size, 2, none⟩ = some (.slice L7 lm7 ld7) ∧ w'.cell? ⟨w.heap.size + 1, 0, none⟩ = some (.slice A1 n1 c1) ∧ w'.cell? ⟨w.heap.size + 1, 1, none⟩ = some (.slice E1 en1 ec1) ∧ w'.cell? ⟨w.heap.size + 1, 2, none⟩ = some (.slice K1 kn1 kc1)) (first | exact ⟨q, qb, qbb, r, rb, rbb⟩ | exact ⟨q2, q2b, q2bb, r2, r2b, r2bb⟩ | exact ⟨q3, q3b, q3bb, r3, r3b, r3bb⟩)
    (first
    | (go_at_call 12; refine (laws_toLazy A1 E1 K1 n1 c1 en1 ec1 kn1 kc1 st1 _ w.heap.size ?_ HN1.out HE1.out HK1.out ?_ HEG1.out).mono ?_; (exact hle); exact S_11.out.it.2; rintro e w12 ⟨B12, m12, d12, D12, em12, ed12, L12, lm12, ld12, rfl, hown, hb'⟩; have hb : Below w11.heap.size w11 w12 := (by first | exact below_of_drew hb' | exact hb'); have hn := hown.2.2.1; have M12 := Lib.hid hown.1; have EM12 := Lib.hid hown.2.1; have KM12 := Lib.hid hown.2.2.1; have C12 := Lib.hid hown.reads; have S_12 := Lib.hid (S_11.out.step hb); have Bl_12 := Lib.hid (Bl_11.out.step hb); have BX0_12 := Lib.hid (BX0_11.out.step hb); have BX1_12 := Lib.hid (BX1_11.out.step hb); have V_12 := Lib.hid (V_11.out.step hb); have VB_12 := Lib.hid (VB_11.out.step hb); have X0_12 := Lib.hid (X0_11.out.step hb); have XB0_12 := Lib.hid (XB0_11.out.step hb); have X1_12 := Lib.hid (X1_11.out.step hb); have XB1_12 := Lib.hid (XB1_11.out.step hb); have G_12 := Lib.hid (G_11.out.step hb); have GB_12 := Lib.hid (GB_11.out.step hb); obtain ⟨q2, q2b, q2bb⟩ := XB1_12.out.it; obtain ⟨r2, r2b, r2bb⟩ := BX1_12.out.it; clear hn hown hb' hb)
    | (go_at_call 14; refine (laws_eqLazy B7 D7 L7 B12 D12 L12 m7 d7 em7 ed7 lm7 ld7 m12 d12 em12 ed12 lm12 ld12 st1 st1 _ w12.heap.size (Nat.le_refl _) M7.out EM7.out KM7.out M12.out EM12.out KM12.out X1_12.out.lazy C12.out HEG1.out HEG1.out).mono ?_; rintro e w13 ⟨rfl, hb⟩; have S_13 := Lib.hid (S_12.out.step hb); have Bl_13 := Lib.hid (Bl_12.out.step hb); have BX0_13 := Lib.hid (BX0_12.out.step hb); have BX1_13 := Lib.hid (BX1_12.out.step hb); have V_13 := Lib.hid (V_12.out.step hb); have VB_13 := Lib.hid (VB_12.out.step hb); have X0_13 := Lib.hid (X0_12.out.step hb); have XB0_13 := Lib.hid (XB0_12.out.step hb); have X1_13 := Lib.hid (X1_12.out.step hb); have XB1_13 := Lib.hid (XB1_12.out.step hb); have G_13 := Lib.hid (G_12.out.step hb); have GB_13 := Lib.hid (GB_12.out.step hb); obtain ⟨q3, q3b, q3bb⟩ := XB1_13.out.it; obtain ⟨r3, r3b, r3bb⟩ := BX1_13.out.it))
  clear hb q qb qbb r rb rbb q3 q3b q3bb r3 r3b r3bb q2 q2b q2bb r2 r2b r2bb hle M12 C12 EM12 KM12 S_12 Bl_12 BX0_12 BX1_12 V_12 VB_12 X0_12 XB0_12 X1_12 XB1_12 G_12 GB_12 S_11 Bl_11 BX0_11 BX1_11 V_11 VB_11 X0_11 XB0_11 X1_11 XB1_11 G_11 GB_11
  have q := XB0_13.out.it
  go_wp2_with fail
  refine (markw_graph _ _ _ _ _ gs0 1 _ X0_13.out HG0.out (by omega) (by omega)).mono ?_
  rintro e w14 ⟨k0, rfl, hk0a, hk0b, ht⟩
  have S_14 := Lib.hid (S_13.out.turn ht (by omega))
  clear S_13
  have Bl_14 := Lib.hid (Bl_13.out.turn ht (by omega))
  clear Bl_13
  have BX0_14 := Lib.hid (BX0_13.out.turn ht (by omega))
  clear BX0_13
  have BX1_14 := Lib.hid (BX1_13.out.turn ht (by omega))
  clear BX1_13
  have V_14 := Lib.hid (V_13.out.turn ht (by omega))
  clear V_13
  have VB_14 := Lib.hid (VB_13.out.turn ht (by omega))
  clear VB_13
  clear X0_13
  have XB0_14 := Lib.hid (XB0_13.out.turn ht (by omega))
  clear XB0_13
  have X1_14 := Lib.hid (X1_13.out.turn ht (by omega))
  clear X1_13
  have XB1_14 := Lib.hid (XB1_13.out.turn ht (by omega))
  clear XB1_13
  have G_14 := Lib.hid (G_13.out.turn ht (by omega))
  clear G_13
  have GB_14 := Lib.hid (GB_13.out.turn ht (by omega))
  clear GB_13
  clear ht q
  obtain ⟨q, qb, qbb⟩ := XB1_14.out.it
  go_wp2_with fail
  refine (markw_lazy _ _ _ _ _ _ _ _ _ _ _ st1 k0 _ X1_14.out HEG1.out (by omega) (by omega)).mono ?_
  rintro e w15 ⟨k1, rfl, hk1a, hk1b, ht⟩
  have S_15 := Lib.hid (S_14.out.turn ht (by omega))
  clear S_14
  have Bl_15 := Lib.hid (Bl_14.out.turn ht (by omega))
  clear Bl_14
  have BX0_15 := Lib.hid (BX0_14.out.turn ht (by omega))
  clear BX0_14
  have BX1_15 := Lib.hid (BX1_14.out.turn ht (by omega))
  clear BX1_14
  have V_15 := Lib.hid (V_14.out.turn ht (by omega))
  clear V_14
  have VB_15 := Lib.hid (VB_14.out.turn ht (by omega))
  clear VB_14
  have XB0_15 := Lib.hid (XB0_14.out.turn ht (by omega))
  clear XB0_14
  clear X1_14
  have XB1_15 := Lib.hid (XB1_14.out.turn ht (by omega))
  clear XB1_14
  have G_15 := Lib.hid (G_14.out.turn ht (by omega))
  clear G_14
  have GB_15 := Lib.hid (GB_14.out.turn ht (by omega))
  clear GB_14
  clear ht q qb qbb
  obtain ⟨bg, bgb, bgbb⟩ := GB_15.out.it
  obtain ⟨bv, bvb, bvbb⟩ := VB_15.out.it
  go_wp2_with fail
  refine (laws_eqLazy _ _ _ _ _ _ _ _ _ _ _ _ _ _ _ _ _ _ F0 F0 _ _ (Nat.le_refl _) G_15.out.it.1 G_15.out.it.2.1 G_15.out.it.2.2.1 V_15.out.it.1 V_15.out.it.2.1 V_15.out.it.2.2.1 G_15.out.lazy V_15.out.lazy HEB0.out HEB0.out).mono ?_
  rintro e w16 ⟨rfl, hb⟩
  have S_16 := Lib.hid (S_15.out.step hb)
  clear S_15
  have Bl_16 := Lib.hid (Bl_15.out.step hb)
  clear Bl_15
  have BX0_16 := Lib.hid (BX0_15.out.step hb)
  clear BX0_15
  have BX1_16 := Lib.hid (BX1_15.out.step hb)
  clear BX1_15
  have V_16 := Lib.hid (V_15.out.step hb)
  clear V_15
  have VB_16 := Lib.hid (VB_15.out.step hb)
  clear VB_15
  have XB0_16 := Lib.hid (XB0_15.out.step hb)
  clear XB0_15
  have XB1_16 := Lib.hid (XB1_15.out.step hb)
  clear XB1_15
  have G_16 := Lib.hid (G_15.out.step hb)
  clear G_15
  have GB_16 := Lib.hid (GB_15.out.step hb)
  clear GB_15
  clear hb bg bgb bgbb bv bvb bvbb
  obtain ⟨bg, bgb, bgbb⟩ := GB_16.out.it
  go_wp2_with fail
  refine (mark_lazy _ _ _ _ _ _ _ _ _ _ _ F0 1 _ G_16.out HEB0.out (by omega) (by omega)).mono ?_
  rintro e w17 ⟨he, hg, ht⟩
  rw [← HQ0.out] at he
  subst he
  have S_17 := Lib.hid (S_16.out.turn ht (by omega))
  clear S_16
  have Bl_17 := Lib.hid (Bl_16.out.turn ht (by omega))
  clear Bl_16
  have BX0_17 := Lib.hid (BX0_16.out.turn ht (by omega))
  clear BX0_16
  have BX1_17 := Lib.hid (BX1_16.out.turn ht (by omega))
  clear BX1_16
  have V_17 := Lib.hid (V_16.out.turn ht (by omega))
  clear V_16
  have VB_17 := Lib.hid (VB_16.out.turn ht (by omega))
  clear VB_16
  have XB0_17 := Lib.hid (XB0_16.out.turn ht (by omega))
  clear XB0_16
  have XB1_17 := Lib.hid (XB1_16.out.turn ht (by omega))
  clear XB1_16
  have G_17 := Lib.hid hg
  clear G_16
  have GB_17 := Lib.hid (GB_16.out.turn ht (by omega))
  clear GB_16
  clear ht hg bg bgb bgbb
  obtain ⟨bg, bgb, bgbb⟩ := GB_17.out.it
  go_wp2_with fail
  refine (held_lazy _ _ _ _ _ _ _ _ _ _ _ F0 1 _ G_17.out HEB0.out (by omega) (by omega)).mono ?_
  rintro e w18 ⟨he, hb⟩
  rw [← HQ0.out] at he
  subst he
  have S_18 := Lib.hid (S_17.out.step hb)
  clear S_17
  have Bl_18 := Lib.hid (Bl_17.out.step hb)
  clear Bl_17
  have BX0_18 := Lib.hid (BX0_17.out.step hb)
  clear BX0_17
  have BX1_18 := Lib.hid (BX1_17.out.step hb)
  clear BX1_17
  have V_18 := Lib.hid (V_17.out.step hb)
  clear V_17
  have VB_18 := Lib.hid (VB_17.out.step hb)
  clear VB_17
  have XB0_18 := Lib.hid (XB0_17.out.step hb)
  clear XB0_17
  have XB1_18 := Lib.hid (XB1_17.out.step hb)
  clear XB1_17
  have G_18 := Lib.hid (G_17.out.step hb)
  clear G_17
  have GB_18 := Lib.hid (GB_17.out.step hb)
  clear GB_17
  clear hb bg bgb bgbb
  have hnn : ((1 : Int) + (t0 : Int) != 1 + (t0 : Int)) = false := by simp
  go_upto_region 31 with fail
  go_cut [17, 18] from 98 to 106 (fun tb t18 wx => ∃ (b lo hi : Nat) (BZ0 : Option Addr) (mZ0 dZ0 : Nat) (BZ1 : Option Addr) (mZ1 dZ1 : Nat) (BZ2 : Option Addr) (mZ2 dZ2 : Nat), tb = .pointer (some ⟨b, 0, none⟩) ∧ t18 = .bool F1 ∧ Hid (As lo hi (OwL lo hi BZ0 mZ0 dZ0 BZ1 mZ1 dZ1 BZ2 mZ2 dZ2 F0) wx) ∧ Hid (As b (b + 1) (fun w' => w'.cell? ⟨b, 0, none⟩ = some (.slice BZ0 mZ0 dZ0) ∧ w'.cell? ⟨b, 1, none⟩ = some (.slice BZ1 mZ1 dZ1) ∧ w'.cell? ⟨b, 2, none⟩ = some (.slice BZ2 mZ2 dZ2)) wx) ∧ w18.heap.size ≤ lo ∧ w18.heap.size ≤ b ∧ (b < lo ∨ hi ≤ b) ∧ Hid (Below w18.heap.size w18 wx))
  have hla0 := S_18.out.le
  have hla1 := Bl_18.out.le
  have hla2 := BX0_18.out.le
  have hla3 := BX1_18.out.le
  have hla4 := V_18.out.le
  have hla5 := VB_18.out.le
  have hla6 := XB0_18.out.le
  have hla7 := XB1_18.out.le
  have hla8 := G_18.out.le
  have hla9 := GB_18.out.le
  case first =>
    clear V_18 VB_18 XB0_18 XB1_18 G_18 GB_18
    (try clear hs_3)
    (try clear hs_4)
    (try clear hs_5)
    (try clear hs_6)
    (try clear hs_7)
    (try clear hs_8)
    (try clear hv1)
    (try clear hv2)
    (try clear hv3)
    (try clear hv4)
    (try clear hv5)
    (try clear hv6)
    (try clear hv7)
    (try clear hv8)
    (try clear hla4)
    (try clear hla5)
    (try clear hla6)
    (try clear hla7)
    (try clear hla8)
    (try clear hla9)
    (try clear hla10)
    (try clear hla11)
    (try clear hla12)
    (try clear hla13)
    have z0_18 := BX0_18.out.it
    obtain ⟨z1_18, z1_18b, z1_18bb⟩ := BX1_18.out.it
    refine wp_region_held_drew (S := fun w' => w'.cell? ⟨w.heap.size, 0, none⟩ = some (.slice A0 n0 c0) ∧ w'.cell? ⟨w.heap.size + 1, 0, none⟩ = some (.slice A1 n1 c1) ∧ w'.cell? ⟨w.heap.size + 1, 1, none⟩ = some (.slice E1 en1 ec1) ∧ w'.cell? ⟨w.heap.size + 1, 2, none⟩ = some (.slice K1 kn1 kc1)) (by kernel_rfl) ⟨z0_18, z1_18, z1_18b, z1_18bb⟩ (fun hHeld => ?_)
    clear hHeld z0_18 z1_18 z1_18b z1_18bb
    obtain ⟨w19, hw19⟩ : ∃ W : World, W = w18.drew := ⟨_, rfl⟩
    have hb : Below w18.heap.size w18 w19 := by rw [hw19]; exact (Below.refl _ _).drew
    rw [← hw19]
    clear hw19
    have hbs19 : w18.heap.size ≤ w19.heap.size := hb.size
    have S_19 := Lib.hid (S_18.out.step hb)
    clear S_18
    have Bl_19 := Lib.hid (Bl_18.out.step hb)
    clear Bl_18
    have BX0_19 := Lib.hid (BX0_18.out.step hb)
    clear BX0_18
    have BX1_19 := Lib.hid (BX1_18.out.step hb)
    clear BX1_18
    have Bk_19 := Lib.hid hb
    clear hb
    have z0_19 := BX0_19.out.it
    obtain ⟨z1_19, z1_19b, z1_19bb⟩ := BX1_19.out.it
    have hHeld : w19.cell? ⟨w.heap.size, 0, none⟩ = some (.slice A0 n0 c0) ∧ w19.cell? ⟨w.heap.size + 1, 0, none⟩ = some (.slice A1 n1 c1) ∧ w19.cell? ⟨w.heap.size + 1, 1, none⟩ = some (.slice E1 en1 ec1) ∧ w19.cell? ⟨w.heap.size + 1, 2, none⟩ = some (.slice K1 kn1 kc1) := ⟨z0_19, z1_19, z1_19b, z1_19bb⟩
    refine wpAnyH_take (i := 0) (oi := ⟨some 99, _, _, _, _, _⟩) (v := ?_) rfl (by as_aux_lemma => kernel_rfl) (by as_aux_lemma => kernel_rfl) (by as_aux_lemma => kernel_rfl) (fun _ _ _ h => h) (Or.inl ⟨by rfl, ?_⟩) (by assumption) ?_; rotate_left; (focus (intro w hSw; (try dsimp only at hSw); go_simp; (try with_reducible rfl))); (try simp only [Act.put, List.setIfInBounds_toArray]); (try dsimp only [List.set_cons_zero, List.set_cons_succ])
    refine wpAnyH_take (i := 2) (oi := ⟨some 101, _, _, _, _, _⟩) (v := ?_) rfl (by as_aux_lemma => kernel_rfl) (by as_aux_lemma => kernel_rfl) (by as_aux_lemma => kernel_rfl) (fun _ _ _ h => h) (Or.inl ⟨by rfl, ?_⟩) (by assumption) ?_; rotate_left; (focus (intro w hSw; (try dsimp only at hSw); go_simp; (try with_reducible rfl))); (try simp only [Act.put, List.setIfInBounds_toArray]); (try dsimp only [List.set_cons_zero, List.set_cons_succ])
    refine wpAnyH_take (i := 4) (oi := ⟨some 103, _, _, _, _, _⟩) (v := ?_) rfl (by as_aux_lemma => kernel_rfl) (by as_aux_lemma => kernel_rfl) (by as_aux_lemma => kernel_rfl) (fun _ _ _ h => h) (Or.inl ⟨by rfl, ?_⟩) (by assumption) ?_; rotate_left; (focus (intro w hSw; (try dsimp only at hSw); go_simp; (try with_reducible rfl))); (try simp only [Act.put, List.setIfInBounds_toArray]); (try dsimp only [List.set_cons_zero, List.set_cons_succ])
    refine wpAnyH_ready (rs := [1, 9]) (by kernel_rfl) (by simp) ?_; refine AllReadyH.cons (o := ⟨some 100, _, _, _, _, _⟩) rfl (fun K hK => ?_) (AllReadyH.cons (o := ⟨some 17, _, _, _, _, _⟩) rfl (fun K hK => ?_) AllReadyH.nil)
    · go_simp
      go_at_call 11
      refine (laws_toGraph A0 n0 c0 gs0 _ w.heap.size Bl_19.out.le HN0.out S_19.out.it.1 HG0.out).mono ?_
      rintro e w20 ⟨B20, m20, d20, rfl, hn, hown, hb⟩
      have M20 := Lib.hid hn
      have NC20 := Lib.hid hown.ncap
      have hbs20 : w19.heap.size ≤ w20.heap.size := hb.size
      have S_20 := Lib.hid (S_19.out.step hb)
      clear S_19
      have Bl_20 := Lib.hid (Bl_19.out.step hb)
      clear Bl_19
      have BX0_20 := Lib.hid (BX0_19.out.step hb)
      clear BX0_19
      have BX1_20 := Lib.hid (BX1_19.out.step hb)
      clear BX1_19
      have Bk_20 := Lib.hid (Bk_19.out.trans (hb.mono (by omega)))
      clear Bk_19
      have X0_20 := Lib.hid (graph_start hown)
      clear hown hb hn
      clear z0_19 z1_19 z1_19b z1_19bb
      have z0_20 := BX0_20.out.it
      obtain ⟨z1_20, z1_20b, z1_20bb⟩ := BX1_20.out.it
      refine hK.out _ _ ⟨z0_20, z1_20, z1_20b, z1_20bb⟩ (fun hHeld => ?_); clear hK K; (try simp only [Act.put, List.setIfInBounds_toArray]); (try dsimp only [List.set_cons_zero, List.set_cons_succ])
      refine wpAnyH_ready (rs := [3, 9]) (by kernel_rfl) (by simp) ?_; refine AllReadyH.cons (o := ⟨some 102, _, _, _, _, _⟩) rfl (fun K hK => ?_) (AllReadyH.cons (o := ⟨some 17, _, _, _, _, _⟩) rfl (fun K hK => ?_) AllReadyH.nil)
      · go_simp
        go_at_call 12
        refine (laws_toLazy A1 E1 K1 n1 c1 en1 ec1 kn1 kc1 st1 _ w.heap.size Bl_20.out.le HN1.out HE1.out HK1.out S_20.out.it.2 HEG1.out).mono ?_
        rintro e w21 ⟨B21, m21, d21, D21, em21, ed21, L21, lm21, ld21, rfl, hown, hb⟩
        have hn := hown.1
        have hen := hown.2.1
        have hkn := hown.2.2.1
        have M21 := Lib.hid hn
        have EM21 := Lib.hid hen
        have KM21 := Lib.hid hkn
        have hbs21 : w20.heap.size ≤ w21.heap.size := hb.size
        have S_21 := Lib.hid (S_20.out.step hb)
        clear S_20
        have Bl_21 := Lib.hid (Bl_20.out.step hb)
        clear Bl_20
        have BX0_21 := Lib.hid (BX0_20.out.step hb)
        clear BX0_20
        have BX1_21 := Lib.hid (BX1_20.out.step hb)
        clear BX1_20
        have Bk_21 := Lib.hid (Bk_20.out.trans (hb.mono (by omega)))
        clear Bk_20
        have X0_21 := Lib.hid (X0_20.out.step hb)
        clear X0_20
        have X1_21 := Lib.hid (lazy_start hown)
        clear hown hb hn hen hkn
        clear z0_20 z1_20 z1_20b z1_20bb
        have z0_21 := BX0_21.out.it
        obtain ⟨z1_21, z1_21b, z1_21bb⟩ := BX1_21.out.it
        refine hK.out _ _ ⟨z0_21, z1_21, z1_21b, z1_21bb⟩ (fun hHeld => ?_); clear hK K; (try simp only [Act.put, List.setIfInBounds_toArray]); (try dsimp only [List.set_cons_zero, List.set_cons_succ])
        refine wpAnyH_ready (rs := [5, 9]) (by kernel_rfl) (by simp) ?_; refine AllReadyH.cons (o := ⟨some 104, _, _, _, _, _⟩) rfl (fun K hK => ?_) (AllReadyH.cons (o := ⟨some 17, _, _, _, _, _⟩) rfl (fun K hK => ?_) AllReadyH.nil)
        · go_simp
          go_at_call 20
          refine (HIM.out B20 m20 d20 B21 m21 d21 D21 em21 ed21 L21 lm21 ld21 _ M20.out NC20.out X0_21.out.graph M21.out EM21.out KM21.out X1_21.out.lazy4).mono ?_
          rintro e w22 ⟨BZ0, mZ0, dZ0, BZ1, mZ1, dZ1, BZ2, mZ2, dZ2, rfl, hown, hb⟩
          have hbs22 : w21.heap.size ≤ w22.heap.size := hb.size
          clear X0_21
          clear X1_21
          have S_22 := Lib.hid (S_21.out.step hb)
          clear S_21
          have Bl_22 := Lib.hid (Bl_21.out.step hb)
          clear Bl_21
          have BX0_22 := Lib.hid (BX0_21.out.step hb)
          clear BX0_21
          have BX1_22 := Lib.hid (BX1_21.out.step hb)
          clear BX1_21
          have Bk_22 := Lib.hid (Bk_21.out.trans (hb.mono (by omega)))
          clear Bk_21
          have Z_22 := Lib.hid (lazy_start hown)
          clear hown hb
          clear z0_21 z1_21 z1_21b z1_21bb
          have z0_22 := BX0_22.out.it
          obtain ⟨z1_22, z1_22b, z1_22bb⟩ := BX1_22.out.it
          refine hK.out _ _ ⟨z0_22, z1_22, z1_22b, z1_22bb⟩ (fun hHeld => ?_); clear hK K; (try simp only [Act.put, List.setIfInBounds_toArray]); (try dsimp only [List.set_cons_zero, List.set_cons_succ])
          refine wpAnyH_take (i := 6) (oi := ⟨some 98, _, _, _, _, _⟩) (v := ?_) rfl (by as_aux_lemma => kernel_rfl) (by as_aux_lemma => kernel_rfl) (by as_aux_lemma => kernel_rfl) (fun _ _ _ h => h) (Or.inl ⟨by rfl, ?_⟩) (by assumption) ?_; rotate_left; (focus (intro w hSw; (try dsimp only at hSw); go_simp; (try with_reducible rfl))); (try simp only [Act.put, List.setIfInBounds_toArray]); (try dsimp only [List.set_cons_zero, List.set_cons_succ])
          refine wpAnyH_take (i := 7) (oi := ⟨some 105, _, _, _, _, _⟩) (v := ?_) rfl (by as_aux_lemma => kernel_rfl) (by as_aux_lemma => kernel_rfl) (by as_aux_lemma => kernel_rfl) (fun _ _ _ h => h) (Or.inl ⟨by rfl, ?_⟩) (by assumption) ?_; rotate_left; (focus (intro w hSw; (try dsimp only at hSw); go_simp; (try with_reducible rfl))); (try simp only [Act.put, List.setIfInBounds_toArray]); (try dsimp only [List.set_cons_zero, List.set_cons_succ])
          refine wpAnyH_take (i := 8) (oi := ⟨some 106, _, _, _, _, _⟩) (v := ?_) rfl (by as_aux_lemma => kernel_rfl) (by as_aux_lemma => kernel_rfl) (by as_aux_lemma => kernel_rfl) (fun _ _ _ h => h) (Or.inl ⟨by rfl, ?_⟩) (by assumption) ?_; rotate_left; (focus (intro w hSw; (try dsimp only at hSw); go_simp; (try with_reducible rfl))); (try simp only [Act.put, List.setIfInBounds_toArray]); (try dsimp only [List.set_cons_zero, List.set_cons_succ])
          refine wpAnyH_ready (rs := [9]) (by as_aux_lemma => kernel_rfl) (by simp) ?_; refine AllReadyH.cons (o := ⟨some 17, _, _, _, _, _⟩) rfl (fun K hK => ?_) AllReadyH.nil; go_simp
          obtain ⟨w23, hw23⟩ : ∃ W : World, W = w22.alloc (.cells #[.slice none 0 0, .slice none 0 0, .slice none 0 0] 31) := ⟨_, rfl⟩
          have hb : Below w22.heap.size w22 w23 := by rw [hw23]; exact (Below.refl _ _).alloc (Nat.le_refl _) _
          have hbs23 : w23.heap.size = w22.heap.size + 1 := by rw [hw23]; simp
          have S_23 := Lib.hid (S_22.out.step hb)
          clear S_22
          have Bl_23 := Lib.hid (Bl_22.out.step hb)
          clear Bl_22
          have BX0_23 := Lib.hid (BX0_22.out.step hb)
          clear BX0_22
          have BX1_23 := Lib.hid (BX1_22.out.step hb)
          clear BX1_22
          have Bk_23 := Lib.hid (Bk_22.out.trans (hb.mono (by omega)))
          clear Bk_22
          have Z_23 := Lib.hid (Z_22.out.step hb)
          clear Z_22
          have NB_23 : Hid (Bx w22.heap.size [.slice none 0 0, .slice none 0 0, .slice none 0 0] w23) := by rw [hw23]; exact Bx.start w22 _ _
          have hbs23b : w22.heap.size < w23.heap.size := by omega
          clear hb z0_22 z1_22 z1_22b z1_22bb
          have z0_23 := BX0_23.out.it
          obtain ⟨z1_23, z1_23b, z1_23bb⟩ := BX1_23.out.it
          rw [← hw23]
          clear hw23 hbs23
          refine hK.out _ _ ⟨z0_23, z1_23, z1_23b, z1_23bb⟩ (fun hHeld => ?_); clear hK K; (try simp only [Act.put, List.setIfInBounds_toArray]); (try dsimp only [List.set_cons_zero, List.set_cons_succ])
          have hvl : w22.heap.size ≤ w23.heap.size := Z_23.out.le
          have y0 := NB_23.out.c 0 _ rfl
          have x0 := NB_23.out.f 0
          have y1 := NB_23.out.c 1 _ rfl
          have x1 := NB_23.out.f 1
          have y2 := NB_23.out.c 2 _ rfl
          have x2 := NB_23.out.f 2
          refine wpAnyH_ready (rs := [10]) (by as_aux_lemma => kernel_rfl) (by simp) ?_; refine AllReadyH.cons (o := ⟨none, _, _, _, _, _⟩) rfl (fun K hK => ?_) AllReadyH.nil; go_simp
          obtain ⟨w24, hw24⟩ : ∃ W : World, W = (((w23.setCell ⟨w22.heap.size, 0, none⟩ (.slice BZ0 mZ0 dZ0)).setCell ⟨w22.heap.size, 1, none⟩ (.slice BZ1 mZ1 dZ1)).setCell ⟨w22.heap.size, 2, none⟩ (.slice BZ2 mZ2 dZ2)) := ⟨_, rfl⟩
          have ht : Tch (w22.heap.size) (w22.heap.size + 1) w23 w24 := by rw [hw24]; exact (((Tch.refl _ _ _).trans (Bx.tch _ 0 _)).trans (Bx.tch _ 1 _)).trans (Bx.tch _ 2 _)
          have NC : Hid (Bx (w22.heap.size) [.slice BZ0 mZ0 dZ0, .slice BZ1 mZ1 dZ1, .slice BZ2 mZ2 dZ2] w24) := by rw [hw24]; exact (((NB_23.out.set 0 (by simp) (.slice BZ0 mZ0 dZ0)).set 1 (by simp) (.slice BZ1 mZ1 dZ1)).set 2 (by simp) (.slice BZ2 mZ2 dZ2))
          have hbs24 := ht.size
          have S_24 := Lib.hid (S_23.out.turn ht (by omega))
          clear S_23
          have Bl_24 := Lib.hid (Bl_23.out.turn ht (by omega))
          clear Bl_23
          have BX0_24 := Lib.hid (BX0_23.out.turn ht (by omega))
          clear BX0_23
          have BX1_24 := Lib.hid (BX1_23.out.turn ht (by omega))
          clear BX1_23
          have Bk_24 := Lib.hid (Bk_23.out.trans (ht.below (by omega) (by omega)))
          clear Bk_23
          have Z_24 := Lib.hid (Z_23.out.turn ht (by omega))
          clear Z_23
          clear NB_23
          clear ht y0 x0 y1 x1 y2 x2 z0_23 z1_23 z1_23b z1_23bb
          have z0_24 := BX0_24.out.it
          obtain ⟨z1_24, z1_24b, z1_24bb⟩ := BX1_24.out.it
          rw [← hw24]
          clear hw24
          refine hK.out _ _ ⟨z0_24, z1_24, z1_24b, z1_24bb⟩ (fun hHeld => ?_); clear hK K; (try simp only [Act.put, List.setIfInBounds_toArray]); (try dsimp only [List.set_cons_zero, List.set_cons_succ])
          refine wpAnyH_ready (rs := [11]) (by as_aux_lemma => kernel_rfl) (by simp) ?_; refine AllReadyH.cons (o := ⟨some 18, _, _, _, _, _⟩) rfl (fun K hK => ?_) AllReadyH.nil; go_simp
          refine hK.out _ _ ⟨z0_24, z1_24, z1_24b, z1_24bb⟩ (fun hHeld => ?_); clear hK K; (try simp only [Act.put, List.setIfInBounds_toArray]); (try dsimp only [List.set_cons_zero, List.set_cons_succ])
          refine wpAnyH_done (by kernel_rfl) ?_ _
          go_wp2_with fail
          go_meet
          exact ⟨w22.heap.size, w21.heap.size, w22.heap.size, _, _, _, _, _, _, _, _, _, rfl, rfl, Z_24.out, Bx.as3 NC.out, by omega, by omega, by omega, Bk_24.out⟩
        · go_simp
          obtain ⟨w22, hw22⟩ : ∃ W : World, W = w21.alloc (.cells #[.slice none 0 0, .slice none 0 0, .slice none 0 0] 31) := ⟨_, rfl⟩
          have hb : Below w21.heap.size w21 w22 := by rw [hw22]; exact (Below.refl _ _).alloc (Nat.le_refl _) _
          have hbs22 : w22.heap.size = w21.heap.size + 1 := by rw [hw22]; simp
          have S_22 := Lib.hid (S_21.out.step hb)
          clear S_21
          have Bl_22 := Lib.hid (Bl_21.out.step hb)
          clear Bl_21
          have BX0_22 := Lib.hid (BX0_21.out.step hb)
          clear BX0_21
          have BX1_22 := Lib.hid (BX1_21.out.step hb)
          clear BX1_21
          have Bk_22 := Lib.hid (Bk_21.out.trans (hb.mono (by omega)))
          clear Bk_21
          have X0_22 := Lib.hid (X0_21.out.step hb)
          clear X0_21
          have X1_22 := Lib.hid (X1_21.out.step hb)
          clear X1_21
          have NB_22 : Hid (Bx w21.heap.size [.slice none 0 0, .slice none 0 0, .slice none 0 0] w22) := by rw [hw22]; exact Bx.start w21 _ _
          have hbs22b : w21.heap.size < w22.heap.size := by omega
          clear hb z0_21 z1_21 z1_21b z1_21bb
          have z0_22 := BX0_22.out.it
          obtain ⟨z1_22, z1_22b, z1_22bb⟩ := BX1_22.out.it
          rw [← hw22]
          clear hw22 hbs22
          refine hK.out _ _ ⟨z0_22, z1_22, z1_22b, z1_22bb⟩ (fun hHeld => ?_); clear hK K; (try simp only [Act.put, List.setIfInBounds_toArray]); (try dsimp only [List.set_cons_zero, List.set_cons_succ])
          refine wpAnyH_ready (rs := [5]) (by as_aux_lemma => kernel_rfl) (by simp) ?_; refine AllReadyH.cons (o := ⟨some 104, _, _, _, _, _⟩) rfl (fun K hK => ?_) AllReadyH.nil; go_simp
          go_at_call 20
          refine (HIM.out B20 m20 d20 B21 m21 d21 D21 em21 ed21 L21 lm21 ld21 _ M20.out NC20.out X0_22.out.graph M21.out EM21.out KM21.out X1_22.out.lazy4).mono ?_
          rintro e w23 ⟨BZ0, mZ0, dZ0, BZ1, mZ1, dZ1, BZ2, mZ2, dZ2, rfl, hown, hb⟩
          have hbs23 : w22.heap.size ≤ w23.heap.size := hb.size
          clear X0_22
          clear X1_22
          have S_23 := Lib.hid (S_22.out.step hb)
          clear S_22
          have Bl_23 := Lib.hid (Bl_22.out.step hb)
          clear Bl_22
          have BX0_23 := Lib.hid (BX0_22.out.step hb)
          clear BX0_22
          have BX1_23 := Lib.hid (BX1_22.out.step hb)
          clear BX1_22
          have Bk_23 := Lib.hid (Bk_22.out.trans (hb.mono (by omega)))
          clear Bk_22
          have NB_23 := Lib.hid (NB_22.out.step hb)
          clear NB_22
          have Z_23 := Lib.hid (lazy_start hown)
          clear hown hb
          clear z0_22 z1_22 z1_22b z1_22bb
          have z0_23 := BX0_23.out.it
          obtain ⟨z1_23, z1_23b, z1_23bb⟩ := BX1_23.out.it
          refine hK.out _ _ ⟨z0_23, z1_23, z1_23b, z1_23bb⟩ (fun hHeld => ?_); clear hK K; (try simp only [Act.put, List.setIfInBounds_toArray]); (try dsimp only [List.set_cons_zero, List.set_cons_succ])
          refine wpAnyH_take (i := 6) (oi := ⟨some 98, _, _, _, _, _⟩) (v := ?_) rfl (by as_aux_lemma => kernel_rfl) (by as_aux_lemma => kernel_rfl) (by as_aux_lemma => kernel_rfl) (fun _ _ _ h => h) (Or.inl ⟨by rfl, ?_⟩) (by assumption) ?_; rotate_left; (focus (intro w hSw; (try dsimp only at hSw); go_simp; (try with_reducible rfl))); (try simp only [Act.put, List.setIfInBounds_toArray]); (try dsimp only [List.set_cons_zero, List.set_cons_succ])
          refine wpAnyH_take (i := 7) (oi := ⟨some 105, _, _, _, _, _⟩) (v := ?_) rfl (by as_aux_lemma => kernel_rfl) (by as_aux_lemma => kernel_rfl) (by as_aux_lemma => kernel_rfl) (fun _ _ _ h => h) (Or.inl ⟨by rfl, ?_⟩) (by assumption) ?_; rotate_left; (focus (intro w hSw; (try dsimp only at hSw); go_simp; (try with_reducible rfl))); (try simp only [Act.put, List.setIfInBounds_toArray]); (try dsimp only [List.set_cons_zero, List.set_cons_succ])
          refine wpAnyH_take (i := 8) (oi := ⟨some 106, _, _, _, _, _⟩) (v := ?_) rfl (by as_aux_lemma => kernel_rfl) (by as_aux_lemma => kernel_rfl) (by as_aux_lemma => kernel_rfl) (fun _ _ _ h => h) (Or.inl ⟨by rfl, ?_⟩) (by assumption) ?_; rotate_left; (focus (intro w hSw; (try dsimp only at hSw); go_simp; (try with_reducible rfl))); (try simp only [Act.put, List.setIfInBounds_toArray]); (try dsimp only [List.set_cons_zero, List.set_cons_succ])
          have hvl : w23.heap.size ≤ w23.heap.size := Z_23.out.le
          have y0 := NB_23.out.c 0 _ rfl
          have x0 := NB_23.out.f 0
          have y1 := NB_23.out.c 1 _ rfl
          have x1 := NB_23.out.f 1
          have y2 := NB_23.out.c 2 _ rfl
          have x2 := NB_23.out.f 2
          refine wpAnyH_ready (rs := [10]) (by as_aux_lemma => kernel_rfl) (by simp) ?_; refine AllReadyH.cons (o := ⟨none, _, _, _, _, _⟩) rfl (fun K hK => ?_) AllReadyH.nil; go_simp
          obtain ⟨w24, hw24⟩ : ∃ W : World, W = (((w23.setCell ⟨w21.heap.size, 0, none⟩ (.slice BZ0 mZ0 dZ0)).setCell ⟨w21.heap.size, 1, none⟩ (.slice BZ1 mZ1 dZ1)).setCell ⟨w21.heap.size, 2, none⟩ (.slice BZ2 mZ2 dZ2)) := ⟨_, rfl⟩
          have ht : Tch (w21.heap.size) (w21.heap.size + 1) w23 w24 := by rw [hw24]; exact (((Tch.refl _ _ _).trans (Bx.tch _ 0 _)).trans (Bx.tch _ 1 _)).trans (Bx.tch _ 2 _)
          have NC : Hid (Bx (w21.heap.size) [.slice BZ0 mZ0 dZ0, .slice BZ1 mZ1 dZ1, .slice BZ2 mZ2 dZ2] w24) := by rw [hw24]; exact (((NB_23.out.set 0 (by simp) (.slice BZ0 mZ0 dZ0)).set 1 (by simp) (.slice BZ1 mZ1 dZ1)).set 2 (by simp) (.slice BZ2 mZ2 dZ2))
          have hbs24 := ht.size
          have S_24 := Lib.hid (S_23.out.turn ht (by omega))
          clear S_23
          have Bl_24 := Lib.hid (Bl_23.out.turn ht (by omega))
          clear Bl_23
          have BX0_24 := Lib.hid (BX0_23.out.turn ht (by omega))
          clear BX0_23
          have BX1_24 := Lib.hid (BX1_23.out.turn ht (by omega))
          clear BX1_23
          have Bk_24 := Lib.hid (Bk_23.out.trans (ht.below (by omega) (by omega)))
          clear Bk_23
          clear NB_23
          have Z_24 := Lib.hid (Z_23.out.turn ht (by omega))
          clear Z_23
          clear ht y0 x0 y1 x1 y2 x2 z0_23 z1_23 z1_23b z1_23bb
          have z0_24 := BX0_24.out.it
          obtain ⟨z1_24, z1_24b, z1_24bb⟩ := BX1_24.out.it
          rw [← hw24]
          clear hw24
          refine hK.out _ _ ⟨z0_24, z1_24, z1_24b, z1_24bb⟩ (fun hHeld => ?_); clear hK K; (try simp only [Act.put, List.setIfInBounds_toArray]); (try dsimp only [List.set_cons_zero, List.set_cons_succ])
          refine wpAnyH_ready (rs := [11]) (by as_aux_lemma => kernel_rfl) (by simp) ?_; refine AllReadyH.cons (o := ⟨some 18, _, _, _, _, _⟩) rfl (fun K hK => ?_) AllReadyH.nil; go_simp
          refine hK.out _ _ ⟨z0_24, z1_24, z1_24b, z1_24bb⟩ (fun hHeld => ?_); clear hK K; (try simp only [Act.put, List.setIfInBounds_toArray]); (try dsimp only [List.set_cons_zero, List.set_cons_succ])
          refine wpAnyH_done (by kernel_rfl) ?_ _
          go_wp2_with fail
          go_meet
          exact ⟨w21.heap.size, w22.heap.size, w23.heap.size, _, _, _, _, _, _, _, _, _, rfl, rfl, Z_24.out, Bx.as3 NC.out, by omega, by omega, by omega, Bk_24.out⟩
      · go_simp
        obtain ⟨w21, hw21⟩ : ∃ W : World, W = w20.alloc (.cells #[.slice none 0 0, .slice none 0 0, .slice none 0 0] 31) := ⟨_, rfl⟩
        have hb : Below w20.heap.size w20 w21 := by rw [hw21]; exact (Below.refl _ _).alloc (Nat.le_refl _) _
        have hbs21 : w21.heap.size = w20.heap.size + 1 := by rw [hw21]; simp
        have S_21 := Lib.hid (S_20.out.step hb)
        clear S_20
        have Bl_21 := Lib.hid (Bl_20.out.step hb)
        clear Bl_20
        have BX0_21 := Lib.hid (BX0_20.out.step hb)
        clear BX0_20
        have BX1_21 := Lib.hid (BX1_20.out.step hb)
        clear BX1_20
        have Bk_21 := Lib.hid (Bk_20.out.trans (hb.mono (by omega)))
        clear Bk_20
        have X0_21 := Lib.hid (X0_20.out.step hb)
        clear X0_20
        have NB_21 : Hid (Bx w20.heap.size [.slice none 0 0, .slice none 0 0, .slice none 0 0] w21) := by rw [hw21]; exact Bx.start w20 _ _
        have hbs21b : w20.heap.size < w21.heap.size := by omega
        clear hb z0_20 z1_20 z1_20b z1_20bb
        have z0_21 := BX0_21.out.it
        obtain ⟨z1_21, z1_21b, z1_21bb⟩ := BX1_21.out.it
        rw [← hw21]
        clear hw21 hbs21
        refine hK.out _ _ ⟨z0_21, z1_21, z1_21b, z1_21bb⟩ (fun hHeld => ?_); clear hK K; (try simp only [Act.put, List.setIfInBounds_toArray]); (try dsimp only [List.set_cons_zero, List.set_cons_succ])
        refine wpAnyH_ready (rs := [3]) (by as_aux_lemma => kernel_rfl) (by simp) ?_; refine AllReadyH.cons (o := ⟨some 102, _, _, _, _, _⟩) rfl (fun K hK => ?_) AllReadyH.nil; go_simp
        go_at_call 12
        refine (laws_toLazy A1 E1 K1 n1 c1 en1 ec1 kn1 kc1 st1 _ w.heap.size Bl_21.out.le HN1.out HE1.out HK1.out S_21.out.it.2 HEG1.out).mono ?_
        rintro e w22 ⟨B22, m22, d22, D22, em22, ed22, L22, lm22, ld22, rfl, hown, hb⟩
        have hn := hown.1
        have hen := hown.2.1
        have hkn := hown.2.2.1
        have M22 := Lib.hid hn
        have EM22 := Lib.hid hen
        have KM22 := Lib.hid hkn
        have hbs22 : w21.heap.size ≤ w22.heap.size := hb.size
        have S_22 := Lib.hid (S_21.out.step hb)
        clear S_21
        have Bl_22 := Lib.hid (Bl_21.out.step hb)
        clear Bl_21
        have BX0_22 := Lib.hid (BX0_21.out.step hb)
        clear BX0_21
        have BX1_22 := Lib.hid (BX1_21.out.step hb)
        clear BX1_21
        have Bk_22 := Lib.hid (Bk_21.out.trans (hb.mono (by omega)))
        clear Bk_21
        have X0_22 := Lib.hid (X0_21.out.step hb)
        clear X0_21
        have NB_22 := Lib.hid (NB_21.out.step hb)
        clear NB_21
        have X1_22 := Lib.hid (lazy_start hown)
        clear hown hb hn hen hkn
        clear z0_21 z1_21 z1_21b z1_21bb
        have z0_22 := BX0_22.out.it
        obtain ⟨z1_22, z1_22b, z1_22bb⟩ := BX1_22.out.it
        refine hK.out _ _ ⟨z0_22, z1_22, z1_22b, z1_22bb⟩ (fun hHeld => ?_); clear hK K; (try simp only [Act.put, List.setIfInBounds_toArray]); (try dsimp only [List.set_cons_zero, List.set_cons_succ])
        refine wpAnyH_ready (rs := [5]) (by as_aux_lemma => kernel_rfl) (by simp) ?_; refine AllReadyH.cons (o := ⟨some 104, _, _, _, _, _⟩) rfl (fun K hK => ?_) AllReadyH.nil; go_simp
        go_at_call 20
        refine (HIM.out B20 m20 d20 B22 m22 d22 D22 em22 ed22 L22 lm22 ld22 _ M20.out NC20.out X0_22.out.graph M22.out EM22.out KM22.out X1_22.out.lazy4).mono ?_
        rintro e w23 ⟨BZ0, mZ0, dZ0, BZ1, mZ1, dZ1, BZ2, mZ2, dZ2, rfl, hown, hb⟩
        have hbs23 : w22.heap.size ≤ w23.heap.size := hb.size
        clear X0_22
        clear X1_22
        have S_23 := Lib.hid (S_22.out.step hb)
        clear S_22
        have Bl_23 := Lib.hid (Bl_22.out.step hb)
        clear Bl_22
        have BX0_23 := Lib.hid (BX0_22.out.step hb)
        clear BX0_22
        have BX1_23 := Lib.hid (BX1_22.out.step hb)
        clear BX1_22
        have Bk_23 := Lib.hid (Bk_22.out.trans (hb.mono (by omega)))
        clear Bk_22
        have NB_23 := Lib.hid (NB_22.out.step hb)
        clear NB_22
        have Z_23 := Lib.hid (lazy_start hown)
        clear hown hb
        clear z0_22 z1_22 z1_22b z1_22bb
        have z0_23 := BX0_23.out.it
        obtain ⟨z1_23, z1_23b, z1_23bb⟩ := BX1_23.out.it
        refine hK.out _ _ ⟨z0_23, z1_23, z1_23b, z1_23bb⟩ (fun hHeld => ?_); clear hK K; (try simp only [Act.put, List.setIfInBounds_toArray]); (try dsimp only [List.set_cons_zero, List.set_cons_succ])
        refine wpAnyH_take (i := 6) (oi := ⟨some 98, _, _, _, _, _⟩) (v := ?_) rfl (by as_aux_lemma => kernel_rfl) (by as_aux_lemma => kernel_rfl) (by as_aux_lemma => kernel_rfl) (fun _ _ _ h => h) (Or.inl ⟨by rfl, ?_⟩) (by assumption) ?_; rotate_left; (focus (intro w hSw; (try dsimp only at hSw); go_simp; (try with_reducible rfl))); (try simp only [Act.put, List.setIfInBounds_toArray]); (try dsimp only [List.set_cons_zero, List.set_cons_succ])
        refine wpAnyH_take (i := 7) (oi := ⟨some 105, _, _, _, _, _⟩) (v := ?_) rfl (by as_aux_lemma => kernel_rfl) (by as_aux_lemma => kernel_rfl) (by as_aux_lemma => kernel_rfl) (fun _ _ _ h => h) (Or.inl ⟨by rfl, ?_⟩) (by assumption) ?_; rotate_left; (focus (intro w hSw; (try dsimp only at hSw); go_simp; (try with_reducible rfl))); (try simp only [Act.put, List.setIfInBounds_toArray]); (try dsimp only [List.set_cons_zero, List.set_cons_succ])
        refine wpAnyH_take (i := 8) (oi := ⟨some 106, _, _, _, _, _⟩) (v := ?_) rfl (by as_aux_lemma => kernel_rfl) (by as_aux_lemma => kernel_rfl) (by as_aux_lemma => kernel_rfl) (fun _ _ _ h => h) (Or.inl ⟨by rfl, ?_⟩) (by assumption) ?_; rotate_left; (focus (intro w hSw; (try dsimp only at hSw); go_simp; (try with_reducible rfl))); (try simp only [Act.put, List.setIfInBounds_toArray]); (try dsimp only [List.set_cons_zero, List.set_cons_succ])
        have hvl : w23.heap.size ≤ w23.heap.size := Z_23.out.le
        have y0 := NB_23.out.c 0 _ rfl
        have x0 := NB_23.out.f 0
        have y1 := NB_23.out.c 1 _ rfl
        have x1 := NB_23.out.f 1
        have y2 := NB_23.out.c 2 _ rfl
        have x2 := NB_23.out.f 2
        refine wpAnyH_ready (rs := [10]) (by as_aux_lemma => kernel_rfl) (by simp) ?_; refine AllReadyH.cons (o := ⟨none, _, _, _, _, _⟩) rfl (fun K hK => ?_) AllReadyH.nil; go_simp
        obtain ⟨w24, hw24⟩ : ∃ W : World, W = (((w23.setCell ⟨w20.heap.size, 0, none⟩ (.slice BZ0 mZ0 dZ0)).setCell ⟨w20.heap.size, 1, none⟩ (.slice BZ1 mZ1 dZ1)).setCell ⟨w20.heap.size, 2, none⟩ (.slice BZ2 mZ2 dZ2)) := ⟨_, rfl⟩
        have ht : Tch (w20.heap.size) (w20.heap.size + 1) w23 w24 := by rw [hw24]; exact (((Tch.refl _ _ _).trans (Bx.tch _ 0 _)).trans (Bx.tch _ 1 _)).trans (Bx.tch _ 2 _)
        have NC : Hid (Bx (w20.heap.size) [.slice BZ0 mZ0 dZ0, .slice BZ1 mZ1 dZ1, .slice BZ2 mZ2 dZ2] w24) := by rw [hw24]; exact (((NB_23.out.set 0 (by simp) (.slice BZ0 mZ0 dZ0)).set 1 (by simp) (.slice BZ1 mZ1 dZ1)).set 2 (by simp) (.slice BZ2 mZ2 dZ2))
        have hbs24 := ht.size
        have S_24 := Lib.hid (S_23.out.turn ht (by omega))
        clear S_23
        have Bl_24 := Lib.hid (Bl_23.out.turn ht (by omega))
        clear Bl_23
        have BX0_24 := Lib.hid (BX0_23.out.turn ht (by omega))
        clear BX0_23
        have BX1_24 := Lib.hid (BX1_23.out.turn ht (by omega))
        clear BX1_23
        have Bk_24 := Lib.hid (Bk_23.out.trans (ht.below (by omega) (by omega)))
        clear Bk_23
        clear NB_23
        have Z_24 := Lib.hid (Z_23.out.turn ht (by omega))
        clear Z_23
        clear ht y0 x0 y1 x1 y2 x2 z0_23 z1_23 z1_23b z1_23bb
        have z0_24 := BX0_24.out.it
        obtain ⟨z1_24, z1_24b, z1_24bb⟩ := BX1_24.out.it
        rw [← hw24]
        clear hw24
        refine hK.out _ _ ⟨z0_24, z1_24, z1_24b, z1_24bb⟩ (fun hHeld => ?_); clear hK K; (try simp only [Act.put, List.setIfInBounds_toArray]); (try dsimp only [List.set_cons_zero, List.set_cons_succ])
        refine wpAnyH_ready (rs := [11]) (by as_aux_lemma => kernel_rfl) (by simp) ?_; refine AllReadyH.cons (o := ⟨some 18, _, _, _, _, _⟩) rfl (fun K hK => ?_) AllReadyH.nil; go_simp
        refine hK.out _ _ ⟨z0_24, z1_24, z1_24b, z1_24bb⟩ (fun hHeld => ?_); clear hK K; (try simp only [Act.put, List.setIfInBounds_toArray]); (try dsimp only [List.set_cons_zero, List.set_cons_succ])
        refine wpAnyH_done (by kernel_rfl) ?_ _
        go_wp2_with fail
        go_meet
        exact ⟨w20.heap.size, w22.heap.size, w23.heap.size, _, _, _, _, _, _, _, _, _, rfl, rfl, Z_24.out, Bx.as3 NC.out, by omega, by omega, by omega, Bk_24.out⟩
    · go_simp
      obtain ⟨w20, hw20⟩ : ∃ W : World, W = w19.alloc (.cells #[.slice none 0 0, .slice none 0 0, .slice none 0 0] 31) := ⟨_, rfl⟩
      have hb : Below w19.heap.size w19 w20 := by rw [hw20]; exact (Below.refl _ _).alloc (Nat.le_refl _) _
      have hbs20 : w20.heap.size = w19.heap.size + 1 := by rw [hw20]; simp
      have S_20 := Lib.hid (S_19.out.step hb)
      clear S_19
      have Bl_20 := Lib.hid (Bl_19.out.step hb)
      clear Bl_19
      have BX0_20 := Lib.hid (BX0_19.out.step hb)
      clear BX0_19
      have BX1_20 := Lib.hid (BX1_19.out.step hb)
      clear BX1_19
      have Bk_20 := Lib.hid (Bk_19.out.trans (hb.mono (by omega)))
      clear Bk_19
      have NB_20 : Hid (Bx w19.heap.size [.slice none 0 0, .slice none 0 0, .slice none 0 0] w20) := by rw [hw20]; exact Bx.start w19 _ _
      have hbs20b : w19.heap.size < w20.heap.size := by omega
      clear hb z0_19 z1_19 z1_19b z1_19bb
      have z0_20 := BX0_20.out.it
      obtain ⟨z1_20, z1_20b, z1_20bb⟩ := BX1_20.out.it
      rw [← hw20]
      clear hw20 hbs20
      refine hK.out _ _ ⟨z0_20, z1_20, z1_20b, z1_20bb⟩ (fun hHeld => ?_); clear hK K; (try simp only [Act.put, List.setIfInBounds_toArray]); (try dsimp only [List.set_cons_zero, List.set_cons_succ])
      refine wpAnyH_ready (rs := [1]) (by as_aux_lemma => kernel_rfl) (by simp) ?_; refine AllReadyH.cons (o := ⟨some 100, _, _, _, _, _⟩) rfl (fun K hK => ?_) AllReadyH.nil; go_simp
      go_at_call 11
      refine (laws_toGraph A0 n0 c0 gs0 _ w.heap.size Bl_20.out.le HN0.out S_20.out.it.1 HG0.out).mono ?_
      rintro e w21 ⟨B21, m21, d21, rfl, hn, hown, hb⟩
      have M21 := Lib.hid hn
      have NC21 := Lib.hid hown.ncap
      have hbs21 : w20.heap.size ≤ w21.heap.size := hb.size
      have S_21 := Lib.hid (S_20.out.step hb)
      clear S_20
      have Bl_21 := Lib.hid (Bl_20.out.step hb)
      clear Bl_20
      have BX0_21 := Lib.hid (BX0_20.out.step hb)
      clear BX0_20
      have BX1_21 := Lib.hid (BX1_20.out.step hb)
      clear BX1_20
      have Bk_21 := Lib.hid (Bk_20.out.trans (hb.mono (by omega)))
      clear Bk_20
      have NB_21 := Lib.hid (NB_20.out.step hb)
      clear NB_20
      have X0_21 := Lib.hid (graph_start hown)
      clear hown hb hn
      clear z0_20 z1_20 z1_20b z1_20bb
      have z0_21 := BX0_21.out.it
      obtain ⟨z1_21, z1_21b, z1_21bb⟩ := BX1_21.out.it
      refine hK.out _ _ ⟨z0_21, z1_21, z1_21b, z1_21bb⟩ (fun hHeld => ?_); clear hK K; (try simp only [Act.put, List.setIfInBounds_toArray]); (try dsimp only [List.set_cons_zero, List.set_cons_succ])
      refine wpAnyH_ready (rs := [3]) (by as_aux_lemma => kernel_rfl) (by simp) ?_; refine AllReadyH.cons (o := ⟨some 102, _, _, _, _, _⟩) rfl (fun K hK => ?_) AllReadyH.nil; go_simp
      go_at_call 12
      refine (laws_toLazy A1 E1 K1 n1 c1 en1 ec1 kn1 kc1 st1 _ w.heap.size Bl_21.out.le HN1.out HE1.out HK1.out S_21.out.it.2 HEG1.out).mono ?_
      rintro e w22 ⟨B22, m22, d22, D22, em22, ed22, L22, lm22, ld22, rfl, hown, hb⟩
      have hn := hown.1
      have hen := hown.2.1
      have hkn := hown.2.2.1
      have M22 := Lib.hid hn
      have EM22 := Lib.hid hen
      have KM22 := Lib.hid hkn
      have hbs22 : w21.heap.size ≤ w22.heap.size := hb.size
      have S_22 := Lib.hid (S_21.out.step hb)
      clear S_21
      have Bl_22 := Lib.hid (Bl_21.out.step hb)
      clear Bl_21
      have BX0_22 := Lib.hid (BX0_21.out.step hb)
      clear BX0_21
      have BX1_22 := Lib.hid (BX1_21.out.step hb)
      clear BX1_21
      have Bk_22 := Lib.hid (Bk_21.out.trans (hb.mono (by omega)))
      clear Bk_21
      have NB_22 := Lib.hid (NB_21.out.step hb)
      clear NB_21
      have X0_22 := Lib.hid (X0_21.out.step hb)
      clear X0_21
      have X1_22 := Lib.hid (lazy_start hown)
      clear hown hb hn hen hkn
      clear z0_21 z1_21 z1_21b z1_21bb
      have z0_22 := BX0_22.out.it
      obtain ⟨z1_22, z1_22b, z1_22bb⟩ := BX1_22.out.it
      refine hK.out _ _ ⟨z0_22, z1_22, z1_22b, z1_22bb⟩ (fun hHeld => ?_); clear hK K; (try simp only [Act.put, List.setIfInBounds_toArray]); (try dsimp only [List.set_cons_zero, List.set_cons_succ])
      refine wpAnyH_ready (rs := [5]) (by as_aux_lemma => kernel_rfl) (by simp) ?_; refine AllReadyH.cons (o := ⟨some 104, _, _, _, _, _⟩) rfl (fun K hK => ?_) AllReadyH.nil; go_simp
      go_at_call 20
      refine (HIM.out B21 m21 d21 B22 m22 d22 D22 em22 ed22 L22 lm22 ld22 _ M21.out NC21.out X0_22.out.graph M22.out EM22.out KM22.out X1_22.out.lazy4).mono ?_
      rintro e w23 ⟨BZ0, mZ0, dZ0, BZ1, mZ1, dZ1, BZ2, mZ2, dZ2, rfl, hown, hb⟩
      have hbs23 : w22.heap.size ≤ w23.heap.size := hb.size
      clear X0_22
      clear X1_22
      have S_23 := Lib.hid (S_22.out.step hb)
      clear S_22
      have Bl_23 := Lib.hid (Bl_22.out.step hb)
      clear Bl_22
      have BX0_23 := Lib.hid (BX0_22.out.step hb)
      clear BX0_22
      have BX1_23 := Lib.hid (BX1_22.out.step hb)
      clear BX1_22
      have Bk_23 := Lib.hid (Bk_22.out.trans (hb.mono (by omega)))
      clear Bk_22
      have NB_23 := Lib.hid (NB_22.out.step hb)
      clear NB_22
      have Z_23 := Lib.hid (lazy_start hown)
      clear hown hb
      clear z0_22 z1_22 z1_22b z1_22bb
      have z0_23 := BX0_23.out.it
      obtain ⟨z1_23, z1_23b, z1_23bb⟩ := BX1_23.out.it
      refine hK.out _ _ ⟨z0_23, z1_23, z1_23b, z1_23bb⟩ (fun hHeld => ?_); clear hK K; (try simp only [Act.put, List.setIfInBounds_toArray]); (try dsimp only [List.set_cons_zero, List.set_cons_succ])
      refine wpAnyH_take (i := 6) (oi := ⟨some 98, _, _, _, _, _⟩) (v := ?_) rfl (by as_aux_lemma => kernel_rfl) (by as_aux_lemma => kernel_rfl) (by as_aux_lemma => kernel_rfl) (fun _ _ _ h => h) (Or.inl ⟨by rfl, ?_⟩) (by assumption) ?_; rotate_left; (focus (intro w hSw; (try dsimp only at hSw); go_simp; (try with_reducible rfl))); (try simp only [Act.put, List.setIfInBounds_toArray]); (try dsimp only [List.set_cons_zero, List.set_cons_succ])
      refine wpAnyH_take (i := 7) (oi := ⟨some 105, _, _, _, _, _⟩) (v := ?_) rfl (by as_aux_lemma => kernel_rfl) (by as_aux_lemma => kernel_rfl) (by as_aux_lemma => kernel_rfl) (fun _ _ _ h => h) (Or.inl ⟨by rfl, ?_⟩) (by assumption) ?_; rotate_left; (focus (intro w hSw; (try dsimp only at hSw); go_simp; (try with_reducible rfl))); (try simp only [Act.put, List.setIfInBounds_toArray]); (try dsimp only [List.set_cons_zero, List.set_cons_succ])
      refine wpAnyH_take (i := 8) (oi := ⟨some 106, _, _, _, _, _⟩) (v := ?_) rfl (by as_aux_lemma => kernel_rfl) (by as_aux_lemma => kernel_rfl) (by as_aux_lemma => kernel_rfl) (fun _ _ _ h => h) (Or.inl ⟨by rfl, ?_⟩) (by assumption) ?_; rotate_left; (focus (intro w hSw; (try dsimp only at hSw); go_simp; (try with_reducible rfl))); (try simp only [Act.put, List.setIfInBounds_toArray]); (try dsimp only [List.set_cons_zero, List.set_cons_succ])
      have hvl : w23.heap.size ≤ w23.heap.size := Z_23.out.le
      have y0 := NB_23.out.c 0 _ rfl
      have x0 := NB_23.out.f 0
      have y1 := NB_23.out.c 1 _ rfl
      have x1 := NB_23.out.f 1
      have y2 := NB_23.out.c 2 _ rfl
      have x2 := NB_23.out.f 2
      refine wpAnyH_ready (rs := [10]) (by as_aux_lemma => kernel_rfl) (by simp) ?_; refine AllReadyH.cons (o := ⟨none, _, _, _, _, _⟩) rfl (fun K hK => ?_) AllReadyH.nil; go_simp
      obtain ⟨w24, hw24⟩ : ∃ W : World, W = (((w23.setCell ⟨w19.heap.size, 0, none⟩ (.slice BZ0 mZ0 dZ0)).setCell ⟨w19.heap.size, 1, none⟩ (.slice BZ1 mZ1 dZ1)).setCell ⟨w19.heap.size, 2, none⟩ (.slice BZ2 mZ2 dZ2)) := ⟨_, rfl⟩
      have ht : Tch (w19.heap.size) (w19.heap.size + 1) w23 w24 := by rw [hw24]; exact (((Tch.refl _ _ _).trans (Bx.tch _ 0 _)).trans (Bx.tch _ 1 _)).trans (Bx.tch _ 2 _)
      have NC : Hid (Bx (w19.heap.size) [.slice BZ0 mZ0 dZ0, .slice BZ1 mZ1 dZ1, .slice BZ2 mZ2 dZ2] w24) := by rw [hw24]; exact (((NB_23.out.set 0 (by simp) (.slice BZ0 mZ0 dZ0)).set 1 (by simp) (.slice BZ1 mZ1 dZ1)).set 2 (by simp) (.slice BZ2 mZ2 dZ2))
      have hbs24 := ht.size
      have S_24 := Lib.hid (S_23.out.turn ht (by omega))
      clear S_23
      have Bl_24 := Lib.hid (Bl_23.out.turn ht (by omega))
      clear Bl_23
      have BX0_24 := Lib.hid (BX0_23.out.turn ht (by omega))
      clear BX0_23
      have BX1_24 := Lib.hid (BX1_23.out.turn ht (by omega))
      clear BX1_23
      have Bk_24 := Lib.hid (Bk_23.out.trans (ht.below (by omega) (by omega)))
      clear Bk_23
      clear NB_23
      have Z_24 := Lib.hid (Z_23.out.turn ht (by omega))
      clear Z_23
      clear ht y0 x0 y1 x1 y2 x2 z0_23 z1_23 z1_23b z1_23bb
      have z0_24 := BX0_24.out.it
      obtain ⟨z1_24, z1_24b, z1_24bb⟩ := BX1_24.out.it
      rw [← hw24]
      clear hw24
      refine hK.out _ _ ⟨z0_24, z1_24, z1_24b, z1_24bb⟩ (fun hHeld => ?_); clear hK K; (try simp only [Act.put, List.setIfInBounds_toArray]); (try dsimp only [List.set_cons_zero, List.set_cons_succ])
      refine wpAnyH_ready (rs := [11]) (by as_aux_lemma => kernel_rfl) (by simp) ?_; refine AllReadyH.cons (o := ⟨some 18, _, _, _, _, _⟩) rfl (fun K hK => ?_) AllReadyH.nil; go_simp
      refine hK.out _ _ ⟨z0_24, z1_24, z1_24b, z1_24bb⟩ (fun hHeld => ?_); clear hK K; (try simp only [Act.put, List.setIfInBounds_toArray]); (try dsimp only [List.set_cons_zero, List.set_cons_succ])
      refine wpAnyH_done (by kernel_rfl) ?_ _
      go_wp2_with fail
      go_meet
      exact ⟨w19.heap.size, w22.heap.size, w23.heap.size, _, _, _, _, _, _, _, _, _, rfl, rfl, Z_24.out, Bx.as3 NC.out, by omega, by omega, by omega, Bk_24.out⟩
  obtain ⟨Zb, Zlo, Zhi, BZ0, mZ0, dZ0, BZ1, mZ1, dZ1, BZ2, mZ2, dZ2, hc0, hc1, HV, HVB, hv1, hv2, hv3, HB0⟩ := hcut
  subst hc0 hc1
  obtain ⟨w19, hw19⟩ : ∃ W : World, W = wc := ⟨_, rfl⟩
  rw [← hw19] at HV HVB HB0 ⊢
  clear hw19
  have hb := HB0.out
  have S_19 := Lib.hid (S_18.out.step hb)
  clear S_18
  have Bl_19 := Lib.hid (Bl_18.out.step hb)
  clear Bl_18
  have BX0_19 := Lib.hid (BX0_18.out.step hb)
  clear BX0_18
  have BX1_19 := Lib.hid (BX1_18.out.step hb)
  clear BX1_18
  have V_19 := Lib.hid (V_18.out.step hb)
  clear V_18
  have VB_19 := Lib.hid (VB_18.out.step hb)
  clear VB_18
  have XB0_19 := Lib.hid (XB0_18.out.step hb)
  clear XB0_18
  have XB1_19 := Lib.hid (XB1_18.out.step hb)
  clear XB1_18
  have G_19 := Lib.hid (G_18.out.step hb)
  clear G_18
  have GB_19 := Lib.hid (GB_18.out.step hb)
  clear GB_18
  have Z_19 := HV
  have ZB_19 := HVB
  have hv4 := HV.out.le
  have hv5 := HVB.out.le
  clear HV HVB HB0 hb
  obtain ⟨bg, bgb, bgbb⟩ := ZB_19.out.it
  obtain ⟨bv, bvb, bvbb⟩ := VB_19.out.it
  go_wp2_with fail
  refine (laws_eqLazy _ _ _ _ _ _ _ _ _ _ _ _ _ _ _ _ _ _ F0 F0 _ _ (Nat.le_refl _) Z_19.out.it.1 Z_19.out.it.2.1 Z_19.out.it.2.2.1 V_19.out.it.1 V_19.out.it.2.1 V_19.out.it.2.2.1 Z_19.out.lazy V_19.out.lazy HEB0.out HEB0.out).mono ?_
  rintro e w20 ⟨rfl, hb⟩
  have S_20 := Lib.hid (S_19.out.step hb)
  clear S_19
  have Bl_20 := Lib.hid (Bl_19.out.step hb)
  clear Bl_19
  have BX0_20 := Lib.hid (BX0_19.out.step hb)
  clear BX0_19
  have BX1_20 := Lib.hid (BX1_19.out.step hb)
  clear BX1_19
  have V_20 := Lib.hid (V_19.out.step hb)
  clear V_19
  have VB_20 := Lib.hid (VB_19.out.step hb)
  clear VB_19
  have XB0_20 := Lib.hid (XB0_19.out.step hb)
  clear XB0_19
  have XB1_20 := Lib.hid (XB1_19.out.step hb)
  clear XB1_19
  have G_20 := Lib.hid (G_19.out.step hb)
  clear G_19
  have GB_20 := Lib.hid (GB_19.out.step hb)
  clear GB_19
  have Z_20 := Lib.hid (Z_19.out.step hb)
  clear Z_19
  have ZB_20 := Lib.hid (ZB_19.out.step hb)
  clear ZB_19
  clear hb bg bgb bgbb bv bvb bvbb
  obtain ⟨bg, bgb, bgbb⟩ := GB_20.out.it
  go_wp2_with fail
  refine (held_lazy _ _ _ _ _ _ _ _ _ _ _ F0 1 _ G_20.out HEB0.out (by omega) (by omega)).mono ?_
  rintro e w21 ⟨he, hb⟩
  rw [← HQ0.out] at he
  subst he
  have S_21 := Lib.hid (S_20.out.step hb)
  clear S_20
  have Bl_21 := Lib.hid (Bl_20.out.step hb)
  clear Bl_20
  have BX0_21 := Lib.hid (BX0_20.out.step hb)
  clear BX0_20
  have BX1_21 := Lib.hid (BX1_20.out.step hb)
  clear BX1_20
  have V_21 := Lib.hid (V_20.out.step hb)
  clear V_20
  have VB_21 := Lib.hid (VB_20.out.step hb)
  clear VB_20
  have XB0_21 := Lib.hid (XB0_20.out.step hb)
  clear XB0_20
  have XB1_21 := Lib.hid (XB1_20.out.step hb)
  clear XB1_20
  have G_21 := Lib.hid (G_20.out.step hb)
  clear G_20
  have GB_21 := Lib.hid (GB_20.out.step hb)
  clear GB_20
  have Z_21 := Lib.hid (Z_20.out.step hb)
  clear Z_20
  have ZB_21 := Lib.hid (ZB_20.out.step hb)
  clear ZB_20
  clear hb bg bgb bgbb
  go_wp2
  go_ret
  exact ⟨rfl, Bl_21.out⟩
end Go.Proofs.YtlcpgbbpjnkihaaGreat
