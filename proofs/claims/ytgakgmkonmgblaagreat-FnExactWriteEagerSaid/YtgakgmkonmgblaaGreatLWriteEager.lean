/- laws.FnExactWriteEager returns true for all arguments, and writes nothing that was there. (Made by genlaw.py.) -/
import Derived.Test.YtgakgmkonmgblaaGreatY6
import Derived.Deep.RegionWith
import Derived.Test.YtgakgmkonmgblaaGreatT41
import Derived.Test.YtgakgmkonmgblaaGreatT44
import Derived.Test.YtgakgmkonmgblaaGreatW5

-- AUX
namespace Go.Proofs.YtgakgmkonmgblaaGreat
set_option linter.unusedSimpArgs false
set_option linter.unusedVariables false
open Go.RowKit

set_option maxRecDepth 100000 in
set_option maxHeartbeats 25600000 in
theorem law_WriteEager (A0 : Option Addr) (n0 c0 : Nat) (gs0 : List Nd) (A1 : Option Addr) (n1 c1 : Nat) (E1 : Option Addr) (en1 ec1 : Nat) (st1 : Eg) (A2 : Option Addr) (n2 c2 : Nat) (xs2 : List Int) (A3 : Option Addr) (n3 c3 : Nat) (xs3 : List Int) (w : World) (hn0 : n0 = gs0.length) (h0 : GS w w.heap.size A0 gs0) (hm0 : n0 ≤ 9223372036854775807) (hp0 : ∀ j, (gs0.getD j default).ps.length ≤ 9223372036854775807) (hn1 : n1 = st1.vs.length) (he1 : en1 = st1.rs.length) (h1 : ES w w.heap.size A1 E1 st1) (hm1 : n1 ≤ 9223372036854775807) (hem1 : en1 ≤ 9223372036854775807) (hp1 : ∀ j, (st1.rs.getD j []).length ≤ 9223372036854775807) (hn2 : n2 = xs2.length) (h2 : IS w w.heap.size A2 xs2) (hm2 : n2 ≤ 9223372036854775807) (hn3 : n3 = xs3.length) (h3 : IS w w.heap.size A3 xs3) (hm3 : n3 ≤ 9223372036854775807) :
    Calls Tryz.prog 4 #[.agg #[.slice A0 n0 c0], .agg #[.slice A1 n1 c1, .slice E1 en1 ec1], .slice A2 n2 c2, .slice A3 n3 c3] w fun e w' => e = .returned (.bool true) ∧ Below w.heap.size w w' := by
  by_cases hs2 : 1048576 < n2
  · clear hn0 h0 hp0 hn1 h1 he1 hp1 hn2 h2 hn3 h3
    go_enter Tryz.func4, Tryz.ntmps4
    go_wp2
    go_ret
    exact ⟨rfl, ((Below.refl _ _).alloc (Nat.le_refl _) _).alloc (by simp; try omega) _⟩
  by_cases hs3 : 1048576 < n3
  · clear hn0 h0 hp0 hn1 h1 he1 hp1 hn2 h2 hn3 h3
    go_enter Tryz.func4, Tryz.ntmps4
    go_wp2
    go_ret
    exact ⟨rfl, ((Below.refl _ _).alloc (Nat.le_refl _) _).alloc (by simp; try omega) _⟩
  obtain ⟨l0, hl0⟩ : ∃ l0 : Int, l0 = 1048576 := ⟨_, rfl⟩
  have HC0 := Lib.hid fun (w' : World) (hB : w.heap.size ≤ w'.heap.size) (h : GS w' w.heap.size A0 gs0) => laws_szGraph A0 n0 c0 gs0 l0 w' w.heap.size hB hn0 h (by omega) (by omega) hm0 hp0
  by_cases hz0 : ((gsz gs0 : Nat) : Int) ≤ l0
  case neg =>
    rw [leftOf_no hz0] at HC0
    subst hl0
    have S_0 : Hid (As 0 w.heap.size (fun wk => GS wk w.heap.size A0 gs0 ∧ ES wk w.heap.size A1 E1 st1 ∧ IS wk w.heap.size A2 xs2 ∧ IS wk w.heap.size A3 xs3) w) := ⟨⟨h0, h1, h2, h3⟩, Nat.le_refl _, ((GS.loc _ _ _).and ((ES.loc _ _ _ _).and ((IS.loc _ _ _).and (IS.loc _ _ _))))⟩
    have Bl_0 : Hid (Bl w w) := Bl.refl w
    have S_1 := Lib.hid (S_0.out.alloc (.cells #[.slice A0 n0 c0] 45))
    clear S_0
    have Bl_1 := Lib.hid (Bl_0.out.alloc (.cells #[.slice A0 n0 c0] 45))
    clear Bl_0
    have bx := box_new w (.slice A0 n0 c0) 45
    have BX0_1 := Lib.hid bx
    clear bx
    have S_2 := Lib.hid (S_1.out.alloc (.cells #[.slice A1 n1 c1, .slice E1 en1 ec1] 46))
    clear S_1
    have Bl_2 := Lib.hid (Bl_1.out.alloc (.cells #[.slice A1 n1 c1, .slice E1 en1 ec1] 46))
    clear Bl_1
    have BX0_2 := Lib.hid (BX0_1.out.alloc (.cells #[.slice A1 n1 c1, .slice E1 en1 ec1] 46))
    clear BX0_1
    have bx := box2_new (w.alloc (.cells #[.slice A0 n0 c0] 45)) (.slice A1 n1 c1) (.slice E1 en1 ec1) 46
    simp only [World.size_alloc] at bx
    have BX1_2 := Lib.hid bx
    clear bx
    clear hn0 h0 hp0 hn1 h1 he1 hp1 hn2 h2 hn3 h3 hz0
    go_enter Tryz.func4, Tryz.ntmps4
    have q := BX0_2.out.it
    go_wp2_with fail
    refine (HC0.out _ Bl_2.out.le S_2.out.it.1).mono ?_
    rintro e w3 ⟨rfl, hb⟩
    have S_3 := Lib.hid (S_2.out.step hb)
    clear S_2
    have Bl_3 := Lib.hid (Bl_2.out.step hb)
    clear Bl_2
    have BX0_3 := Lib.hid (BX0_2.out.step hb)
    clear BX0_2
    have BX1_3 := Lib.hid (BX1_2.out.step hb)
    clear BX1_2
    clear q hb
    go_wp2
    go_ret
    exact ⟨rfl, Bl_3.out⟩
  rw [leftOf_ok hz0] at HC0
  obtain ⟨l1, hl1⟩ : ∃ l1 : Int, l1 = l0 - ((gsz gs0 : Nat) : Int) := ⟨_, rfl⟩
  rw [← hl1] at HC0
  have hge1 : 0 ≤ l1 := by omega
  have hle1 : l1 ≤ 1048576 := by omega
  have HC1 := Lib.hid fun (w' : World) (hB : w.heap.size ≤ w'.heap.size) (h : ES w' w.heap.size A1 E1 st1) => laws_szEager A1 E1 n1 c1 en1 ec1 st1 l1 w' w.heap.size hB hn1 he1 h (by omega) (by omega) hm1 hem1 hp1
  by_cases hz1 : ((esz st1 : Nat) : Int) ≤ l1
  case neg =>
    rw [leftOf_no hz1] at HC1
    subst hl0
    have S_0 : Hid (As 0 w.heap.size (fun wk => GS wk w.heap.size A0 gs0 ∧ ES wk w.heap.size A1 E1 st1 ∧ IS wk w.heap.size A2 xs2 ∧ IS wk w.heap.size A3 xs3) w) := ⟨⟨h0, h1, h2, h3⟩, Nat.le_refl _, ((GS.loc _ _ _).and ((ES.loc _ _ _ _).and ((IS.loc _ _ _).and (IS.loc _ _ _))))⟩
    have Bl_0 : Hid (Bl w w) := Bl.refl w
    have S_1 := Lib.hid (S_0.out.alloc (.cells #[.slice A0 n0 c0] 45))
    clear S_0
    have Bl_1 := Lib.hid (Bl_0.out.alloc (.cells #[.slice A0 n0 c0] 45))
    clear Bl_0
    have bx := box_new w (.slice A0 n0 c0) 45
    have BX0_1 := Lib.hid bx
    clear bx
    have S_2 := Lib.hid (S_1.out.alloc (.cells #[.slice A1 n1 c1, .slice E1 en1 ec1] 46))
    clear S_1
    have Bl_2 := Lib.hid (Bl_1.out.alloc (.cells #[.slice A1 n1 c1, .slice E1 en1 ec1] 46))
    clear Bl_1
    have BX0_2 := Lib.hid (BX0_1.out.alloc (.cells #[.slice A1 n1 c1, .slice E1 en1 ec1] 46))
    clear BX0_1
    have bx := box2_new (w.alloc (.cells #[.slice A0 n0 c0] 45)) (.slice A1 n1 c1) (.slice E1 en1 ec1) 46
    simp only [World.size_alloc] at bx
    have BX1_2 := Lib.hid bx
    clear bx
    clear hn0 h0 hp0 hn1 h1 he1 hp1 hn2 h2 hn3 h3 hz1 hl1 hz0
    go_enter Tryz.func4, Tryz.ntmps4
    have q := BX0_2.out.it
    go_wp2_with fail
    refine (HC0.out _ Bl_2.out.le S_2.out.it.1).mono ?_
    rintro e w3 ⟨rfl, hb⟩
    have S_3 := Lib.hid (S_2.out.step hb)
    clear S_2
    have Bl_3 := Lib.hid (Bl_2.out.step hb)
    clear Bl_2
    have BX0_3 := Lib.hid (BX0_2.out.step hb)
    clear BX0_2
    have BX1_3 := Lib.hid (BX1_2.out.step hb)
    clear BX1_2
    clear q hb
    obtain ⟨q, qb⟩ := BX1_3.out.it
    go_wp2_with fail
    refine (HC1.out _ Bl_3.out.le S_3.out.it.2.1).mono ?_
    rintro e w4 ⟨rfl, hb⟩
    have S_4 := Lib.hid (S_3.out.step hb)
    clear S_3
    have Bl_4 := Lib.hid (Bl_3.out.step hb)
    clear Bl_3
    have BX0_4 := Lib.hid (BX0_3.out.step hb)
    clear BX0_3
    have BX1_4 := Lib.hid (BX1_3.out.step hb)
    clear BX1_3
    clear q qb hb
    go_wp2
    go_ret
    exact ⟨rfl, Bl_4.out⟩
  rw [leftOf_ok hz1] at HC1
  obtain ⟨l2, hl2⟩ : ∃ l2 : Int, l2 = l1 - ((esz st1 : Nat) : Int) := ⟨_, rfl⟩
  rw [← hl2] at HC1
  have hge2 : 0 ≤ l2 := by omega
  have hle2 : l2 ≤ 1048576 := by omega
  have hG0 : GB gs0 := GB.of_gsz (by omega)
  have hEB1 : EB st1 := EB.of_esz (by omega)
  have HSP := Lib.hid (top_spec_WriteEager gs0 st1 xs2 xs3 hG0 hEB1 (by omega) (by omega))
  have HIM := Lib.hid (top_impl_WriteEager gs0 st1 xs2 xs3 hG0 hEB1 (by omega) (by omega))
  have HEJ0 := Lib.hid (writeEJ gs0 st1 xs2 xs3)
  have heb0 := writeF_EB gs0 st1 xs2 xs3
  generalize writeF gs0 st1 xs2 xs3 = F0 at *
  obtain ⟨t0, hq0⟩ : ∃ t0 : Nat, t0 = ((rowsE F0).map List.length).sum := ⟨_, rfl⟩
  have htb0 : t0 ≤ 1048576 := by rw [hq0]; exact heb0.2.2.2.2
  have HQ0 := Lib.hid hq0
  have HEB0 := Lib.hid heb0
  clear hq0 heb0
  have ht0 : decide (F0 = F0) = true := by simp
  have hlen1 := writeR_len gs0 st1 xs2 xs3
  generalize writeR gs0 st1 xs2 xs3 = F1 at *
  have HL1 := Lib.hid hlen1
  clear hlen1
  have ht1 : decide (F1 = F1) = true := by simp
  have HN0 := Lib.hid hn0
  have HG0 := Lib.hid hG0
  have hx0 : decide (gs0 = gs0) = true := by simp
  have hnb0 : n0 ≤ 1048576 := by rw [hn0]; exact hG0.1
  have HN1 := Lib.hid hn1
  have HE1 := Lib.hid he1
  have HEG1 := Lib.hid hEB1
  have hx1 : decide (st1 = st1) = true := by simp
  have hnb1 : n1 ≤ 1048576 := by rw [hn1]; exact hEB1.1
  have HN2 := Lib.hid hn2
  have hx2 : decide (xs2 = xs2) = true := by simp
  have hnb2 : n2 ≤ 1048576 := by omega
  have HN3 := Lib.hid hn3
  have hx3 : decide (xs3 = xs3) = true := by simp
  have hnb3 : n3 ≤ 1048576 := by omega
  have S_0 : Hid (As 0 w.heap.size (fun wk => GS wk w.heap.size A0 gs0 ∧ ES wk w.heap.size A1 E1 st1 ∧ IS wk w.heap.size A2 xs2 ∧ IS wk w.heap.size A3 xs3) w) := ⟨⟨h0, h1, h2, h3⟩, Nat.le_refl _, ((GS.loc _ _ _).and ((ES.loc _ _ _ _).and ((IS.loc _ _ _).and (IS.loc _ _ _))))⟩
  have Bl_0 : Hid (Bl w w) := Bl.refl w
  have S_1 := Lib.hid (S_0.out.alloc (.cells #[.slice A0 n0 c0] 45))
  clear S_0
  have Bl_1 := Lib.hid (Bl_0.out.alloc (.cells #[.slice A0 n0 c0] 45))
  clear Bl_0
  have bx := box_new w (.slice A0 n0 c0) 45
  have BX0_1 := Lib.hid bx
  clear bx
  have S_2 := Lib.hid (S_1.out.alloc (.cells #[.slice A1 n1 c1, .slice E1 en1 ec1] 46))
  clear S_1
  have Bl_2 := Lib.hid (Bl_1.out.alloc (.cells #[.slice A1 n1 c1, .slice E1 en1 ec1] 46))
  clear Bl_1
  have BX0_2 := Lib.hid (BX0_1.out.alloc (.cells #[.slice A1 n1 c1, .slice E1 en1 ec1] 46))
  clear BX0_1
  have bx := box2_new (w.alloc (.cells #[.slice A0 n0 c0] 45)) (.slice A1 n1 c1) (.slice E1 en1 ec1) 46
  simp only [World.size_alloc] at bx
  have BX1_2 := Lib.hid bx
  clear bx
  have HLS := Lib.hid hl0
  subst hl0
  clear HLS hn0 h0 hp0 hn1 h1 he1 hp1 hn2 h2 hn3 h3 hl1 hl2 hz0 hz1 hG0 hEB1
  go_enter Tryz.func4, Tryz.ntmps4
  have q := BX0_2.out.it
  go_wp2_with fail
  refine (HC0.out _ Bl_2.out.le S_2.out.it.1).mono ?_
  rintro e w3 ⟨rfl, hb⟩
  have hs_3 : w.heap.size + 2 ≤ w3.heap.size := by have := hb.size; (try simp only [World.size_alloc] at this); omega
  have S_3 := Lib.hid (S_2.out.step hb)
  clear S_2
  have Bl_3 := Lib.hid (Bl_2.out.step hb)
  clear Bl_2
  have BX0_3 := Lib.hid (BX0_2.out.step hb)
  clear BX0_2
  have BX1_3 := Lib.hid (BX1_2.out.step hb)
  clear BX1_2
  clear q hb
  obtain ⟨q, qb⟩ := BX1_3.out.it
  go_wp2_with fail
  refine (HC1.out _ Bl_3.out.le S_3.out.it.2.1).mono ?_
  rintro e w4 ⟨rfl, hb⟩
  have hs_4 : w3.heap.size ≤ w4.heap.size := by have := hb.size; (try simp only [World.size_alloc] at this); omega
  have S_4 := Lib.hid (S_3.out.step hb)
  clear S_3
  have Bl_4 := Lib.hid (Bl_3.out.step hb)
  clear Bl_3
  have BX0_4 := Lib.hid (BX0_3.out.step hb)
  clear BX0_3
  have BX1_4 := Lib.hid (BX1_3.out.step hb)
  clear BX1_3
  clear q qb hb
  go_upto_region 12 with fail
  go_cut [10, 11] from 39 to 50 (fun tb t11 wx => ∃ (b lo hi : Nat) (BV0 : Option Addr) (mV0 dV0 : Nat) (BV1 : Option Addr) (dV1 : Nat) (CV : Option Addr) (mV dV : Nat), tb = .pointer (some ⟨b, 0, none⟩) ∧ t11 = .slice CV mV dV ∧ Hid (As lo hi (FJ lo hi BV0 mV0 dV0 BV1 dV1 CV mV dV F0 F1 1 0) wx) ∧ Hid (As b (b + 1) (fun w' => w'.cell? ⟨b, 0, none⟩ = some (.slice BV0 mV0 dV0) ∧ w'.cell? ⟨b, 1, none⟩ = some (.slice BV1 mV0 dV1)) wx) ∧ w4.heap.size ≤ lo ∧ w4.heap.size ≤ b ∧ (b < lo ∨ hi ≤ b) ∧ Hid (Below w4.heap.size w4 wx))
  have hla0 := S_4.out.le
  have hla1 := Bl_4.out.le
  have hla2 := BX0_4.out.le
  have hla3 := BX1_4.out.le
  case first =>
    have z0_4 := BX0_4.out.it
    obtain ⟨z1_4, z1_4b⟩ := BX1_4.out.it
    refine wp_region_held_drew (S := fun w' => w'.cell? ⟨w.heap.size, 0, none⟩ = some (.slice A0 n0 c0) ∧ w'.cell? ⟨w.heap.size + 1, 0, none⟩ = some (.slice A1 n1 c1) ∧ w'.cell? ⟨w.heap.size + 1, 1, none⟩ = some (.slice E1 en1 ec1)) (by kernel_rfl) ⟨z0_4, z1_4, z1_4b⟩ (fun hHeld => ?_)
    clear hHeld z0_4 z1_4 z1_4b
    obtain ⟨w5, hw5⟩ : ∃ W : World, W = w4.drew := ⟨_, rfl⟩
    have hb : Below w4.heap.size w4 w5 := by rw [hw5]; exact (Below.refl _ _).drew
    rw [← hw5]
    clear hw5
    have hbs5 : w4.heap.size ≤ w5.heap.size := hb.size
    have S_5 := Lib.hid (S_4.out.step hb)
    clear S_4
    have Bl_5 := Lib.hid (Bl_4.out.step hb)
    clear Bl_4
    have BX0_5 := Lib.hid (BX0_4.out.step hb)
    clear BX0_4
    have BX1_5 := Lib.hid (BX1_4.out.step hb)
    clear BX1_4
    have Bk_5 := Lib.hid hb
    clear hb
    have z0_5 := BX0_5.out.it
    obtain ⟨z1_5, z1_5b⟩ := BX1_5.out.it
    have hHeld : w5.cell? ⟨w.heap.size, 0, none⟩ = some (.slice A0 n0 c0) ∧ w5.cell? ⟨w.heap.size + 1, 0, none⟩ = some (.slice A1 n1 c1) ∧ w5.cell? ⟨w.heap.size + 1, 1, none⟩ = some (.slice E1 en1 ec1) := ⟨z0_5, z1_5, z1_5b⟩
    refine wpAnyH_take (i := 0) (oi := ⟨some 40, _, _, _, _, _⟩) (v := ?_) rfl (by as_aux_lemma => kernel_rfl) (by as_aux_lemma => kernel_rfl) (by as_aux_lemma => kernel_rfl) (fun _ _ _ h => h) (Or.inl ⟨by rfl, ?_⟩) (by assumption) ?_; rotate_left; (focus (intro w hSw; (try dsimp only at hSw); go_simp; (try with_reducible rfl))); (try simp only [Act.put, List.setIfInBounds_toArray]); (try dsimp only [List.set_cons_zero, List.set_cons_succ])
    refine wpAnyH_take (i := 2) (oi := ⟨some 42, _, _, _, _, _⟩) (v := ?_) rfl (by as_aux_lemma => kernel_rfl) (by as_aux_lemma => kernel_rfl) (by as_aux_lemma => kernel_rfl) (fun _ _ _ h => h) (Or.inl ⟨by rfl, ?_⟩) (by assumption) ?_; rotate_left; (focus (intro w hSw; (try dsimp only at hSw); go_simp; (try with_reducible rfl))); (try simp only [Act.put, List.setIfInBounds_toArray]); (try dsimp only [List.set_cons_zero, List.set_cons_succ])
    refine wpAnyH_take (i := 4) (oi := ⟨some 44, _, _, _, _, _⟩) (v := ?_) rfl (by as_aux_lemma => kernel_rfl) (by as_aux_lemma => kernel_rfl) (by as_aux_lemma => kernel_rfl) (fun _ _ _ h => h) (Or.inl ⟨by rfl, ?_⟩) (by assumption) ?_; rotate_left; (focus (intro w hSw; (try dsimp only at hSw); go_simp; (try with_reducible rfl))); (try simp only [Act.put, List.setIfInBounds_toArray]); (try dsimp only [List.set_cons_zero, List.set_cons_succ])
    refine wpAnyH_take (i := 6) (oi := ⟨some 46, _, _, _, _, _⟩) (v := ?_) rfl (by as_aux_lemma => kernel_rfl) (by as_aux_lemma => kernel_rfl) (by as_aux_lemma => kernel_rfl) (fun _ _ _ h => h) (Or.inl ⟨by rfl, ?_⟩) (by assumption) ?_; rotate_left; (focus (intro w hSw; (try dsimp only at hSw); go_simp; (try with_reducible rfl))); (try simp only [Act.put, List.setIfInBounds_toArray]); (try dsimp only [List.set_cons_zero, List.set_cons_succ])
    refine wpAnyH_ready (rs := [1, 12]) (by kernel_rfl) (by simp) ?_; refine AllReadyH.cons (o := ⟨some 41, _, _, _, _, _⟩) rfl (fun K hK => ?_) (AllReadyH.cons (o := ⟨some 10, _, _, _, _, _⟩) rfl (fun K hK => ?_) AllReadyH.nil)
    · go_simp
      go_at_call 19
      refine (laws_toGraph A0 n0 c0 gs0 _ w.heap.size Bl_5.out.le HN0.out S_5.out.it.1 HG0.out).mono ?_
      rintro e w6 ⟨B6, m6, d6, rfl, hn, hown, hb⟩
      have M6 := Lib.hid hn
      have NC6 := Lib.hid hown.ncap
      have hbs6 : w5.heap.size ≤ w6.heap.size := hb.size
      have S_6 := Lib.hid (S_5.out.step hb)
      clear S_5
      have Bl_6 := Lib.hid (Bl_5.out.step hb)
      clear Bl_5
      have BX0_6 := Lib.hid (BX0_5.out.step hb)
      clear BX0_5
      have BX1_6 := Lib.hid (BX1_5.out.step hb)
      clear BX1_5
      have Bk_6 := Lib.hid (Bk_5.out.trans (hb.mono (by omega)))
      clear Bk_5
      have X0_6 := Lib.hid (graph_start hown)
      clear hown hb hn
      clear z0_5 z1_5 z1_5b
      have z0_6 := BX0_6.out.it
      obtain ⟨z1_6, z1_6b⟩ := BX1_6.out.it
      refine hK.out _ _ ⟨z0_6, z1_6, z1_6b⟩ (fun hHeld => ?_); clear hK K; (try simp only [Act.put, List.setIfInBounds_toArray]); (try dsimp only [List.set_cons_zero, List.set_cons_succ])
      refine wpAnyH_ready (rs := [3, 12]) (by kernel_rfl) (by simp) ?_; refine AllReadyH.cons (o := ⟨some 43, _, _, _, _, _⟩) rfl (fun K hK => ?_) (AllReadyH.cons (o := ⟨some 10, _, _, _, _, _⟩) rfl (fun K hK => ?_) AllReadyH.nil)
      · go_simp
        go_at_call 20
        refine (laws_toEager A1 E1 n1 c1 en1 ec1 st1 _ w.heap.size Bl_6.out.le HN1.out HE1.out S_6.out.it.2.1 HEG1.out).mono ?_
        rintro e w7 ⟨B7, m7, d7, D7, em7, ed7, rfl, hown, hb⟩
        have hn := hown.1
        have hen := hown.2.1
        have M7 := Lib.hid hn
        have EM7 := Lib.hid hen
        have hbs7 : w6.heap.size ≤ w7.heap.size := hb.size
        have S_7 := Lib.hid (S_6.out.step hb)
        clear S_6
        have Bl_7 := Lib.hid (Bl_6.out.step hb)
        clear Bl_6
        have BX0_7 := Lib.hid (BX0_6.out.step hb)
        clear BX0_6
        have BX1_7 := Lib.hid (BX1_6.out.step hb)
        clear BX1_6
        have Bk_7 := Lib.hid (Bk_6.out.trans (hb.mono (by omega)))
        clear Bk_6
        have X0_7 := Lib.hid (X0_6.out.step hb)
        clear X0_6
        have X1_7 := Lib.hid (eager_start hown)
        clear hown hb hn hen
        clear z0_6 z1_6 z1_6b
        have z0_7 := BX0_7.out.it
        obtain ⟨z1_7, z1_7b⟩ := BX1_7.out.it
        refine hK.out _ _ ⟨z0_7, z1_7, z1_7b⟩ (fun hHeld => ?_); clear hK K; (try simp only [Act.put, List.setIfInBounds_toArray]); (try dsimp only [List.set_cons_zero, List.set_cons_succ])
        refine wpAnyH_ready (rs := [5, 12]) (by kernel_rfl) (by simp) ?_; refine AllReadyH.cons (o := ⟨some 45, _, _, _, _, _⟩) rfl (fun K hK => ?_) (AllReadyH.cons (o := ⟨some 10, _, _, _, _, _⟩) rfl (fun K hK => ?_) AllReadyH.nil)
        · go_simp
          go_at_call 21
          refine (laws_toIntS A2 n2 c2 xs2 _ w.heap.size Bl_7.out.le HN2.out S_7.out.it.2.2.1 (by omega)).mono ?_
          rintro e w8 ⟨rfl, hown, hb⟩
          have hbs8 : w7.heap.size ≤ w8.heap.size := hb.size
          have S_8 := Lib.hid (S_7.out.step hb)
          clear S_7
          have Bl_8 := Lib.hid (Bl_7.out.step hb)
          clear Bl_7
          have BX0_8 := Lib.hid (BX0_7.out.step hb)
          clear BX0_7
          have BX1_8 := Lib.hid (BX1_7.out.step hb)
          clear BX1_7
          have Bk_8 := Lib.hid (Bk_7.out.trans (hb.mono (by omega)))
          clear Bk_7
          have X0_8 := Lib.hid (X0_7.out.step hb)
          clear X0_7
          have X1_8 := Lib.hid (X1_7.out.step hb)
          clear X1_7
          have X2_8 := Lib.hid (row_start hown)
          clear hown hb
          clear z0_7 z1_7 z1_7b
          have z0_8 := BX0_8.out.it
          obtain ⟨z1_8, z1_8b⟩ := BX1_8.out.it
          refine hK.out _ _ ⟨z0_8, z1_8, z1_8b⟩ (fun hHeld => ?_); clear hK K; (try simp only [Act.put, List.setIfInBounds_toArray]); (try dsimp only [List.set_cons_zero, List.set_cons_succ])
          refine wpAnyH_ready (rs := [7, 12]) (by kernel_rfl) (by simp) ?_; refine AllReadyH.cons (o := ⟨some 47, _, _, _, _, _⟩) rfl (fun K hK => ?_) (AllReadyH.cons (o := ⟨some 10, _, _, _, _, _⟩) rfl (fun K hK => ?_) AllReadyH.nil)
          · go_simp
            go_at_call 21
            refine (laws_toIntS A3 n3 c3 xs3 _ w.heap.size Bl_8.out.le HN3.out S_8.out.it.2.2.2 (by omega)).mono ?_
            rintro e w9 ⟨rfl, hown, hb⟩
            have hbs9 : w8.heap.size ≤ w9.heap.size := hb.size
            have S_9 := Lib.hid (S_8.out.step hb)
            clear S_8
            have Bl_9 := Lib.hid (Bl_8.out.step hb)
            clear Bl_8
            have BX0_9 := Lib.hid (BX0_8.out.step hb)
            clear BX0_8
            have BX1_9 := Lib.hid (BX1_8.out.step hb)
            clear BX1_8
            have Bk_9 := Lib.hid (Bk_8.out.trans (hb.mono (by omega)))
            clear Bk_8
            have X0_9 := Lib.hid (X0_8.out.step hb)
            clear X0_8
            have X1_9 := Lib.hid (X1_8.out.step hb)
            clear X1_8
            have X2_9 := Lib.hid (X2_8.out.step hb)
            clear X2_8
            have X3_9 := Lib.hid (row_start hown)
            clear hown hb
            clear z0_8 z1_8 z1_8b
            have z0_9 := BX0_9.out.it
            obtain ⟨z1_9, z1_9b⟩ := BX1_9.out.it
            refine hK.out _ _ ⟨z0_9, z1_9, z1_9b⟩ (fun hHeld => ?_); clear hK K; (try simp only [Act.put, List.setIfInBounds_toArray]); (try dsimp only [List.set_cons_zero, List.set_cons_succ])
            refine wpAnyH_ready (rs := [8, 12]) (by kernel_rfl) (by simp) ?_; refine AllReadyH.cons (o := ⟨some 48, _, _, _, _, _⟩) rfl (fun K hK => ?_) (AllReadyH.cons (o := ⟨some 10, _, _, _, _, _⟩) rfl (fun K hK => ?_) AllReadyH.nil)
            · go_simp
              go_at_call 7
              refine (HSP.out B6 m6 d6 B7 m7 d7 D7 em7 ed7 _ n2 _ _ n3 _ _ M6.out NC6.out X0_9.out.graph M7.out EM7.out X1_9.out.eager HN2.out (Nat.le_refl _) X2_9.out.ints HN3.out (Nat.le_refl _) X3_9.out.ints).mono ?_
              rintro e w10 hret
              obtain ⟨BV0, mV0, dV0, BV1, dV1, CV, mV, dV, rfl, hown, hb⟩ := hret.joined
              have hbs10 : w9.heap.size ≤ w10.heap.size := hb.size
              clear X0_9
              clear X1_9
              clear X2_9
              clear X3_9
              have S_10 := Lib.hid (S_9.out.step hb)
              clear S_9
              have Bl_10 := Lib.hid (Bl_9.out.step hb)
              clear Bl_9
              have BX0_10 := Lib.hid (BX0_9.out.step hb)
              clear BX0_9
              have BX1_10 := Lib.hid (BX1_9.out.step hb)
              clear BX1_9
              have Bk_10 := Lib.hid (Bk_9.out.trans (hb.mono (by omega)))
              clear Bk_9
              have V_10 := Lib.hid hown
              clear hown hb
              clear z0_9 z1_9 z1_9b
              have z0_10 := BX0_10.out.it
              obtain ⟨z1_10, z1_10b⟩ := BX1_10.out.it
              refine hK.out _ _ ⟨z0_10, z1_10, z1_10b⟩ (fun hHeld => ?_); clear hK K; (try simp only [Act.put, List.setIfInBounds_toArray]); (try dsimp only [List.set_cons_zero, List.set_cons_succ])
              refine wpAnyH_take (i := 9) (oi := ⟨some 39, _, _, _, _, _⟩) (v := ?_) rfl (by as_aux_lemma => kernel_rfl) (by as_aux_lemma => kernel_rfl) (by as_aux_lemma => kernel_rfl) (fun _ _ _ h => h) (Or.inl ⟨by rfl, ?_⟩) (by assumption) ?_; rotate_left; (focus (intro w hSw; (try dsimp only at hSw); go_simp; (try with_reducible rfl))); (try simp only [Act.put, List.setIfInBounds_toArray]); (try dsimp only [List.set_cons_zero, List.set_cons_succ])
              refine wpAnyH_take (i := 10) (oi := ⟨some 49, _, _, _, _, _⟩) (v := ?_) rfl (by as_aux_lemma => kernel_rfl) (by as_aux_lemma => kernel_rfl) (by as_aux_lemma => kernel_rfl) (fun _ _ _ h => h) (Or.inl ⟨by rfl, ?_⟩) (by assumption) ?_; rotate_left; (focus (intro w hSw; (try dsimp only at hSw); go_simp; (try with_reducible rfl))); (try simp only [Act.put, List.setIfInBounds_toArray]); (try dsimp only [List.set_cons_zero, List.set_cons_succ])
              refine wpAnyH_take (i := 11) (oi := ⟨some 50, _, _, _, _, _⟩) (v := ?_) rfl (by as_aux_lemma => kernel_rfl) (by as_aux_lemma => kernel_rfl) (by as_aux_lemma => kernel_rfl) (fun _ _ _ h => h) (Or.inl ⟨by rfl, ?_⟩) (by assumption) ?_; rotate_left; (focus (intro w hSw; (try dsimp only at hSw); go_simp; (try with_reducible rfl))); (try simp only [Act.put, List.setIfInBounds_toArray]); (try dsimp only [List.set_cons_zero, List.set_cons_succ])
              refine wpAnyH_ready (rs := [12]) (by as_aux_lemma => kernel_rfl) (by simp) ?_; refine AllReadyH.cons (o := ⟨some 10, _, _, _, _, _⟩) rfl (fun K hK => ?_) AllReadyH.nil; go_simp
              obtain ⟨w11, hw11⟩ : ∃ W : World, W = w10.alloc (.cells #[.slice none 0 0, .slice none 0 0] 29) := ⟨_, rfl⟩
              have hb : Below w10.heap.size w10 w11 := by rw [hw11]; exact (Below.refl _ _).alloc (Nat.le_refl _) _
              have hbs11 : w11.heap.size = w10.heap.size + 1 := by rw [hw11]; simp
              have S_11 := Lib.hid (S_10.out.step hb)
              clear S_10
              have Bl_11 := Lib.hid (Bl_10.out.step hb)
              clear Bl_10
              have BX0_11 := Lib.hid (BX0_10.out.step hb)
              clear BX0_10
              have BX1_11 := Lib.hid (BX1_10.out.step hb)
              clear BX1_10
              have Bk_11 := Lib.hid (Bk_10.out.trans (hb.mono (by omega)))
              clear Bk_10
              have V_11 := Lib.hid (V_10.out.step hb)
              clear V_10
              have NB_11 : Hid (Bx w10.heap.size [.slice none 0 0, .slice none 0 0] w11) := by rw [hw11]; exact Bx.start w10 _ _
              have hbs11b : w10.heap.size < w11.heap.size := by omega
              clear hb z0_10 z1_10 z1_10b
              have z0_11 := BX0_11.out.it
              obtain ⟨z1_11, z1_11b⟩ := BX1_11.out.it
              rw [← hw11]
              clear hw11 hbs11
              refine hK.out _ _ ⟨z0_11, z1_11, z1_11b⟩ (fun hHeld => ?_); clear hK K; (try simp only [Act.put, List.setIfInBounds_toArray]); (try dsimp only [List.set_cons_zero, List.set_cons_succ])
              have hvl : w10.heap.size ≤ w11.heap.size := V_11.out.le
              have y0 := NB_11.out.c 0 _ rfl
              have x0 := NB_11.out.f 0
              have y1 := NB_11.out.c 1 _ rfl
              have x1 := NB_11.out.f 1
              refine wpAnyH_ready (rs := [13]) (by as_aux_lemma => kernel_rfl) (by simp) ?_; refine AllReadyH.cons (o := ⟨none, _, _, _, _, _⟩) rfl (fun K hK => ?_) AllReadyH.nil; go_simp
              obtain ⟨w12, hw12⟩ : ∃ W : World, W = ((w11.setCell ⟨w10.heap.size, 0, none⟩ (.slice BV0 mV0 dV0)).setCell ⟨w10.heap.size, 1, none⟩ (.slice BV1 mV0 dV1)) := ⟨_, rfl⟩
              have ht : Tch (w10.heap.size) (w10.heap.size + 1) w11 w12 := by rw [hw12]; exact ((Tch.refl _ _ _).trans (Bx.tch _ 0 _)).trans (Bx.tch _ 1 _)
              have NC : Hid (Bx (w10.heap.size) [.slice BV0 mV0 dV0, .slice BV1 mV0 dV1] w12) := by rw [hw12]; exact ((NB_11.out.set 0 (by simp) (.slice BV0 mV0 dV0)).set 1 (by simp) (.slice BV1 mV0 dV1))
              have hbs12 := ht.size
              have S_12 := Lib.hid (S_11.out.turn ht (by omega))
              clear S_11
              have Bl_12 := Lib.hid (Bl_11.out.turn ht (by omega))
              clear Bl_11
              have BX0_12 := Lib.hid (BX0_11.out.turn ht (by omega))
              clear BX0_11
              have BX1_12 := Lib.hid (BX1_11.out.turn ht (by omega))
              clear BX1_11
              have Bk_12 := Lib.hid (Bk_11.out.trans (ht.below (by omega) (by omega)))
              clear Bk_11
              have V_12 := Lib.hid (V_11.out.turn ht (by omega))
              clear V_11
              clear NB_11
              clear ht y0 x0 y1 x1 z0_11 z1_11 z1_11b
              have z0_12 := BX0_12.out.it
              obtain ⟨z1_12, z1_12b⟩ := BX1_12.out.it
              rw [← hw12]
              clear hw12
              refine hK.out _ _ ⟨z0_12, z1_12, z1_12b⟩ (fun hHeld => ?_); clear hK K; (try simp only [Act.put, List.setIfInBounds_toArray]); (try dsimp only [List.set_cons_zero, List.set_cons_succ])
              refine wpAnyH_ready (rs := [14]) (by as_aux_lemma => kernel_rfl) (by simp) ?_; refine AllReadyH.cons (o := ⟨some 11, _, _, _, _, _⟩) rfl (fun K hK => ?_) AllReadyH.nil; go_simp
              refine hK.out _ _ ⟨z0_12, z1_12, z1_12b⟩ (fun hHeld => ?_); clear hK K; (try simp only [Act.put, List.setIfInBounds_toArray]); (try dsimp only [List.set_cons_zero, List.set_cons_succ])
              refine wpAnyH_done (by kernel_rfl) ?_ _
              go_wp2_with fail
              go_meet
              exact ⟨w10.heap.size, w9.heap.size, w10.heap.size, _, _, _, _, _, _, _, _, rfl, rfl, V_12.out, Bx.as2 NC.out, by omega, by omega, by omega, Bk_12.out⟩
            · go_simp
              obtain ⟨w10, hw10⟩ : ∃ W : World, W = w9.alloc (.cells #[.slice none 0 0, .slice none 0 0] 29) := ⟨_, rfl⟩
              have hb : Below w9.heap.size w9 w10 := by rw [hw10]; exact (Below.refl _ _).alloc (Nat.le_refl _) _
              have hbs10 : w10.heap.size = w9.heap.size + 1 := by rw [hw10]; simp
              have S_10 := Lib.hid (S_9.out.step hb)
              clear S_9
              have Bl_10 := Lib.hid (Bl_9.out.step hb)
              clear Bl_9
              have BX0_10 := Lib.hid (BX0_9.out.step hb)
              clear BX0_9
              have BX1_10 := Lib.hid (BX1_9.out.step hb)
              clear BX1_9
              have Bk_10 := Lib.hid (Bk_9.out.trans (hb.mono (by omega)))
              clear Bk_9
              have X0_10 := Lib.hid (X0_9.out.step hb)
              clear X0_9
              have X1_10 := Lib.hid (X1_9.out.step hb)
              clear X1_9
              have X2_10 := Lib.hid (X2_9.out.step hb)
              clear X2_9
              have X3_10 := Lib.hid (X3_9.out.step hb)
              clear X3_9
              have NB_10 : Hid (Bx w9.heap.size [.slice none 0 0, .slice none 0 0] w10) := by rw [hw10]; exact Bx.start w9 _ _
              have hbs10b : w9.heap.size < w10.heap.size := by omega
              clear hb z0_9 z1_9 z1_9b
              have z0_10 := BX0_10.out.it
              obtain ⟨z1_10, z1_10b⟩ := BX1_10.out.it
              rw [← hw10]
              clear hw10 hbs10
              refine hK.out _ _ ⟨z0_10, z1_10, z1_10b⟩ (fun hHeld => ?_); clear hK K; (try simp only [Act.put, List.setIfInBounds_toArray]); (try dsimp only [List.set_cons_zero, List.set_cons_succ])
              refine wpAnyH_ready (rs := [8]) (by as_aux_lemma => kernel_rfl) (by simp) ?_; refine AllReadyH.cons (o := ⟨some 48, _, _, _, _, _⟩) rfl (fun K hK => ?_) AllReadyH.nil; go_simp
              go_at_call 7
              refine (HSP.out B6 m6 d6 B7 m7 d7 D7 em7 ed7 _ n2 _ _ n3 _ _ M6.out NC6.out X0_10.out.graph M7.out EM7.out X1_10.out.eager HN2.out (Nat.le_refl _) X2_10.out.ints HN3.out (Nat.le_refl _) X3_10.out.ints).mono ?_
              rintro e w11 hret
              obtain ⟨BV0, mV0, dV0, BV1, dV1, CV, mV, dV, rfl, hown, hb⟩ := hret.joined
              have hbs11 : w10.heap.size ≤ w11.heap.size := hb.size
              clear X0_10
              clear X1_10
              clear X2_10
              clear X3_10
              have S_11 := Lib.hid (S_10.out.step hb)
              clear S_10
              have Bl_11 := Lib.hid (Bl_10.out.step hb)
              clear Bl_10
              have BX0_11 := Lib.hid (BX0_10.out.step hb)
              clear BX0_10
              have BX1_11 := Lib.hid (BX1_10.out.step hb)
              clear BX1_10
              have Bk_11 := Lib.hid (Bk_10.out.trans (hb.mono (by omega)))
              clear Bk_10
              have NB_11 := Lib.hid (NB_10.out.step hb)
              clear NB_10
              have V_11 := Lib.hid hown
              clear hown hb
              clear z0_10 z1_10 z1_10b
              have z0_11 := BX0_11.out.it
              obtain ⟨z1_11, z1_11b⟩ := BX1_11.out.it
              refine hK.out _ _ ⟨z0_11, z1_11, z1_11b⟩ (fun hHeld => ?_); clear hK K; (try simp only [Act.put, List.setIfInBounds_toArray]); (try dsimp only [List.set_cons_zero, List.set_cons_succ])
              refine wpAnyH_take (i := 9) (oi := ⟨some 39, _, _, _, _, _⟩) (v := ?_) rfl (by as_aux_lemma => kernel_rfl) (by as_aux_lemma => kernel_rfl) (by as_aux_lemma => kernel_rfl) (fun _ _ _ h => h) (Or.inl ⟨by rfl, ?_⟩) (by assumption) ?_; rotate_left; (focus (intro w hSw; (try dsimp only at hSw); go_simp; (try with_reducible rfl))); (try simp only [Act.put, List.setIfInBounds_toArray]); (try dsimp only [List.set_cons_zero, List.set_cons_succ])
              refine wpAnyH_take (i := 10) (oi := ⟨some 49, _, _, _, _, _⟩) (v := ?_) rfl (by as_aux_lemma => kernel_rfl) (by as_aux_lemma => kernel_rfl) (by as_aux_lemma => kernel_rfl) (fun _ _ _ h => h) (Or.inl ⟨by rfl, ?_⟩) (by assumption) ?_; rotate_left; (focus (intro w hSw; (try dsimp only at hSw); go_simp; (try with_reducible rfl))); (try simp only [Act.put, List.setIfInBounds_toArray]); (try dsimp only [List.set_cons_zero, List.set_cons_succ])
              refine wpAnyH_take (i := 11) (oi := ⟨some 50, _, _, _, _, _⟩) (v := ?_) rfl (by as_aux_lemma => kernel_rfl) (by as_aux_lemma => kernel_rfl) (by as_aux_lemma => kernel_rfl) (fun _ _ _ h => h) (Or.inl ⟨by rfl, ?_⟩) (by assumption) ?_; rotate_left; (focus (intro w hSw; (try dsimp only at hSw); go_simp; (try with_reducible rfl))); (try simp only [Act.put, List.setIfInBounds_toArray]); (try dsimp only [List.set_cons_zero, List.set_cons_succ])
              have hvl : w11.heap.size ≤ w11.heap.size := V_11.out.le
              have y0 := NB_11.out.c 0 _ rfl
              have x0 := NB_11.out.f 0
              have y1 := NB_11.out.c 1 _ rfl
              have x1 := NB_11.out.f 1
              refine wpAnyH_ready (rs := [13]) (by as_aux_lemma => kernel_rfl) (by simp) ?_; refine AllReadyH.cons (o := ⟨none, _, _, _, _, _⟩) rfl (fun K hK => ?_) AllReadyH.nil; go_simp
              obtain ⟨w12, hw12⟩ : ∃ W : World, W = ((w11.setCell ⟨w9.heap.size, 0, none⟩ (.slice BV0 mV0 dV0)).setCell ⟨w9.heap.size, 1, none⟩ (.slice BV1 mV0 dV1)) := ⟨_, rfl⟩
              have ht : Tch (w9.heap.size) (w9.heap.size + 1) w11 w12 := by rw [hw12]; exact ((Tch.refl _ _ _).trans (Bx.tch _ 0 _)).trans (Bx.tch _ 1 _)
              have NC : Hid (Bx (w9.heap.size) [.slice BV0 mV0 dV0, .slice BV1 mV0 dV1] w12) := by rw [hw12]; exact ((NB_11.out.set 0 (by simp) (.slice BV0 mV0 dV0)).set 1 (by simp) (.slice BV1 mV0 dV1))
              have hbs12 := ht.size
              have S_12 := Lib.hid (S_11.out.turn ht (by omega))
              clear S_11
              have Bl_12 := Lib.hid (Bl_11.out.turn ht (by omega))
              clear Bl_11
              have BX0_12 := Lib.hid (BX0_11.out.turn ht (by omega))
              clear BX0_11
              have BX1_12 := Lib.hid (BX1_11.out.turn ht (by omega))
              clear BX1_11
              have Bk_12 := Lib.hid (Bk_11.out.trans (ht.below (by omega) (by omega)))
              clear Bk_11
              clear NB_11
              have V_12 := Lib.hid (V_11.out.turn ht (by omega))
              clear V_11
              clear ht y0 x0 y1 x1 z0_11 z1_11 z1_11b
              have z0_12 := BX0_12.out.it
              obtain ⟨z1_12, z1_12b⟩ := BX1_12.out.it
              rw [← hw12]
              clear hw12
              refine hK.out _ _ ⟨z0_12, z1_12, z1_12b⟩ (fun hHeld => ?_); clear hK K; (try simp only [Act.put, List.setIfInBounds_toArray]); (try dsimp only [List.set_cons_zero, List.set_cons_succ])
              refine wpAnyH_ready (rs := [14]) (by as_aux_lemma => kernel_rfl) (by simp) ?_; refine AllReadyH.cons (o := ⟨some 11, _, _, _, _, _⟩) rfl (fun K hK => ?_) AllReadyH.nil; go_simp
              refine hK.out _ _ ⟨z0_12, z1_12, z1_12b⟩ (fun hHeld => ?_); clear hK K; (try simp only [Act.put, List.setIfInBounds_toArray]); (try dsimp only [List.set_cons_zero, List.set_cons_succ])
              refine wpAnyH_done (by kernel_rfl) ?_ _
              go_wp2_with fail
              go_meet
              exact ⟨w9.heap.size, w10.heap.size, w11.heap.size, _, _, _, _, _, _, _, _, rfl, rfl, V_12.out, Bx.as2 NC.out, by omega, by omega, by omega, Bk_12.out⟩
          · go_simp
            obtain ⟨w9, hw9⟩ : ∃ W : World, W = w8.alloc (.cells #[.slice none 0 0, .slice none 0 0] 29) := ⟨_, rfl⟩
            have hb : Below w8.heap.size w8 w9 := by rw [hw9]; exact (Below.refl _ _).alloc (Nat.le_refl _) _
            have hbs9 : w9.heap.size = w8.heap.size + 1 := by rw [hw9]; simp
            have S_9 := Lib.hid (S_8.out.step hb)
            clear S_8
            have Bl_9 := Lib.hid (Bl_8.out.step hb)
            clear Bl_8
            have BX0_9 := Lib.hid (BX0_8.out.step hb)
            clear BX0_8
            have BX1_9 := Lib.hid (BX1_8.out.step hb)
            clear BX1_8
            have Bk_9 := Lib.hid (Bk_8.out.trans (hb.mono (by omega)))
            clear Bk_8
            have X0_9 := Lib.hid (X0_8.out.step hb)
            clear X0_8
            have X1_9 := Lib.hid (X1_8.out.step hb)
            clear X1_8
            have X2_9 := Lib.hid (X2_8.out.step hb)
            clear X2_8
            have NB_9 : Hid (Bx w8.heap.size [.slice none 0 0, .slice none 0 0] w9) := by rw [hw9]; exact Bx.start w8 _ _
            have hbs9b : w8.heap.size < w9.heap.size := by omega
            clear hb z0_8 z1_8 z1_8b
            have z0_9 := BX0_9.out.it
            obtain ⟨z1_9, z1_9b⟩ := BX1_9.out.it
            rw [← hw9]
            clear hw9 hbs9
            refine hK.out _ _ ⟨z0_9, z1_9, z1_9b⟩ (fun hHeld => ?_); clear hK K; (try simp only [Act.put, List.setIfInBounds_toArray]); (try dsimp only [List.set_cons_zero, List.set_cons_succ])
            refine wpAnyH_ready (rs := [7]) (by as_aux_lemma => kernel_rfl) (by simp) ?_; refine AllReadyH.cons (o := ⟨some 47, _, _, _, _, _⟩) rfl (fun K hK => ?_) AllReadyH.nil; go_simp
            go_at_call 21
            refine (laws_toIntS A3 n3 c3 xs3 _ w.heap.size Bl_9.out.le HN3.out S_9.out.it.2.2.2 (by omega)).mono ?_
            rintro e w10 ⟨rfl, hown, hb⟩
            have hbs10 : w9.heap.size ≤ w10.heap.size := hb.size
            have S_10 := Lib.hid (S_9.out.step hb)
            clear S_9
            have Bl_10 := Lib.hid (Bl_9.out.step hb)
            clear Bl_9
            have BX0_10 := Lib.hid (BX0_9.out.step hb)
            clear BX0_9
            have BX1_10 := Lib.hid (BX1_9.out.step hb)
            clear BX1_9
            have Bk_10 := Lib.hid (Bk_9.out.trans (hb.mono (by omega)))
            clear Bk_9
            have X0_10 := Lib.hid (X0_9.out.step hb)
            clear X0_9
            have X1_10 := Lib.hid (X1_9.out.step hb)
            clear X1_9
            have X2_10 := Lib.hid (X2_9.out.step hb)
            clear X2_9
            have NB_10 := Lib.hid (NB_9.out.step hb)
            clear NB_9
            have X3_10 := Lib.hid (row_start hown)
            clear hown hb
            clear z0_9 z1_9 z1_9b
            have z0_10 := BX0_10.out.it
            obtain ⟨z1_10, z1_10b⟩ := BX1_10.out.it
            refine hK.out _ _ ⟨z0_10, z1_10, z1_10b⟩ (fun hHeld => ?_); clear hK K; (try simp only [Act.put, List.setIfInBounds_toArray]); (try dsimp only [List.set_cons_zero, List.set_cons_succ])
            refine wpAnyH_ready (rs := [8]) (by as_aux_lemma => kernel_rfl) (by simp) ?_; refine AllReadyH.cons (o := ⟨some 48, _, _, _, _, _⟩) rfl (fun K hK => ?_) AllReadyH.nil; go_simp
            go_at_call 7
            refine (HSP.out B6 m6 d6 B7 m7 d7 D7 em7 ed7 _ n2 _ _ n3 _ _ M6.out NC6.out X0_10.out.graph M7.out EM7.out X1_10.out.eager HN2.out (Nat.le_refl _) X2_10.out.ints HN3.out (Nat.le_refl _) X3_10.out.ints).mono ?_
            rintro e w11 hret
            obtain ⟨BV0, mV0, dV0, BV1, dV1, CV, mV, dV, rfl, hown, hb⟩ := hret.joined
            have hbs11 : w10.heap.size ≤ w11.heap.size := hb.size
            clear X0_10
            clear X1_10
            clear X2_10
            clear X3_10
            have S_11 := Lib.hid (S_10.out.step hb)
            clear S_10
            have Bl_11 := Lib.hid (Bl_10.out.step hb)
            clear Bl_10
            have BX0_11 := Lib.hid (BX0_10.out.step hb)
            clear BX0_10
            have BX1_11 := Lib.hid (BX1_10.out.step hb)
            clear BX1_10
            have Bk_11 := Lib.hid (Bk_10.out.trans (hb.mono (by omega)))
            clear Bk_10
            have NB_11 := Lib.hid (NB_10.out.step hb)
            clear NB_10
            have V_11 := Lib.hid hown
            clear hown hb
            clear z0_10 z1_10 z1_10b
            have z0_11 := BX0_11.out.it
            obtain ⟨z1_11, z1_11b⟩ := BX1_11.out.it
            refine hK.out _ _ ⟨z0_11, z1_11, z1_11b⟩ (fun hHeld => ?_); clear hK K; (try simp only [Act.put, List.setIfInBounds_toArray]); (try dsimp only [List.set_cons_zero, List.set_cons_succ])
            refine wpAnyH_take (i := 9) (oi := ⟨some 39, _, _, _, _, _⟩) (v := ?_) rfl (by as_aux_lemma => kernel_rfl) (by as_aux_lemma => kernel_rfl) (by as_aux_lemma => kernel_rfl) (fun _ _ _ h => h) (Or.inl ⟨by rfl, ?_⟩) (by assumption) ?_; rotate_left; (focus (intro w hSw; (try dsimp only at hSw); go_simp; (try with_reducible rfl))); (try simp only [Act.put, List.setIfInBounds_toArray]); (try dsimp only [List.set_cons_zero, List.set_cons_succ])
            refine wpAnyH_take (i := 10) (oi := ⟨some 49, _, _, _, _, _⟩) (v := ?_) rfl (by as_aux_lemma => kernel_rfl) (by as_aux_lemma => kernel_rfl) (by as_aux_lemma => kernel_rfl) (fun _ _ _ h => h) (Or.inl ⟨by rfl, ?_⟩) (by assumption) ?_; rotate_left; (focus (intro w hSw; (try dsimp only at hSw); go_simp; (try with_reducible rfl))); (try simp only [Act.put, List.setIfInBounds_toArray]); (try dsimp only [List.set_cons_zero, List.set_cons_succ])
            refine wpAnyH_take (i := 11) (oi := ⟨some 50, _, _, _, _, _⟩) (v := ?_) rfl (by as_aux_lemma => kernel_rfl) (by as_aux_lemma => kernel_rfl) (by as_aux_lemma => kernel_rfl) (fun _ _ _ h => h) (Or.inl ⟨by rfl, ?_⟩) (by assumption) ?_; rotate_left; (focus (intro w hSw; (try dsimp only at hSw); go_simp; (try with_reducible rfl))); (try simp only [Act.put, List.setIfInBounds_toArray]); (try dsimp only [List.set_cons_zero, List.set_cons_succ])
            have hvl : w11.heap.size ≤ w11.heap.size := V_11.out.le
            have y0 := NB_11.out.c 0 _ rfl
            have x0 := NB_11.out.f 0
            have y1 := NB_11.out.c 1 _ rfl
            have x1 := NB_11.out.f 1
            refine wpAnyH_ready (rs := [13]) (by as_aux_lemma => kernel_rfl) (by simp) ?_; refine AllReadyH.cons (o := ⟨none, _, _, _, _, _⟩) rfl (fun K hK => ?_) AllReadyH.nil; go_simp
            obtain ⟨w12, hw12⟩ : ∃ W : World, W = ((w11.setCell ⟨w8.heap.size, 0, none⟩ (.slice BV0 mV0 dV0)).setCell ⟨w8.heap.size, 1, none⟩ (.slice BV1 mV0 dV1)) := ⟨_, rfl⟩
            have ht : Tch (w8.heap.size) (w8.heap.size + 1) w11 w12 := by rw [hw12]; exact ((Tch.refl _ _ _).trans (Bx.tch _ 0 _)).trans (Bx.tch _ 1 _)
            have NC : Hid (Bx (w8.heap.size) [.slice BV0 mV0 dV0, .slice BV1 mV0 dV1] w12) := by rw [hw12]; exact ((NB_11.out.set 0 (by simp) (.slice BV0 mV0 dV0)).set 1 (by simp) (.slice BV1 mV0 dV1))
            have hbs12 := ht.size
            have S_12 := Lib.hid (S_11.out.turn ht (by omega))
            clear S_11
            have Bl_12 := Lib.hid (Bl_11.out.turn ht (by omega))
            clear Bl_11
            have BX0_12 := Lib.hid (BX0_11.out.turn ht (by omega))
            clear BX0_11
            have BX1_12 := Lib.hid (BX1_11.out.turn ht (by omega))
            clear BX1_11
            have Bk_12 := Lib.hid (Bk_11.out.trans (ht.below (by omega) (by omega)))
            clear Bk_11
            clear NB_11
            have V_12 := Lib.hid (V_11.out.turn ht (by omega))
            clear V_11
            clear ht y0 x0 y1 x1 z0_11 z1_11 z1_11b
            have z0_12 := BX0_12.out.it
            obtain ⟨z1_12, z1_12b⟩ := BX1_12.out.it
            rw [← hw12]
            clear hw12
            refine hK.out _ _ ⟨z0_12, z1_12, z1_12b⟩ (fun hHeld => ?_); clear hK K; (try simp only [Act.put, List.setIfInBounds_toArray]); (try dsimp only [List.set_cons_zero, List.set_cons_succ])
            refine wpAnyH_ready (rs := [14]) (by as_aux_lemma => kernel_rfl) (by simp) ?_; refine AllReadyH.cons (o := ⟨some 11, _, _, _, _, _⟩) rfl (fun K hK => ?_) AllReadyH.nil; go_simp
            refine hK.out _ _ ⟨z0_12, z1_12, z1_12b⟩ (fun hHeld => ?_); clear hK K; (try simp only [Act.put, List.setIfInBounds_toArray]); (try dsimp only [List.set_cons_zero, List.set_cons_succ])
            refine wpAnyH_done (by kernel_rfl) ?_ _
            go_wp2_with fail
            go_meet
            exact ⟨w8.heap.size, w10.heap.size, w11.heap.size, _, _, _, _, _, _, _, _, rfl, rfl, V_12.out, Bx.as2 NC.out, by omega, by omega, by omega, Bk_12.out⟩
        · go_simp
          obtain ⟨w8, hw8⟩ : ∃ W : World, W = w7.alloc (.cells #[.slice none 0 0, .slice none 0 0] 29) := ⟨_, rfl⟩
          have hb : Below w7.heap.size w7 w8 := by rw [hw8]; exact (Below.refl _ _).alloc (Nat.le_refl _) _
          have hbs8 : w8.heap.size = w7.heap.size + 1 := by rw [hw8]; simp
          have S_8 := Lib.hid (S_7.out.step hb)
          clear S_7
          have Bl_8 := Lib.hid (Bl_7.out.step hb)
          clear Bl_7
          have BX0_8 := Lib.hid (BX0_7.out.step hb)
          clear BX0_7
          have BX1_8 := Lib.hid (BX1_7.out.step hb)
          clear BX1_7
          have Bk_8 := Lib.hid (Bk_7.out.trans (hb.mono (by omega)))
          clear Bk_7
          have X0_8 := Lib.hid (X0_7.out.step hb)
          clear X0_7
          have X1_8 := Lib.hid (X1_7.out.step hb)
          clear X1_7
          have NB_8 : Hid (Bx w7.heap.size [.slice none 0 0, .slice none 0 0] w8) := by rw [hw8]; exact Bx.start w7 _ _
          have hbs8b : w7.heap.size < w8.heap.size := by omega
          clear hb z0_7 z1_7 z1_7b
          have z0_8 := BX0_8.out.it
          obtain ⟨z1_8, z1_8b⟩ := BX1_8.out.it
          rw [← hw8]
          clear hw8 hbs8
          refine hK.out _ _ ⟨z0_8, z1_8, z1_8b⟩ (fun hHeld => ?_); clear hK K; (try simp only [Act.put, List.setIfInBounds_toArray]); (try dsimp only [List.set_cons_zero, List.set_cons_succ])
          refine wpAnyH_ready (rs := [5]) (by as_aux_lemma => kernel_rfl) (by simp) ?_; refine AllReadyH.cons (o := ⟨some 45, _, _, _, _, _⟩) rfl (fun K hK => ?_) AllReadyH.nil; go_simp
          go_at_call 21
          refine (laws_toIntS A2 n2 c2 xs2 _ w.heap.size Bl_8.out.le HN2.out S_8.out.it.2.2.1 (by omega)).mono ?_
          rintro e w9 ⟨rfl, hown, hb⟩
          have hbs9 : w8.heap.size ≤ w9.heap.size := hb.size
          have S_9 := Lib.hid (S_8.out.step hb)
          clear S_8
          have Bl_9 := Lib.hid (Bl_8.out.step hb)
          clear Bl_8
          have BX0_9 := Lib.hid (BX0_8.out.step hb)
          clear BX0_8
          have BX1_9 := Lib.hid (BX1_8.out.step hb)
          clear BX1_8
          have Bk_9 := Lib.hid (Bk_8.out.trans (hb.mono (by omega)))
          clear Bk_8
          have X0_9 := Lib.hid (X0_8.out.step hb)
          clear X0_8
          have X1_9 := Lib.hid (X1_8.out.step hb)
          clear X1_8
          have NB_9 := Lib.hid (NB_8.out.step hb)
          clear NB_8
          have X2_9 := Lib.hid (row_start hown)
          clear hown hb
          clear z0_8 z1_8 z1_8b
          have z0_9 := BX0_9.out.it
          obtain ⟨z1_9, z1_9b⟩ := BX1_9.out.it
          refine hK.out _ _ ⟨z0_9, z1_9, z1_9b⟩ (fun hHeld => ?_); clear hK K; (try simp only [Act.put, List.setIfInBounds_toArray]); (try dsimp only [List.set_cons_zero, List.set_cons_succ])
          refine wpAnyH_ready (rs := [7]) (by as_aux_lemma => kernel_rfl) (by simp) ?_; refine AllReadyH.cons (o := ⟨some 47, _, _, _, _, _⟩) rfl (fun K hK => ?_) AllReadyH.nil; go_simp
          go_at_call 21
          refine (laws_toIntS A3 n3 c3 xs3 _ w.heap.size Bl_9.out.le HN3.out S_9.out.it.2.2.2 (by omega)).mono ?_
          rintro e w10 ⟨rfl, hown, hb⟩
          have hbs10 : w9.heap.size ≤ w10.heap.size := hb.size
          have S_10 := Lib.hid (S_9.out.step hb)
          clear S_9
          have Bl_10 := Lib.hid (Bl_9.out.step hb)
          clear Bl_9
          have BX0_10 := Lib.hid (BX0_9.out.step hb)
          clear BX0_9
          have BX1_10 := Lib.hid (BX1_9.out.step hb)
          clear BX1_9
          have Bk_10 := Lib.hid (Bk_9.out.trans (hb.mono (by omega)))
          clear Bk_9
          have X0_10 := Lib.hid (X0_9.out.step hb)
          clear X0_9
          have X1_10 := Lib.hid (X1_9.out.step hb)
          clear X1_9
          have NB_10 := Lib.hid (NB_9.out.step hb)
          clear NB_9
          have X2_10 := Lib.hid (X2_9.out.step hb)
          clear X2_9
          have X3_10 := Lib.hid (row_start hown)
          clear hown hb
          clear z0_9 z1_9 z1_9b
          have z0_10 := BX0_10.out.it
          obtain ⟨z1_10, z1_10b⟩ := BX1_10.out.it
          refine hK.out _ _ ⟨z0_10, z1_10, z1_10b⟩ (fun hHeld => ?_); clear hK K; (try simp only [Act.put, List.setIfInBounds_toArray]); (try dsimp only [List.set_cons_zero, List.set_cons_succ])
          refine wpAnyH_ready (rs := [8]) (by as_aux_lemma => kernel_rfl) (by simp) ?_; refine AllReadyH.cons (o := ⟨some 48, _, _, _, _, _⟩) rfl (fun K hK => ?_) AllReadyH.nil; go_simp
          go_at_call 7
          refine (HSP.out B6 m6 d6 B7 m7 d7 D7 em7 ed7 _ n2 _ _ n3 _ _ M6.out NC6.out X0_10.out.graph M7.out EM7.out X1_10.out.eager HN2.out (Nat.le_refl _) X2_10.out.ints HN3.out (Nat.le_refl _) X3_10.out.ints).mono ?_
          rintro e w11 hret
          obtain ⟨BV0, mV0, dV0, BV1, dV1, CV, mV, dV, rfl, hown, hb⟩ := hret.joined
          have hbs11 : w10.heap.size ≤ w11.heap.size := hb.size
          clear X0_10
          clear X1_10
          clear X2_10
          clear X3_10
          have S_11 := Lib.hid (S_10.out.step hb)
          clear S_10
          have Bl_11 := Lib.hid (Bl_10.out.step hb)
          clear Bl_10
          have BX0_11 := Lib.hid (BX0_10.out.step hb)
          clear BX0_10
          have BX1_11 := Lib.hid (BX1_10.out.step hb)
          clear BX1_10
          have Bk_11 := Lib.hid (Bk_10.out.trans (hb.mono (by omega)))
          clear Bk_10
          have NB_11 := Lib.hid (NB_10.out.step hb)
          clear NB_10
          have V_11 := Lib.hid hown
          clear hown hb
          clear z0_10 z1_10 z1_10b
          have z0_11 := BX0_11.out.it
          obtain ⟨z1_11, z1_11b⟩ := BX1_11.out.it
          refine hK.out _ _ ⟨z0_11, z1_11, z1_11b⟩ (fun hHeld => ?_); clear hK K; (try simp only [Act.put, List.setIfInBounds_toArray]); (try dsimp only [List.set_cons_zero, List.set_cons_succ])
          refine wpAnyH_take (i := 9) (oi := ⟨some 39, _, _, _, _, _⟩) (v := ?_) rfl (by as_aux_lemma => kernel_rfl) (by as_aux_lemma => kernel_rfl) (by as_aux_lemma => kernel_rfl) (fun _ _ _ h => h) (Or.inl ⟨by rfl, ?_⟩) (by assumption) ?_; rotate_left; (focus (intro w hSw; (try dsimp only at hSw); go_simp; (try with_reducible rfl))); (try simp only [Act.put, List.setIfInBounds_toArray]); (try dsimp only [List.set_cons_zero, List.set_cons_succ])
          refine wpAnyH_take (i := 10) (oi := ⟨some 49, _, _, _, _, _⟩) (v := ?_) rfl (by as_aux_lemma => kernel_rfl) (by as_aux_lemma => kernel_rfl) (by as_aux_lemma => kernel_rfl) (fun _ _ _ h => h) (Or.inl ⟨by rfl, ?_⟩) (by assumption) ?_; rotate_left; (focus (intro w hSw; (try dsimp only at hSw); go_simp; (try with_reducible rfl))); (try simp only [Act.put, List.setIfInBounds_toArray]); (try dsimp only [List.set_cons_zero, List.set_cons_succ])
          refine wpAnyH_take (i := 11) (oi := ⟨some 50, _, _, _, _, _⟩) (v := ?_) rfl (by as_aux_lemma => kernel_rfl) (by as_aux_lemma => kernel_rfl) (by as_aux_lemma => kernel_rfl) (fun _ _ _ h => h) (Or.inl ⟨by rfl, ?_⟩) (by assumption) ?_; rotate_left; (focus (intro w hSw; (try dsimp only at hSw); go_simp; (try with_reducible rfl))); (try simp only [Act.put, List.setIfInBounds_toArray]); (try dsimp only [List.set_cons_zero, List.set_cons_succ])
          have hvl : w11.heap.size ≤ w11.heap.size := V_11.out.le
          have y0 := NB_11.out.c 0 _ rfl
          have x0 := NB_11.out.f 0
          have y1 := NB_11.out.c 1 _ rfl
          have x1 := NB_11.out.f 1
          refine wpAnyH_ready (rs := [13]) (by as_aux_lemma => kernel_rfl) (by simp) ?_; refine AllReadyH.cons (o := ⟨none, _, _, _, _, _⟩) rfl (fun K hK => ?_) AllReadyH.nil; go_simp
          obtain ⟨w12, hw12⟩ : ∃ W : World, W = ((w11.setCell ⟨w7.heap.size, 0, none⟩ (.slice BV0 mV0 dV0)).setCell ⟨w7.heap.size, 1, none⟩ (.slice BV1 mV0 dV1)) := ⟨_, rfl⟩
          have ht : Tch (w7.heap.size) (w7.heap.size + 1) w11 w12 := by rw [hw12]; exact ((Tch.refl _ _ _).trans (Bx.tch _ 0 _)).trans (Bx.tch _ 1 _)
          have NC : Hid (Bx (w7.heap.size) [.slice BV0 mV0 dV0, .slice BV1 mV0 dV1] w12) := by rw [hw12]; exact ((NB_11.out.set 0 (by simp) (.slice BV0 mV0 dV0)).set 1 (by simp) (.slice BV1 mV0 dV1))
          have hbs12 := ht.size
          have S_12 := Lib.hid (S_11.out.turn ht (by omega))
          clear S_11
          have Bl_12 := Lib.hid (Bl_11.out.turn ht (by omega))
          clear Bl_11
          have BX0_12 := Lib.hid (BX0_11.out.turn ht (by omega))
          clear BX0_11
          have BX1_12 := Lib.hid (BX1_11.out.turn ht (by omega))
          clear BX1_11
          have Bk_12 := Lib.hid (Bk_11.out.trans (ht.below (by omega) (by omega)))
          clear Bk_11
          clear NB_11
          have V_12 := Lib.hid (V_11.out.turn ht (by omega))
          clear V_11
          clear ht y0 x0 y1 x1 z0_11 z1_11 z1_11b
          have z0_12 := BX0_12.out.it
          obtain ⟨z1_12, z1_12b⟩ := BX1_12.out.it
          rw [← hw12]
          clear hw12
          refine hK.out _ _ ⟨z0_12, z1_12, z1_12b⟩ (fun hHeld => ?_); clear hK K; (try simp only [Act.put, List.setIfInBounds_toArray]); (try dsimp only [List.set_cons_zero, List.set_cons_succ])
          refine wpAnyH_ready (rs := [14]) (by as_aux_lemma => kernel_rfl) (by simp) ?_; refine AllReadyH.cons (o := ⟨some 11, _, _, _, _, _⟩) rfl (fun K hK => ?_) AllReadyH.nil; go_simp
          refine hK.out _ _ ⟨z0_12, z1_12, z1_12b⟩ (fun hHeld => ?_); clear hK K; (try simp only [Act.put, List.setIfInBounds_toArray]); (try dsimp only [List.set_cons_zero, List.set_cons_succ])
          refine wpAnyH_done (by kernel_rfl) ?_ _
          go_wp2_with fail
          go_meet
          exact ⟨w7.heap.size, w10.heap.size, w11.heap.size, _, _, _, _, _, _, _, _, rfl, rfl, V_12.out, Bx.as2 NC.out, by omega, by omega, by omega, Bk_12.out⟩
      · go_simp
        obtain ⟨w7, hw7⟩ : ∃ W : World, W = w6.alloc (.cells #[.slice none 0 0, .slice none 0 0] 29) := ⟨_, rfl⟩
        have hb : Below w6.heap.size w6 w7 := by rw [hw7]; exact (Below.refl _ _).alloc (Nat.le_refl _) _
        have hbs7 : w7.heap.size = w6.heap.size + 1 := by rw [hw7]; simp
        have S_7 := Lib.hid (S_6.out.step hb)
        clear S_6
        have Bl_7 := Lib.hid (Bl_6.out.step hb)
        clear Bl_6
        have BX0_7 := Lib.hid (BX0_6.out.step hb)
        clear BX0_6
        have BX1_7 := Lib.hid (BX1_6.out.step hb)
        clear BX1_6
        have Bk_7 := Lib.hid (Bk_6.out.trans (hb.mono (by omega)))
        clear Bk_6
        have X0_7 := Lib.hid (X0_6.out.step hb)
        clear X0_6
        have NB_7 : Hid (Bx w6.heap.size [.slice none 0 0, .slice none 0 0] w7) := by rw [hw7]; exact Bx.start w6 _ _
        have hbs7b : w6.heap.size < w7.heap.size := by omega
        clear hb z0_6 z1_6 z1_6b
        have z0_7 := BX0_7.out.it
        obtain ⟨z1_7, z1_7b⟩ := BX1_7.out.it
        rw [← hw7]
        clear hw7 hbs7
        refine hK.out _ _ ⟨z0_7, z1_7, z1_7b⟩ (fun hHeld => ?_); clear hK K; (try simp only [Act.put, List.setIfInBounds_toArray]); (try dsimp only [List.set_cons_zero, List.set_cons_succ])
        refine wpAnyH_ready (rs := [3]) (by as_aux_lemma => kernel_rfl) (by simp) ?_; refine AllReadyH.cons (o := ⟨some 43, _, _, _, _, _⟩) rfl (fun K hK => ?_) AllReadyH.nil; go_simp
        go_at_call 20
        refine (laws_toEager A1 E1 n1 c1 en1 ec1 st1 _ w.heap.size Bl_7.out.le HN1.out HE1.out S_7.out.it.2.1 HEG1.out).mono ?_
        rintro e w8 ⟨B8, m8, d8, D8, em8, ed8, rfl, hown, hb⟩
        have hn := hown.1
        have hen := hown.2.1
        have M8 := Lib.hid hn
        have EM8 := Lib.hid hen
        have hbs8 : w7.heap.size ≤ w8.heap.size := hb.size
        have S_8 := Lib.hid (S_7.out.step hb)
        clear S_7
        have Bl_8 := Lib.hid (Bl_7.out.step hb)
        clear Bl_7
        have BX0_8 := Lib.hid (BX0_7.out.step hb)
        clear BX0_7
        have BX1_8 := Lib.hid (BX1_7.out.step hb)
        clear BX1_7
        have Bk_8 := Lib.hid (Bk_7.out.trans (hb.mono (by omega)))
        clear Bk_7
        have X0_8 := Lib.hid (X0_7.out.step hb)
        clear X0_7
        have NB_8 := Lib.hid (NB_7.out.step hb)
        clear NB_7
        have X1_8 := Lib.hid (eager_start hown)
        clear hown hb hn hen
        clear z0_7 z1_7 z1_7b
        have z0_8 := BX0_8.out.it
        obtain ⟨z1_8, z1_8b⟩ := BX1_8.out.it
        refine hK.out _ _ ⟨z0_8, z1_8, z1_8b⟩ (fun hHeld => ?_); clear hK K; (try simp only [Act.put, List.setIfInBounds_toArray]); (try dsimp only [List.set_cons_zero, List.set_cons_succ])
        refine wpAnyH_ready (rs := [5]) (by as_aux_lemma => kernel_rfl) (by simp) ?_; refine AllReadyH.cons (o := ⟨some 45, _, _, _, _, _⟩) rfl (fun K hK => ?_) AllReadyH.nil; go_simp
        go_at_call 21
        refine (laws_toIntS A2 n2 c2 xs2 _ w.heap.size Bl_8.out.le HN2.out S_8.out.it.2.2.1 (by omega)).mono ?_
        rintro e w9 ⟨rfl, hown, hb⟩
        have hbs9 : w8.heap.size ≤ w9.heap.size := hb.size
        have S_9 := Lib.hid (S_8.out.step hb)
        clear S_8
        have Bl_9 := Lib.hid (Bl_8.out.step hb)
        clear Bl_8
        have BX0_9 := Lib.hid (BX0_8.out.step hb)
        clear BX0_8
        have BX1_9 := Lib.hid (BX1_8.out.step hb)
        clear BX1_8
        have Bk_9 := Lib.hid (Bk_8.out.trans (hb.mono (by omega)))
        clear Bk_8
        have X0_9 := Lib.hid (X0_8.out.step hb)
        clear X0_8
        have NB_9 := Lib.hid (NB_8.out.step hb)
        clear NB_8
        have X1_9 := Lib.hid (X1_8.out.step hb)
        clear X1_8
        have X2_9 := Lib.hid (row_start hown)
        clear hown hb
        clear z0_8 z1_8 z1_8b
        have z0_9 := BX0_9.out.it
        obtain ⟨z1_9, z1_9b⟩ := BX1_9.out.it
        refine hK.out _ _ ⟨z0_9, z1_9, z1_9b⟩ (fun hHeld => ?_); clear hK K; (try simp only [Act.put, List.setIfInBounds_toArray]); (try dsimp only [List.set_cons_zero, List.set_cons_succ])
        refine wpAnyH_ready (rs := [7]) (by as_aux_lemma => kernel_rfl) (by simp) ?_; refine AllReadyH.cons (o := ⟨some 47, _, _, _, _, _⟩) rfl (fun K hK => ?_) AllReadyH.nil; go_simp
        go_at_call 21
        refine (laws_toIntS A3 n3 c3 xs3 _ w.heap.size Bl_9.out.le HN3.out S_9.out.it.2.2.2 (by omega)).mono ?_
        rintro e w10 ⟨rfl, hown, hb⟩
        have hbs10 : w9.heap.size ≤ w10.heap.size := hb.size
        have S_10 := Lib.hid (S_9.out.step hb)
        clear S_9
        have Bl_10 := Lib.hid (Bl_9.out.step hb)
        clear Bl_9
        have BX0_10 := Lib.hid (BX0_9.out.step hb)
        clear BX0_9
        have BX1_10 := Lib.hid (BX1_9.out.step hb)
        clear BX1_9
        have Bk_10 := Lib.hid (Bk_9.out.trans (hb.mono (by omega)))
        clear Bk_9
        have X0_10 := Lib.hid (X0_9.out.step hb)
        clear X0_9
        have NB_10 := Lib.hid (NB_9.out.step hb)
        clear NB_9
        have X1_10 := Lib.hid (X1_9.out.step hb)
        clear X1_9
        have X2_10 := Lib.hid (X2_9.out.step hb)
        clear X2_9
        have X3_10 := Lib.hid (row_start hown)
        clear hown hb
        clear z0_9 z1_9 z1_9b
        have z0_10 := BX0_10.out.it
        obtain ⟨z1_10, z1_10b⟩ := BX1_10.out.it
        refine hK.out _ _ ⟨z0_10, z1_10, z1_10b⟩ (fun hHeld => ?_); clear hK K; (try simp only [Act.put, List.setIfInBounds_toArray]); (try dsimp only [List.set_cons_zero, List.set_cons_succ])
        refine wpAnyH_ready (rs := [8]) (by as_aux_lemma => kernel_rfl) (by simp) ?_; refine AllReadyH.cons (o := ⟨some 48, _, _, _, _, _⟩) rfl (fun K hK => ?_) AllReadyH.nil; go_simp
        go_at_call 7
        refine (HSP.out B6 m6 d6 B8 m8 d8 D8 em8 ed8 _ n2 _ _ n3 _ _ M6.out NC6.out X0_10.out.graph M8.out EM8.out X1_10.out.eager HN2.out (Nat.le_refl _) X2_10.out.ints HN3.out (Nat.le_refl _) X3_10.out.ints).mono ?_
        rintro e w11 hret
        obtain ⟨BV0, mV0, dV0, BV1, dV1, CV, mV, dV, rfl, hown, hb⟩ := hret.joined
        have hbs11 : w10.heap.size ≤ w11.heap.size := hb.size
        clear X0_10
        clear X1_10
        clear X2_10
        clear X3_10
        have S_11 := Lib.hid (S_10.out.step hb)
        clear S_10
        have Bl_11 := Lib.hid (Bl_10.out.step hb)
        clear Bl_10
        have BX0_11 := Lib.hid (BX0_10.out.step hb)
        clear BX0_10
        have BX1_11 := Lib.hid (BX1_10.out.step hb)
        clear BX1_10
        have Bk_11 := Lib.hid (Bk_10.out.trans (hb.mono (by omega)))
        clear Bk_10
        have NB_11 := Lib.hid (NB_10.out.step hb)
        clear NB_10
        have V_11 := Lib.hid hown
        clear hown hb
        clear z0_10 z1_10 z1_10b
        have z0_11 := BX0_11.out.it
        obtain ⟨z1_11, z1_11b⟩ := BX1_11.out.it
        refine hK.out _ _ ⟨z0_11, z1_11, z1_11b⟩ (fun hHeld => ?_); clear hK K; (try simp only [Act.put, List.setIfInBounds_toArray]); (try dsimp only [List.set_cons_zero, List.set_cons_succ])
        refine wpAnyH_take (i := 9) (oi := ⟨some 39, _, _, _, _, _⟩) (v := ?_) rfl (by as_aux_lemma => kernel_rfl) (by as_aux_lemma => kernel_rfl) (by as_aux_lemma => kernel_rfl) (fun _ _ _ h => h) (Or.inl ⟨by rfl, ?_⟩) (by assumption) ?_; rotate_left; (focus (intro w hSw; (try dsimp only at hSw); go_simp; (try with_reducible rfl))); (try simp only [Act.put, List.setIfInBounds_toArray]); (try dsimp only [List.set_cons_zero, List.set_cons_succ])
        refine wpAnyH_take (i := 10) (oi := ⟨some 49, _, _, _, _, _⟩) (v := ?_) rfl (by as_aux_lemma => kernel_rfl) (by as_aux_lemma => kernel_rfl) (by as_aux_lemma => kernel_rfl) (fun _ _ _ h => h) (Or.inl ⟨by rfl, ?_⟩) (by assumption) ?_; rotate_left; (focus (intro w hSw; (try dsimp only at hSw); go_simp; (try with_reducible rfl))); (try simp only [Act.put, List.setIfInBounds_toArray]); (try dsimp only [List.set_cons_zero, List.set_cons_succ])
        refine wpAnyH_take (i := 11) (oi := ⟨some 50, _, _, _, _, _⟩) (v := ?_) rfl (by as_aux_lemma => kernel_rfl) (by as_aux_lemma => kernel_rfl) (by as_aux_lemma => kernel_rfl) (fun _ _ _ h => h) (Or.inl ⟨by rfl, ?_⟩) (by assumption) ?_; rotate_left; (focus (intro w hSw; (try dsimp only at hSw); go_simp; (try with_reducible rfl))); (try simp only [Act.put, List.setIfInBounds_toArray]); (try dsimp only [List.set_cons_zero, List.set_cons_succ])
        have hvl : w11.heap.size ≤ w11.heap.size := V_11.out.le
        have y0 := NB_11.out.c 0 _ rfl
        have x0 := NB_11.out.f 0
        have y1 := NB_11.out.c 1 _ rfl
        have x1 := NB_11.out.f 1
        refine wpAnyH_ready (rs := [13]) (by as_aux_lemma => kernel_rfl) (by simp) ?_; refine AllReadyH.cons (o := ⟨none, _, _, _, _, _⟩) rfl (fun K hK => ?_) AllReadyH.nil; go_simp
        obtain ⟨w12, hw12⟩ : ∃ W : World, W = ((w11.setCell ⟨w6.heap.size, 0, none⟩ (.slice BV0 mV0 dV0)).setCell ⟨w6.heap.size, 1, none⟩ (.slice BV1 mV0 dV1)) := ⟨_, rfl⟩
        have ht : Tch (w6.heap.size) (w6.heap.size + 1) w11 w12 := by rw [hw12]; exact ((Tch.refl _ _ _).trans (Bx.tch _ 0 _)).trans (Bx.tch _ 1 _)
        have NC : Hid (Bx (w6.heap.size) [.slice BV0 mV0 dV0, .slice BV1 mV0 dV1] w12) := by rw [hw12]; exact ((NB_11.out.set 0 (by simp) (.slice BV0 mV0 dV0)).set 1 (by simp) (.slice BV1 mV0 dV1))
        have hbs12 := ht.size
        have S_12 := Lib.hid (S_11.out.turn ht (by omega))
        clear S_11
        have Bl_12 := Lib.hid (Bl_11.out.turn ht (by omega))
        clear Bl_11
        have BX0_12 := Lib.hid (BX0_11.out.turn ht (by omega))
        clear BX0_11
        have BX1_12 := Lib.hid (BX1_11.out.turn ht (by omega))
        clear BX1_11
        have Bk_12 := Lib.hid (Bk_11.out.trans (ht.below (by omega) (by omega)))
        clear Bk_11
        clear NB_11
        have V_12 := Lib.hid (V_11.out.turn ht (by omega))
        clear V_11
        clear ht y0 x0 y1 x1 z0_11 z1_11 z1_11b
        have z0_12 := BX0_12.out.it
        obtain ⟨z1_12, z1_12b⟩ := BX1_12.out.it
        rw [← hw12]
        clear hw12
        refine hK.out _ _ ⟨z0_12, z1_12, z1_12b⟩ (fun hHeld => ?_); clear hK K; (try simp only [Act.put, List.setIfInBounds_toArray]); (try dsimp only [List.set_cons_zero, List.set_cons_succ])
        refine wpAnyH_ready (rs := [14]) (by as_aux_lemma => kernel_rfl) (by simp) ?_; refine AllReadyH.cons (o := ⟨some 11, _, _, _, _, _⟩) rfl (fun K hK => ?_) AllReadyH.nil; go_simp
        refine hK.out _ _ ⟨z0_12, z1_12, z1_12b⟩ (fun hHeld => ?_); clear hK K; (try simp only [Act.put, List.setIfInBounds_toArray]); (try dsimp only [List.set_cons_zero, List.set_cons_succ])
        refine wpAnyH_done (by kernel_rfl) ?_ _
        go_wp2_with fail
        go_meet
        exact ⟨w6.heap.size, w10.heap.size, w11.heap.size, _, _, _, _, _, _, _, _, rfl, rfl, V_12.out, Bx.as2 NC.out, by omega, by omega, by omega, Bk_12.out⟩
    · go_simp
      obtain ⟨w6, hw6⟩ : ∃ W : World, W = w5.alloc (.cells #[.slice none 0 0, .slice none 0 0] 29) := ⟨_, rfl⟩
      have hb : Below w5.heap.size w5 w6 := by rw [hw6]; exact (Below.refl _ _).alloc (Nat.le_refl _) _
      have hbs6 : w6.heap.size = w5.heap.size + 1 := by rw [hw6]; simp
      have S_6 := Lib.hid (S_5.out.step hb)
      clear S_5
      have Bl_6 := Lib.hid (Bl_5.out.step hb)
      clear Bl_5
      have BX0_6 := Lib.hid (BX0_5.out.step hb)
      clear BX0_5
      have BX1_6 := Lib.hid (BX1_5.out.step hb)
      clear BX1_5
      have Bk_6 := Lib.hid (Bk_5.out.trans (hb.mono (by omega)))
      clear Bk_5
      have NB_6 : Hid (Bx w5.heap.size [.slice none 0 0, .slice none 0 0] w6) := by rw [hw6]; exact Bx.start w5 _ _
      have hbs6b : w5.heap.size < w6.heap.size := by omega
      clear hb z0_5 z1_5 z1_5b
      have z0_6 := BX0_6.out.it
      obtain ⟨z1_6, z1_6b⟩ := BX1_6.out.it
      rw [← hw6]
      clear hw6 hbs6
      refine hK.out _ _ ⟨z0_6, z1_6, z1_6b⟩ (fun hHeld => ?_); clear hK K; (try simp only [Act.put, List.setIfInBounds_toArray]); (try dsimp only [List.set_cons_zero, List.set_cons_succ])
      refine wpAnyH_ready (rs := [1]) (by as_aux_lemma => kernel_rfl) (by simp) ?_; refine AllReadyH.cons (o := ⟨some 41, _, _, _, _, _⟩) rfl (fun K hK => ?_) AllReadyH.nil; go_simp
      go_at_call 19
      refine (laws_toGraph A0 n0 c0 gs0 _ w.heap.size Bl_6.out.le HN0.out S_6.out.it.1 HG0.out).mono ?_
      rintro e w7 ⟨B7, m7, d7, rfl, hn, hown, hb⟩
      have M7 := Lib.hid hn
      have NC7 := Lib.hid hown.ncap
      have hbs7 : w6.heap.size ≤ w7.heap.size := hb.size
      have S_7 := Lib.hid (S_6.out.step hb)
      clear S_6
      have Bl_7 := Lib.hid (Bl_6.out.step hb)
      clear Bl_6
      have BX0_7 := Lib.hid (BX0_6.out.step hb)
      clear BX0_6
      have BX1_7 := Lib.hid (BX1_6.out.step hb)
      clear BX1_6
      have Bk_7 := Lib.hid (Bk_6.out.trans (hb.mono (by omega)))
      clear Bk_6
      have NB_7 := Lib.hid (NB_6.out.step hb)
      clear NB_6
      have X0_7 := Lib.hid (graph_start hown)
      clear hown hb hn
      clear z0_6 z1_6 z1_6b
      have z0_7 := BX0_7.out.it
      obtain ⟨z1_7, z1_7b⟩ := BX1_7.out.it
      refine hK.out _ _ ⟨z0_7, z1_7, z1_7b⟩ (fun hHeld => ?_); clear hK K; (try simp only [Act.put, List.setIfInBounds_toArray]); (try dsimp only [List.set_cons_zero, List.set_cons_succ])
      refine wpAnyH_ready (rs := [3]) (by as_aux_lemma => kernel_rfl) (by simp) ?_; refine AllReadyH.cons (o := ⟨some 43, _, _, _, _, _⟩) rfl (fun K hK => ?_) AllReadyH.nil; go_simp
      go_at_call 20
      refine (laws_toEager A1 E1 n1 c1 en1 ec1 st1 _ w.heap.size Bl_7.out.le HN1.out HE1.out S_7.out.it.2.1 HEG1.out).mono ?_
      rintro e w8 ⟨B8, m8, d8, D8, em8, ed8, rfl, hown, hb⟩
      have hn := hown.1
      have hen := hown.2.1
      have M8 := Lib.hid hn
      have EM8 := Lib.hid hen
      have hbs8 : w7.heap.size ≤ w8.heap.size := hb.size
      have S_8 := Lib.hid (S_7.out.step hb)
      clear S_7
      have Bl_8 := Lib.hid (Bl_7.out.step hb)
      clear Bl_7
      have BX0_8 := Lib.hid (BX0_7.out.step hb)
      clear BX0_7
      have BX1_8 := Lib.hid (BX1_7.out.step hb)
      clear BX1_7
      have Bk_8 := Lib.hid (Bk_7.out.trans (hb.mono (by omega)))
      clear Bk_7
      have NB_8 := Lib.hid (NB_7.out.step hb)
      clear NB_7
      have X0_8 := Lib.hid (X0_7.out.step hb)
      clear X0_7
      have X1_8 := Lib.hid (eager_start hown)
      clear hown hb hn hen
      clear z0_7 z1_7 z1_7b
      have z0_8 := BX0_8.out.it
      obtain ⟨z1_8, z1_8b⟩ := BX1_8.out.it
      refine hK.out _ _ ⟨z0_8, z1_8, z1_8b⟩ (fun hHeld => ?_); clear hK K; (try simp only [Act.put, List.setIfInBounds_toArray]); (try dsimp only [List.set_cons_zero, List.set_cons_succ])
      refine wpAnyH_ready (rs := [5]) (by as_aux_lemma => kernel_rfl) (by simp) ?_; refine AllReadyH.cons (o := ⟨some 45, _, _, _, _, _⟩) rfl (fun K hK => ?_) AllReadyH.nil; go_simp
      go_at_call 21
      refine (laws_toIntS A2 n2 c2 xs2 _ w.heap.size Bl_8.out.le HN2.out S_8.out.it.2.2.1 (by omega)).mono ?_
      rintro e w9 ⟨rfl, hown, hb⟩
      have hbs9 : w8.heap.size ≤ w9.heap.size := hb.size
      have S_9 := Lib.hid (S_8.out.step hb)
      clear S_8
      have Bl_9 := Lib.hid (Bl_8.out.step hb)
      clear Bl_8
      have BX0_9 := Lib.hid (BX0_8.out.step hb)
      clear BX0_8
      have BX1_9 := Lib.hid (BX1_8.out.step hb)
      clear BX1_8
      have Bk_9 := Lib.hid (Bk_8.out.trans (hb.mono (by omega)))
      clear Bk_8
      have NB_9 := Lib.hid (NB_8.out.step hb)
      clear NB_8
      have X0_9 := Lib.hid (X0_8.out.step hb)
      clear X0_8
      have X1_9 := Lib.hid (X1_8.out.step hb)
      clear X1_8
      have X2_9 := Lib.hid (row_start hown)
      clear hown hb
      clear z0_8 z1_8 z1_8b
      have z0_9 := BX0_9.out.it
      obtain ⟨z1_9, z1_9b⟩ := BX1_9.out.it
      refine hK.out _ _ ⟨z0_9, z1_9, z1_9b⟩ (fun hHeld => ?_); clear hK K; (try simp only [Act.put, List.setIfInBounds_toArray]); (try dsimp only [List.set_cons_zero, List.set_cons_succ])
      refine wpAnyH_ready (rs := [7]) (by as_aux_lemma => kernel_rfl) (by simp) ?_; refine AllReadyH.cons (o := ⟨some 47, _, _, _, _, _⟩) rfl (fun K hK => ?_) AllReadyH.nil; go_simp
      go_at_call 21
      refine (laws_toIntS A3 n3 c3 xs3 _ w.heap.size Bl_9.out.le HN3.out S_9.out.it.2.2.2 (by omega)).mono ?_
      rintro e w10 ⟨rfl, hown, hb⟩
      have hbs10 : w9.heap.size ≤ w10.heap.size := hb.size
      have S_10 := Lib.hid (S_9.out.step hb)
      clear S_9
      have Bl_10 := Lib.hid (Bl_9.out.step hb)
      clear Bl_9
      have BX0_10 := Lib.hid (BX0_9.out.step hb)
      clear BX0_9
      have BX1_10 := Lib.hid (BX1_9.out.step hb)
      clear BX1_9
      have Bk_10 := Lib.hid (Bk_9.out.trans (hb.mono (by omega)))
      clear Bk_9
      have NB_10 := Lib.hid (NB_9.out.step hb)
      clear NB_9
      have X0_10 := Lib.hid (X0_9.out.step hb)
      clear X0_9
      have X1_10 := Lib.hid (X1_9.out.step hb)
      clear X1_9
      have X2_10 := Lib.hid (X2_9.out.step hb)
      clear X2_9
      have X3_10 := Lib.hid (row_start hown)
      clear hown hb
      clear z0_9 z1_9 z1_9b
      have z0_10 := BX0_10.out.it
      obtain ⟨z1_10, z1_10b⟩ := BX1_10.out.it
      refine hK.out _ _ ⟨z0_10, z1_10, z1_10b⟩ (fun hHeld => ?_); clear hK K; (try simp only [Act.put, List.setIfInBounds_toArray]); (try dsimp only [List.set_cons_zero, List.set_cons_succ])
      refine wpAnyH_ready (rs := [8]) (by as_aux_lemma => kernel_rfl) (by simp) ?_; refine AllReadyH.cons (o := ⟨some 48, _, _, _, _, _⟩) rfl (fun K hK => ?_) AllReadyH.nil; go_simp
      go_at_call 7
      refine (HSP.out B7 m7 d7 B8 m8 d8 D8 em8 ed8 _ n2 _ _ n3 _ _ M7.out NC7.out X0_10.out.graph M8.out EM8.out X1_10.out.eager HN2.out (Nat.le_refl _) X2_10.out.ints HN3.out (Nat.le_refl _) X3_10.out.ints).mono ?_
      rintro e w11 hret
      obtain ⟨BV0, mV0, dV0, BV1, dV1, CV, mV, dV, rfl, hown, hb⟩ := hret.joined
      have hbs11 : w10.heap.size ≤ w11.heap.size := hb.size
      clear X0_10
      clear X1_10
      clear X2_10
      clear X3_10
      have S_11 := Lib.hid (S_10.out.step hb)
      clear S_10
      have Bl_11 := Lib.hid (Bl_10.out.step hb)
      clear Bl_10
      have BX0_11 := Lib.hid (BX0_10.out.step hb)
      clear BX0_10
      have BX1_11 := Lib.hid (BX1_10.out.step hb)
      clear BX1_10
      have Bk_11 := Lib.hid (Bk_10.out.trans (hb.mono (by omega)))
      clear Bk_10
      have NB_11 := Lib.hid (NB_10.out.step hb)
      clear NB_10
      have V_11 := Lib.hid hown
      clear hown hb
      clear z0_10 z1_10 z1_10b
      have z0_11 := BX0_11.out.it
      obtain ⟨z1_11, z1_11b⟩ := BX1_11.out.it
      refine hK.out _ _ ⟨z0_11, z1_11, z1_11b⟩ (fun hHeld => ?_); clear hK K; (try simp only [Act.put, List.setIfInBounds_toArray]); (try dsimp only [List.set_cons_zero, List.set_cons_succ])
      refine wpAnyH_take (i := 9) (oi := ⟨some 39, _, _, _, _, _⟩) (v := ?_) rfl (by as_aux_lemma => kernel_rfl) (by as_aux_lemma => kernel_rfl) (by as_aux_lemma => kernel_rfl) (fun _ _ _ h => h) (Or.inl ⟨by rfl, ?_⟩) (by assumption) ?_; rotate_left; (focus (intro w hSw; (try dsimp only at hSw); go_simp; (try with_reducible rfl))); (try simp only [Act.put, List.setIfInBounds_toArray]); (try dsimp only [List.set_cons_zero, List.set_cons_succ])
      refine wpAnyH_take (i := 10) (oi := ⟨some 49, _, _, _, _, _⟩) (v := ?_) rfl (by as_aux_lemma => kernel_rfl) (by as_aux_lemma => kernel_rfl) (by as_aux_lemma => kernel_rfl) (fun _ _ _ h => h) (Or.inl ⟨by rfl, ?_⟩) (by assumption) ?_; rotate_left; (focus (intro w hSw; (try dsimp only at hSw); go_simp; (try with_reducible rfl))); (try simp only [Act.put, List.setIfInBounds_toArray]); (try dsimp only [List.set_cons_zero, List.set_cons_succ])
      refine wpAnyH_take (i := 11) (oi := ⟨some 50, _, _, _, _, _⟩) (v := ?_) rfl (by as_aux_lemma => kernel_rfl) (by as_aux_lemma => kernel_rfl) (by as_aux_lemma => kernel_rfl) (fun _ _ _ h => h) (Or.inl ⟨by rfl, ?_⟩) (by assumption) ?_; rotate_left; (focus (intro w hSw; (try dsimp only at hSw); go_simp; (try with_reducible rfl))); (try simp only [Act.put, List.setIfInBounds_toArray]); (try dsimp only [List.set_cons_zero, List.set_cons_succ])
      have hvl : w11.heap.size ≤ w11.heap.size := V_11.out.le
      have y0 := NB_11.out.c 0 _ rfl
      have x0 := NB_11.out.f 0
      have y1 := NB_11.out.c 1 _ rfl
      have x1 := NB_11.out.f 1
      refine wpAnyH_ready (rs := [13]) (by as_aux_lemma => kernel_rfl) (by simp) ?_; refine AllReadyH.cons (o := ⟨none, _, _, _, _, _⟩) rfl (fun K hK => ?_) AllReadyH.nil; go_simp
      obtain ⟨w12, hw12⟩ : ∃ W : World, W = ((w11.setCell ⟨w5.heap.size, 0, none⟩ (.slice BV0 mV0 dV0)).setCell ⟨w5.heap.size, 1, none⟩ (.slice BV1 mV0 dV1)) := ⟨_, rfl⟩
      have ht : Tch (w5.heap.size) (w5.heap.size + 1) w11 w12 := by rw [hw12]; exact ((Tch.refl _ _ _).trans (Bx.tch _ 0 _)).trans (Bx.tch _ 1 _)
      have NC : Hid (Bx (w5.heap.size) [.slice BV0 mV0 dV0, .slice BV1 mV0 dV1] w12) := by rw [hw12]; exact ((NB_11.out.set 0 (by simp) (.slice BV0 mV0 dV0)).set 1 (by simp) (.slice BV1 mV0 dV1))
      have hbs12 := ht.size
      have S_12 := Lib.hid (S_11.out.turn ht (by omega))
      clear S_11
      have Bl_12 := Lib.hid (Bl_11.out.turn ht (by omega))
      clear Bl_11
      have BX0_12 := Lib.hid (BX0_11.out.turn ht (by omega))
      clear BX0_11
      have BX1_12 := Lib.hid (BX1_11.out.turn ht (by omega))
      clear BX1_11
      have Bk_12 := Lib.hid (Bk_11.out.trans (ht.below (by omega) (by omega)))
      clear Bk_11
      clear NB_11
      have V_12 := Lib.hid (V_11.out.turn ht (by omega))
      clear V_11
      clear ht y0 x0 y1 x1 z0_11 z1_11 z1_11b
      have z0_12 := BX0_12.out.it
      obtain ⟨z1_12, z1_12b⟩ := BX1_12.out.it
      rw [← hw12]
      clear hw12
      refine hK.out _ _ ⟨z0_12, z1_12, z1_12b⟩ (fun hHeld => ?_); clear hK K; (try simp only [Act.put, List.setIfInBounds_toArray]); (try dsimp only [List.set_cons_zero, List.set_cons_succ])
      refine wpAnyH_ready (rs := [14]) (by as_aux_lemma => kernel_rfl) (by simp) ?_; refine AllReadyH.cons (o := ⟨some 11, _, _, _, _, _⟩) rfl (fun K hK => ?_) AllReadyH.nil; go_simp
      refine hK.out _ _ ⟨z0_12, z1_12, z1_12b⟩ (fun hHeld => ?_); clear hK K; (try simp only [Act.put, List.setIfInBounds_toArray]); (try dsimp only [List.set_cons_zero, List.set_cons_succ])
      refine wpAnyH_done (by kernel_rfl) ?_ _
      go_wp2_with fail
      go_meet
      exact ⟨w5.heap.size, w10.heap.size, w11.heap.size, _, _, _, _, _, _, _, _, rfl, rfl, V_12.out, Bx.as2 NC.out, by omega, by omega, by omega, Bk_12.out⟩
  obtain ⟨Vb, Vlo, Vhi, BV0, mV0, dV0, BV1, dV1, CV, mV, dV, hc0, hc1, HV, HVB, hv1, hv2, hv3, HB0⟩ := hcut
  subst hc0 hc1
  obtain ⟨w5, hw5⟩ : ∃ W : World, W = wc := ⟨_, rfl⟩
  rw [← hw5] at HV HVB HB0 ⊢
  clear hw5
  have hb := HB0.out
  have hs_5 : w4.heap.size ≤ w5.heap.size := by have := hb.size; (try simp only [World.size_alloc] at this); omega
  have S_5 := Lib.hid (S_4.out.step hb)
  clear S_4
  have Bl_5 := Lib.hid (Bl_4.out.step hb)
  clear Bl_4
  have BX0_5 := Lib.hid (BX0_4.out.step hb)
  clear BX0_4
  have BX1_5 := Lib.hid (BX1_4.out.step hb)
  clear BX1_4
  have V_5 := HV
  have VB_5 := HVB
  have hv4 := HV.out.le
  have hv5 := HVB.out.le
  clear HV HVB HB0 hb
  have q := BX0_5.out.it
  go_wp2_with fail
  refine (laws_toGraph A0 n0 c0 gs0 _ w.heap.size Bl_5.out.le HN0.out S_5.out.it.1 HG0.out).mono ?_
  rintro e w6 ⟨B6, m6, d6, rfl, hn, hown, hb⟩
  try simp only [World.size_alloc] at hown
  have hs_6 : w5.heap.size ≤ w6.heap.size := by have := hb.size; (try simp only [World.size_alloc] at this); omega
  have M6 := Lib.hid hn
  have NC6 := Lib.hid hown.ncap
  have S_6 := Lib.hid ((S_5.out.step hb).alloc (.cells #[.slice B6 m6 d6] 25))
  clear S_5
  have Bl_6 := Lib.hid ((Bl_5.out.step hb).alloc (.cells #[.slice B6 m6 d6] 25))
  clear Bl_5
  have BX0_6 := Lib.hid ((BX0_5.out.step hb).alloc (.cells #[.slice B6 m6 d6] 25))
  clear BX0_5
  have BX1_6 := Lib.hid ((BX1_5.out.step hb).alloc (.cells #[.slice B6 m6 d6] 25))
  clear BX1_5
  have V_6 := Lib.hid ((V_5.out.step hb).alloc (.cells #[.slice B6 m6 d6] 25))
  clear V_5
  have VB_6 := Lib.hid ((VB_5.out.step hb).alloc (.cells #[.slice B6 m6 d6] 25))
  clear VB_5
  have X0_6 := Lib.hid ((graph_start hown).alloc (.cells #[.slice B6 m6 d6] 25))
  have XB0_6 := Lib.hid (box_new w6 (.slice B6 m6 d6) 25)
  clear q hn hown hb
  obtain ⟨q, qb⟩ := BX1_6.out.it
  go_wp2_with fail
  refine (laws_toEager A1 E1 n1 c1 en1 ec1 st1 _ w.heap.size Bl_6.out.le HN1.out HE1.out S_6.out.it.2.1 HEG1.out).mono ?_
  rintro e w7 ⟨B7, m7, d7, D7, em7, ed7, rfl, hown, hb⟩
  have hn := hown.1
  have hen := hown.2.1
  try simp only [World.size_alloc] at hown
  have hs_7 : w6.heap.size + 1 ≤ w7.heap.size := by have := hb.size; (try simp only [World.size_alloc] at this); omega
  have M7 := Lib.hid hn
  have EM7 := Lib.hid hen
  clear hen
  have S_7 := Lib.hid ((S_6.out.step hb).alloc (.cells #[.slice B7 m7 d7, .slice D7 em7 ed7] 29))
  clear S_6
  have Bl_7 := Lib.hid ((Bl_6.out.step hb).alloc (.cells #[.slice B7 m7 d7, .slice D7 em7 ed7] 29))
  clear Bl_6
  have BX0_7 := Lib.hid ((BX0_6.out.step hb).alloc (.cells #[.slice B7 m7 d7, .slice D7 em7 ed7] 29))
  clear BX0_6
  have BX1_7 := Lib.hid ((BX1_6.out.step hb).alloc (.cells #[.slice B7 m7 d7, .slice D7 em7 ed7] 29))
  clear BX1_6
  have V_7 := Lib.hid ((V_6.out.step hb).alloc (.cells #[.slice B7 m7 d7, .slice D7 em7 ed7] 29))
  clear V_6
  have VB_7 := Lib.hid ((VB_6.out.step hb).alloc (.cells #[.slice B7 m7 d7, .slice D7 em7 ed7] 29))
  clear VB_6
  have X0_7 := Lib.hid ((X0_6.out.step hb).alloc (.cells #[.slice B7 m7 d7, .slice D7 em7 ed7] 29))
  clear X0_6
  have XB0_7 := Lib.hid ((XB0_6.out.step hb).alloc (.cells #[.slice B7 m7 d7, .slice D7 em7 ed7] 29))
  clear XB0_6
  have X1_7 := Lib.hid ((eager_start hown).alloc (.cells #[.slice B7 m7 d7, .slice D7 em7 ed7] 29))
  have XB1_7 := Lib.hid (box2_new w7 (.slice B7 m7 d7) (.slice D7 em7 ed7) 29)
  clear q qb hn hown hb
  go_wp2_with fail
  refine (laws_toIntS A2 n2 c2 xs2 _ w.heap.size Bl_7.out.le HN2.out S_7.out.it.2.2.1 (by omega)).mono ?_
  rintro e w8 ⟨rfl, hown, hb⟩
  try simp only [World.size_alloc] at hown
  have hs_8 : w7.heap.size + 1 ≤ w8.heap.size := by have := hb.size; (try simp only [World.size_alloc] at this); omega
  have S_8 := Lib.hid (S_7.out.step hb)
  clear S_7
  have Bl_8 := Lib.hid (Bl_7.out.step hb)
  clear Bl_7
  have BX0_8 := Lib.hid (BX0_7.out.step hb)
  clear BX0_7
  have BX1_8 := Lib.hid (BX1_7.out.step hb)
  clear BX1_7
  have V_8 := Lib.hid (V_7.out.step hb)
  clear V_7
  have VB_8 := Lib.hid (VB_7.out.step hb)
  clear VB_7
  have X0_8 := Lib.hid (X0_7.out.step hb)
  clear X0_7
  have XB0_8 := Lib.hid (XB0_7.out.step hb)
  clear XB0_7
  have X1_8 := Lib.hid (X1_7.out.step hb)
  clear X1_7
  have XB1_8 := Lib.hid (XB1_7.out.step hb)
  clear XB1_7
  have X2_8 := Lib.hid (row_start hown)
  clear hown hb
  go_wp2_with fail
  refine (laws_toIntS A3 n3 c3 xs3 _ w.heap.size Bl_8.out.le HN3.out S_8.out.it.2.2.2 (by omega)).mono ?_
  rintro e w9 ⟨rfl, hown, hb⟩
  try simp only [World.size_alloc] at hown
  have hs_9 : w8.heap.size ≤ w9.heap.size := by have := hb.size; (try simp only [World.size_alloc] at this); omega
  have S_9 := Lib.hid (S_8.out.step hb)
  clear S_8
  have Bl_9 := Lib.hid (Bl_8.out.step hb)
  clear Bl_8
  have BX0_9 := Lib.hid (BX0_8.out.step hb)
  clear BX0_8
  have BX1_9 := Lib.hid (BX1_8.out.step hb)
  clear BX1_8
  have V_9 := Lib.hid (V_8.out.step hb)
  clear V_8
  have VB_9 := Lib.hid (VB_8.out.step hb)
  clear VB_8
  have X0_9 := Lib.hid (X0_8.out.step hb)
  clear X0_8
  have XB0_9 := Lib.hid (XB0_8.out.step hb)
  clear XB0_8
  have X1_9 := Lib.hid (X1_8.out.step hb)
  clear X1_8
  have XB1_9 := Lib.hid (XB1_8.out.step hb)
  clear XB1_8
  have X2_9 := Lib.hid (X2_8.out.step hb)
  clear X2_8
  have X3_9 := Lib.hid (row_start hown)
  clear hown hb
  have q0 := XB0_9.out.it
  obtain ⟨q1, q1b⟩ := XB1_9.out.it
  go_wp2_with fail
  refine (HIM.out B6 m6 d6 B7 m7 d7 D7 em7 ed7 _ n2 _ _ n3 _ _ M6.out NC6.out X0_9.out.graph M7.out EM7.out X1_9.out.eager HN2.out (Nat.le_refl _) X2_9.out.ints HN3.out (Nat.le_refl _) X3_9.out.ints).mono ?_
  rintro e w10 hret
  obtain ⟨B10, m10, d10, D10, ed10, C10, mm10, dd10, rfl, hown, hb⟩ := hret.joined
  try simp only [World.size_alloc] at hown
  have hs_10 : w9.heap.size ≤ w10.heap.size := by have := hb.size; (try simp only [World.size_alloc] at this); omega
  have S_10 := Lib.hid ((S_9.out.step hb).alloc (.cells #[.slice B10 m10 d10, .slice D10 m10 ed10] 29))
  clear S_9
  have Bl_10 := Lib.hid ((Bl_9.out.step hb).alloc (.cells #[.slice B10 m10 d10, .slice D10 m10 ed10] 29))
  clear Bl_9
  have BX0_10 := Lib.hid ((BX0_9.out.step hb).alloc (.cells #[.slice B10 m10 d10, .slice D10 m10 ed10] 29))
  clear BX0_9
  have BX1_10 := Lib.hid ((BX1_9.out.step hb).alloc (.cells #[.slice B10 m10 d10, .slice D10 m10 ed10] 29))
  clear BX1_9
  have V_10 := Lib.hid ((V_9.out.step hb).alloc (.cells #[.slice B10 m10 d10, .slice D10 m10 ed10] 29))
  clear V_9
  have VB_10 := Lib.hid ((VB_9.out.step hb).alloc (.cells #[.slice B10 m10 d10, .slice D10 m10 ed10] 29))
  clear VB_9
  have X0_10 := Lib.hid ((X0_9.out.step hb).alloc (.cells #[.slice B10 m10 d10, .slice D10 m10 ed10] 29))
  clear X0_9
  have XB0_10 := Lib.hid ((XB0_9.out.step hb).alloc (.cells #[.slice B10 m10 d10, .slice D10 m10 ed10] 29))
  clear XB0_9
  have X1_10 := Lib.hid ((X1_9.out.step hb).alloc (.cells #[.slice B10 m10 d10, .slice D10 m10 ed10] 29))
  clear X1_9
  have XB1_10 := Lib.hid ((XB1_9.out.step hb).alloc (.cells #[.slice B10 m10 d10, .slice D10 m10 ed10] 29))
  clear XB1_9
  have X2_10 := Lib.hid ((X2_9.out.step hb).alloc (.cells #[.slice B10 m10 d10, .slice D10 m10 ed10] 29))
  clear X2_9
  have X3_10 := Lib.hid ((X3_9.out.step hb).alloc (.cells #[.slice B10 m10 d10, .slice D10 m10 ed10] 29))
  clear X3_9
  have G_10 := Lib.hid (hown.alloc (.cells #[.slice B10 m10 d10, .slice D10 m10 ed10] 29))
  clear hown
  have GB_10 := Lib.hid (box2_new w10 (.slice B10 m10 d10) (.slice D10 m10 ed10) 29)
  clear hb
  clear q0 q1 q1b
  obtain ⟨bg, bgb⟩ := GB_10.out.it
  obtain ⟨bv, bvb⟩ := VB_10.out.it
  go_wp2_with fail
  refine (laws_eqEager _ _ _ _ _ _ _ _ _ _ _ _ F0 F0 _ _ (Nat.le_refl _) G_10.out.it.1 G_10.out.it.2.1 V_10.out.it.1 V_10.out.it.2.1 G_10.out.fje V_10.out.fje HEB0.out HEB0.out).mono ?_
  rintro e w11 ⟨rfl, hb⟩
  have S_11 := Lib.hid (S_10.out.step hb)
  clear S_10
  have Bl_11 := Lib.hid (Bl_10.out.step hb)
  clear Bl_10
  have BX0_11 := Lib.hid (BX0_10.out.step hb)
  clear BX0_10
  have BX1_11 := Lib.hid (BX1_10.out.step hb)
  clear BX1_10
  have V_11 := Lib.hid (V_10.out.step hb)
  clear V_10
  have VB_11 := Lib.hid (VB_10.out.step hb)
  clear VB_10
  have X0_11 := Lib.hid (X0_10.out.step hb)
  clear X0_10
  have XB0_11 := Lib.hid (XB0_10.out.step hb)
  clear XB0_10
  have X1_11 := Lib.hid (X1_10.out.step hb)
  clear X1_10
  have XB1_11 := Lib.hid (XB1_10.out.step hb)
  clear XB1_10
  have X2_11 := Lib.hid (X2_10.out.step hb)
  clear X2_10
  have X3_11 := Lib.hid (X3_10.out.step hb)
  clear X3_10
  have G_11 := Lib.hid (G_10.out.step hb)
  clear G_10
  have GB_11 := Lib.hid (GB_10.out.step hb)
  clear GB_10
  clear hb bg bgb bv bvb
  go_wp2_with fail
  refine (laws_eqIntS _ _ _ _ _ _ F1 F1 _ w11.heap.size (Nat.le_refl _) G_11.out.it.2.2.1 V_11.out.it.2.2.1 G_11.out.fji V_11.out.fji (by have := G_11.out.it.2.2.1; have := HL1.out; omega) (by have := V_11.out.it.2.2.1; have := HL1.out; omega)).mono ?_
  rintro e w12 ⟨rfl, hb⟩
  have S_12 := Lib.hid (S_11.out.step hb)
  clear S_11
  have Bl_12 := Lib.hid (Bl_11.out.step hb)
  clear Bl_11
  have BX0_12 := Lib.hid (BX0_11.out.step hb)
  clear BX0_11
  have BX1_12 := Lib.hid (BX1_11.out.step hb)
  clear BX1_11
  have V_12 := Lib.hid (V_11.out.step hb)
  clear V_11
  have VB_12 := Lib.hid (VB_11.out.step hb)
  clear VB_11
  have X0_12 := Lib.hid (X0_11.out.step hb)
  clear X0_11
  have XB0_12 := Lib.hid (XB0_11.out.step hb)
  clear XB0_11
  have X1_12 := Lib.hid (X1_11.out.step hb)
  clear X1_11
  have XB1_12 := Lib.hid (XB1_11.out.step hb)
  clear XB1_11
  have X2_12 := Lib.hid (X2_11.out.step hb)
  clear X2_11
  have X3_12 := Lib.hid (X3_11.out.step hb)
  clear X3_11
  have G_12 := Lib.hid (G_11.out.step hb)
  clear G_11
  have GB_12 := Lib.hid (GB_11.out.step hb)
  clear GB_11
  clear hb
  have q := XB0_12.out.it
  have r := BX0_12.out.it
  have hle := Bl_12.out.le
  go_wp2
  go_region_held3 (fun w' => w'.cell? ⟨w6.heap.size, 0, none⟩ = some (.slice B6 m6 d6) ∧ w'.cell? ⟨w.heap.size, 0, none⟩ = some (.slice A0 n0 c0)) (first | exact ⟨q, r⟩ | exact ⟨q2, r2⟩ | exact ⟨q3, r3⟩)
    (first
    | (go_at_call 19; refine (laws_toGraph A0 n0 c0 gs0 _ w.heap.size ?_ HN0.out ?_ HG0.out).mono ?_; (exact hle); exact S_12.out.it.1; rintro e w13 ⟨B13, m13, d13, rfl, hn, hown, hb'⟩; have hb : Below w12.heap.size w12 w13 := (by first | exact below_of_drew hb' | exact hb'); have M13 := Lib.hid hn; have C13 := Lib.hid (hown.nodes); have S_13 := Lib.hid (S_12.out.step hb); have Bl_13 := Lib.hid (Bl_12.out.step hb); have BX0_13 := Lib.hid (BX0_12.out.step hb); have BX1_13 := Lib.hid (BX1_12.out.step hb); have V_13 := Lib.hid (V_12.out.step hb); have VB_13 := Lib.hid (VB_12.out.step hb); have X0_13 := Lib.hid (X0_12.out.step hb); have XB0_13 := Lib.hid (XB0_12.out.step hb); have X1_13 := Lib.hid (X1_12.out.step hb); have XB1_13 := Lib.hid (XB1_12.out.step hb); have X2_13 := Lib.hid (X2_12.out.step hb); have X3_13 := Lib.hid (X3_12.out.step hb); have G_13 := Lib.hid (G_12.out.step hb); have GB_13 := Lib.hid (GB_12.out.step hb); have q2 := XB0_13.out.it; have r2 := BX0_13.out.it; clear hn hown hb' hb)
    | (go_at_call 24; refine (laws_eqGraph B6 B13 m6 m13 d6 d13 gs0 gs0 _ w13.heap.size (Nat.le_refl _) M6.out M13.out X0_13.out.graph C13.out HG0.out HG0.out).mono ?_; rintro e w14 ⟨rfl, hb⟩; have S_14 := Lib.hid (S_13.out.step hb); have Bl_14 := Lib.hid (Bl_13.out.step hb); have BX0_14 := Lib.hid (BX0_13.out.step hb); have BX1_14 := Lib.hid (BX1_13.out.step hb); have V_14 := Lib.hid (V_13.out.step hb); have VB_14 := Lib.hid (VB_13.out.step hb); have X0_14 := Lib.hid (X0_13.out.step hb); have XB0_14 := Lib.hid (XB0_13.out.step hb); have X1_14 := Lib.hid (X1_13.out.step hb); have XB1_14 := Lib.hid (XB1_13.out.step hb); have X2_14 := Lib.hid (X2_13.out.step hb); have X3_14 := Lib.hid (X3_13.out.step hb); have G_14 := Lib.hid (G_13.out.step hb); have GB_14 := Lib.hid (GB_13.out.step hb); have q3 := XB0_14.out.it; have r3 := BX0_14.out.it))
  clear hb q r q3 r3 q2 r2 hle M13 C13 S_13 Bl_13 BX0_13 BX1_13 V_13 VB_13 X0_13 XB0_13 X1_13 XB1_13 X2_13 X3_13 G_13 GB_13 S_12 Bl_12 BX0_12 BX1_12 V_12 VB_12 X0_12 XB0_12 X1_12 XB1_12 X2_12 X3_12 G_12 GB_12
  obtain ⟨q, qb⟩ := XB1_14.out.it
  obtain ⟨r, rb⟩ := BX1_14.out.it
  have hle := Bl_14.out.le
  go_wp2
  go_region_held3 (fun w' => w'.cell? ⟨w7.heap.size, 0, none⟩ = some (.slice B7 m7 d7) ∧ w'.cell? ⟨w7.heap.size, 1, none⟩ = some (.slice D7 em7 ed7) ∧ w'.cell? ⟨w.heap.size + 1, 0, none⟩ = some (.slice A1 n1 c1) ∧ w'.cell? ⟨w.heap.size + 1, 1, none⟩ = some (.slice E1 en1 ec1)) (first | exact ⟨q, qb, r, rb⟩ | exact ⟨q2, q2b, r2, r2b⟩ | exact ⟨q3, q3b, r3, r3b⟩)
    (first
    | (go_at_call 20; refine (laws_toEager A1 E1 n1 c1 en1 ec1 st1 _ w.heap.size ?_ HN1.out HE1.out ?_ HEG1.out).mono ?_; (exact hle); exact S_14.out.it.2.1; rintro e w15 ⟨B15, m15, d15, D15, em15, ed15, rfl, hown, hb'⟩; have hb : Below w14.heap.size w14 w15 := (by first | exact below_of_drew hb' | exact hb'); have hn := hown.2.1; have M15 := Lib.hid hown.1; have EM15 := Lib.hid hown.2.1; have C15 := Lib.hid hown.reads; have S_15 := Lib.hid (S_14.out.step hb); have Bl_15 := Lib.hid (Bl_14.out.step hb); have BX0_15 := Lib.hid (BX0_14.out.step hb); have BX1_15 := Lib.hid (BX1_14.out.step hb); have V_15 := Lib.hid (V_14.out.step hb); have VB_15 := Lib.hid (VB_14.out.step hb); have X0_15 := Lib.hid (X0_14.out.step hb); have XB0_15 := Lib.hid (XB0_14.out.step hb); have X1_15 := Lib.hid (X1_14.out.step hb); have XB1_15 := Lib.hid (XB1_14.out.step hb); have X2_15 := Lib.hid (X2_14.out.step hb); have X3_15 := Lib.hid (X3_14.out.step hb); have G_15 := Lib.hid (G_14.out.step hb); have GB_15 := Lib.hid (GB_14.out.step hb); obtain ⟨q2, q2b⟩ := XB1_15.out.it; obtain ⟨r2, r2b⟩ := BX1_15.out.it; clear hn hown hb' hb)
    | (go_at_call 22; refine (laws_eqEager B7 D7 B15 D15 m7 d7 em7 ed7 m15 d15 em15 ed15 st1 st1 _ w15.heap.size (Nat.le_refl _) M7.out EM7.out M15.out EM15.out X1_15.out.eager C15.out HEG1.out HEG1.out).mono ?_; rintro e w16 ⟨rfl, hb⟩; have S_16 := Lib.hid (S_15.out.step hb); have Bl_16 := Lib.hid (Bl_15.out.step hb); have BX0_16 := Lib.hid (BX0_15.out.step hb); have BX1_16 := Lib.hid (BX1_15.out.step hb); have V_16 := Lib.hid (V_15.out.step hb); have VB_16 := Lib.hid (VB_15.out.step hb); have X0_16 := Lib.hid (X0_15.out.step hb); have XB0_16 := Lib.hid (XB0_15.out.step hb); have X1_16 := Lib.hid (X1_15.out.step hb); have XB1_16 := Lib.hid (XB1_15.out.step hb); have X2_16 := Lib.hid (X2_15.out.step hb); have X3_16 := Lib.hid (X3_15.out.step hb); have G_16 := Lib.hid (G_15.out.step hb); have GB_16 := Lib.hid (GB_15.out.step hb); obtain ⟨q3, q3b⟩ := XB1_16.out.it; obtain ⟨r3, r3b⟩ := BX1_16.out.it))
  clear hb q qb r rb q3 q3b r3 r3b q2 q2b r2 r2b hle M15 C15 EM15 S_15 Bl_15 BX0_15 BX1_15 V_15 VB_15 X0_15 XB0_15 X1_15 XB1_15 X2_15 X3_15 G_15 GB_15 S_14 Bl_14 BX0_14 BX1_14 V_14 VB_14 X0_14 XB0_14 X1_14 XB1_14 X2_14 X3_14 G_14 GB_14
  go_wp2_with fail
  refine (laws_toIntS A2 n2 c2 xs2 _ w.heap.size Bl_16.out.le HN2.out S_16.out.it.2.2.1 (by omega)).mono ?_
  rintro e w17 ⟨rfl, hown, hb⟩
  have Z := Lib.hid (IS.of_own hown)
  have S_17 := Lib.hid (S_16.out.step hb)
  clear S_16
  have Bl_17 := Lib.hid (Bl_16.out.step hb)
  clear Bl_16
  have BX0_17 := Lib.hid (BX0_16.out.step hb)
  clear BX0_16
  have BX1_17 := Lib.hid (BX1_16.out.step hb)
  clear BX1_16
  have V_17 := Lib.hid (V_16.out.step hb)
  clear V_16
  have VB_17 := Lib.hid (VB_16.out.step hb)
  clear VB_16
  have X0_17 := Lib.hid (X0_16.out.step hb)
  clear X0_16
  have XB0_17 := Lib.hid (XB0_16.out.step hb)
  clear XB0_16
  have X1_17 := Lib.hid (X1_16.out.step hb)
  clear X1_16
  have XB1_17 := Lib.hid (XB1_16.out.step hb)
  clear XB1_16
  have X2_17 := Lib.hid (X2_16.out.step hb)
  clear X2_16
  have X3_17 := Lib.hid (X3_16.out.step hb)
  clear X3_16
  have G_17 := Lib.hid (G_16.out.step hb)
  clear G_16
  have GB_17 := Lib.hid (GB_16.out.step hb)
  clear GB_16
  clear hown hb
  go_wp2_with fail
  refine (laws_eqIntS _ _ n2 n2 _ _ xs2 xs2 _ w17.heap.size (Nat.le_refl _) HN2.out HN2.out X2_17.out.ints Z.out (by omega) (by omega)).mono ?_
  rintro e w18 ⟨rfl, hb⟩
  have S_18 := Lib.hid (S_17.out.step hb)
  clear S_17
  have Bl_18 := Lib.hid (Bl_17.out.step hb)
  clear Bl_17
  have BX0_18 := Lib.hid (BX0_17.out.step hb)
  clear BX0_17
  have BX1_18 := Lib.hid (BX1_17.out.step hb)
  clear BX1_17
  have V_18 := Lib.hid (V_17.out.step hb)
  clear V_17
  have VB_18 := Lib.hid (VB_17.out.step hb)
  clear VB_17
  have X0_18 := Lib.hid (X0_17.out.step hb)
  clear X0_17
  have XB0_18 := Lib.hid (XB0_17.out.step hb)
  clear XB0_17
  have X1_18 := Lib.hid (X1_17.out.step hb)
  clear X1_17
  have XB1_18 := Lib.hid (XB1_17.out.step hb)
  clear XB1_17
  have X2_18 := Lib.hid (X2_17.out.step hb)
  clear X2_17
  have X3_18 := Lib.hid (X3_17.out.step hb)
  clear X3_17
  have G_18 := Lib.hid (G_17.out.step hb)
  clear G_17
  have GB_18 := Lib.hid (GB_17.out.step hb)
  clear GB_17
  clear hb Z
  go_wp2_with fail
  refine (laws_toIntS A3 n3 c3 xs3 _ w.heap.size Bl_18.out.le HN3.out S_18.out.it.2.2.2 (by omega)).mono ?_
  rintro e w19 ⟨rfl, hown, hb⟩
  have Z := Lib.hid (IS.of_own hown)
  have S_19 := Lib.hid (S_18.out.step hb)
  clear S_18
  have Bl_19 := Lib.hid (Bl_18.out.step hb)
  clear Bl_18
  have BX0_19 := Lib.hid (BX0_18.out.step hb)
  clear BX0_18
  have BX1_19 := Lib.hid (BX1_18.out.step hb)
  clear BX1_18
  have V_19 := Lib.hid (V_18.out.step hb)
  clear V_18
  have VB_19 := Lib.hid (VB_18.out.step hb)
  clear VB_18
  have X0_19 := Lib.hid (X0_18.out.step hb)
  clear X0_18
  have XB0_19 := Lib.hid (XB0_18.out.step hb)
  clear XB0_18
  have X1_19 := Lib.hid (X1_18.out.step hb)
  clear X1_18
  have XB1_19 := Lib.hid (XB1_18.out.step hb)
  clear XB1_18
  have X2_19 := Lib.hid (X2_18.out.step hb)
  clear X2_18
  have X3_19 := Lib.hid (X3_18.out.step hb)
  clear X3_18
  have G_19 := Lib.hid (G_18.out.step hb)
  clear G_18
  have GB_19 := Lib.hid (GB_18.out.step hb)
  clear GB_18
  clear hown hb
  go_wp2_with fail
  refine (laws_eqIntS _ _ n3 n3 _ _ xs3 xs3 _ w19.heap.size (Nat.le_refl _) HN3.out HN3.out X3_19.out.ints Z.out (by omega) (by omega)).mono ?_
  rintro e w20 ⟨rfl, hb⟩
  have S_20 := Lib.hid (S_19.out.step hb)
  clear S_19
  have Bl_20 := Lib.hid (Bl_19.out.step hb)
  clear Bl_19
  have BX0_20 := Lib.hid (BX0_19.out.step hb)
  clear BX0_19
  have BX1_20 := Lib.hid (BX1_19.out.step hb)
  clear BX1_19
  have V_20 := Lib.hid (V_19.out.step hb)
  clear V_19
  have VB_20 := Lib.hid (VB_19.out.step hb)
  clear VB_19
  have X0_20 := Lib.hid (X0_19.out.step hb)
  clear X0_19
  have XB0_20 := Lib.hid (XB0_19.out.step hb)
  clear XB0_19
  have X1_20 := Lib.hid (X1_19.out.step hb)
  clear X1_19
  have XB1_20 := Lib.hid (XB1_19.out.step hb)
  clear XB1_19
  have X2_20 := Lib.hid (X2_19.out.step hb)
  clear X2_19
  have X3_20 := Lib.hid (X3_19.out.step hb)
  clear X3_19
  have G_20 := Lib.hid (G_19.out.step hb)
  clear G_19
  have GB_20 := Lib.hid (GB_19.out.step hb)
  clear GB_19
  clear hb Z
  have q := XB0_20.out.it
  go_wp2_with fail
  refine (markw_graph _ _ _ _ _ gs0 1 _ X0_20.out HG0.out (by omega) (by omega)).mono ?_
  rintro e w21 ⟨k0, rfl, hk0a, hk0b, ht⟩
  have S_21 := Lib.hid (S_20.out.turn ht (by omega))
  clear S_20
  have Bl_21 := Lib.hid (Bl_20.out.turn ht (by omega))
  clear Bl_20
  have BX0_21 := Lib.hid (BX0_20.out.turn ht (by omega))
  clear BX0_20
  have BX1_21 := Lib.hid (BX1_20.out.turn ht (by omega))
  clear BX1_20
  have V_21 := Lib.hid (V_20.out.turn ht (by omega))
  clear V_20
  have VB_21 := Lib.hid (VB_20.out.turn ht (by omega))
  clear VB_20
  clear X0_20
  have XB0_21 := Lib.hid (XB0_20.out.turn ht (by omega))
  clear XB0_20
  have X1_21 := Lib.hid (X1_20.out.turn ht (by omega))
  clear X1_20
  have XB1_21 := Lib.hid (XB1_20.out.turn ht (by omega))
  clear XB1_20
  have X2_21 := Lib.hid (X2_20.out.turn ht (by omega))
  clear X2_20
  have X3_21 := Lib.hid (X3_20.out.turn ht (by omega))
  clear X3_20
  have G_21 := Lib.hid (G_20.out.turn ht (by omega))
  clear G_20
  have GB_21 := Lib.hid (GB_20.out.turn ht (by omega))
  clear GB_20
  clear ht q
  obtain ⟨q, qb⟩ := XB1_21.out.it
  go_wp2_with fail
  refine (markw_eager _ _ _ _ _ _ _ _ st1 k0 _ X1_21.out HEG1.out (by omega) (by omega)).mono ?_
  rintro e w22 ⟨k1, rfl, hk1a, hk1b, ht⟩
  have S_22 := Lib.hid (S_21.out.turn ht (by omega))
  clear S_21
  have Bl_22 := Lib.hid (Bl_21.out.turn ht (by omega))
  clear Bl_21
  have BX0_22 := Lib.hid (BX0_21.out.turn ht (by omega))
  clear BX0_21
  have BX1_22 := Lib.hid (BX1_21.out.turn ht (by omega))
  clear BX1_21
  have V_22 := Lib.hid (V_21.out.turn ht (by omega))
  clear V_21
  have VB_22 := Lib.hid (VB_21.out.turn ht (by omega))
  clear VB_21
  have XB0_22 := Lib.hid (XB0_21.out.turn ht (by omega))
  clear XB0_21
  clear X1_21
  have XB1_22 := Lib.hid (XB1_21.out.turn ht (by omega))
  clear XB1_21
  have X2_22 := Lib.hid (X2_21.out.turn ht (by omega))
  clear X2_21
  have X3_22 := Lib.hid (X3_21.out.turn ht (by omega))
  clear X3_21
  have G_22 := Lib.hid (G_21.out.turn ht (by omega))
  clear G_21
  have GB_22 := Lib.hid (GB_21.out.turn ht (by omega))
  clear GB_21
  clear ht q qb
  go_wp2_with fail
  refine (markw_ints _ _ _ _ _ k1 _ X2_22.out (by omega) (by omega) (by first | omega | (have := HN2.out; have := HN2.out; omega))).mono ?_
  rintro e w23 ⟨k2, rfl, hk2a, hk2b, ht⟩
  have S_23 := Lib.hid (S_22.out.turn ht (by omega))
  clear S_22
  have Bl_23 := Lib.hid (Bl_22.out.turn ht (by omega))
  clear Bl_22
  have BX0_23 := Lib.hid (BX0_22.out.turn ht (by omega))
  clear BX0_22
  have BX1_23 := Lib.hid (BX1_22.out.turn ht (by omega))
  clear BX1_22
  have V_23 := Lib.hid (V_22.out.turn ht (by omega))
  clear V_22
  have VB_23 := Lib.hid (VB_22.out.turn ht (by omega))
  clear VB_22
  have XB0_23 := Lib.hid (XB0_22.out.turn ht (by omega))
  clear XB0_22
  have XB1_23 := Lib.hid (XB1_22.out.turn ht (by omega))
  clear XB1_22
  clear X2_22
  have X3_23 := Lib.hid (X3_22.out.turn ht (by omega))
  clear X3_22
  have G_23 := Lib.hid (G_22.out.turn ht (by omega))
  clear G_22
  have GB_23 := Lib.hid (GB_22.out.turn ht (by omega))
  clear GB_22
  clear ht
  go_wp2_with fail
  refine (markw_ints _ _ _ _ _ k2 _ X3_23.out (by omega) (by omega) (by first | omega | (have := HN3.out; have := HN3.out; omega))).mono ?_
  rintro e w24 ⟨k3, rfl, hk3a, hk3b, ht⟩
  have S_24 := Lib.hid (S_23.out.turn ht (by omega))
  clear S_23
  have Bl_24 := Lib.hid (Bl_23.out.turn ht (by omega))
  clear Bl_23
  have BX0_24 := Lib.hid (BX0_23.out.turn ht (by omega))
  clear BX0_23
  have BX1_24 := Lib.hid (BX1_23.out.turn ht (by omega))
  clear BX1_23
  have V_24 := Lib.hid (V_23.out.turn ht (by omega))
  clear V_23
  have VB_24 := Lib.hid (VB_23.out.turn ht (by omega))
  clear VB_23
  have XB0_24 := Lib.hid (XB0_23.out.turn ht (by omega))
  clear XB0_23
  have XB1_24 := Lib.hid (XB1_23.out.turn ht (by omega))
  clear XB1_23
  clear X3_23
  have G_24 := Lib.hid (G_23.out.turn ht (by omega))
  clear G_23
  have GB_24 := Lib.hid (GB_23.out.turn ht (by omega))
  clear GB_23
  clear ht
  obtain ⟨bg, bgb⟩ := GB_24.out.it
  obtain ⟨bv, bvb⟩ := VB_24.out.it
  go_wp2_with fail
  refine (laws_eqEager _ _ _ _ _ _ _ _ _ _ _ _ F0 F0 _ _ (Nat.le_refl _) G_24.out.it.1 G_24.out.it.2.1 V_24.out.it.1 V_24.out.it.2.1 G_24.out.fje V_24.out.fje HEB0.out HEB0.out).mono ?_
  rintro e w25 ⟨rfl, hb⟩
  have S_25 := Lib.hid (S_24.out.step hb)
  clear S_24
  have Bl_25 := Lib.hid (Bl_24.out.step hb)
  clear Bl_24
  have BX0_25 := Lib.hid (BX0_24.out.step hb)
  clear BX0_24
  have BX1_25 := Lib.hid (BX1_24.out.step hb)
  clear BX1_24
  have V_25 := Lib.hid (V_24.out.step hb)
  clear V_24
  have VB_25 := Lib.hid (VB_24.out.step hb)
  clear VB_24
  have XB0_25 := Lib.hid (XB0_24.out.step hb)
  clear XB0_24
  have XB1_25 := Lib.hid (XB1_24.out.step hb)
  clear XB1_24
  have G_25 := Lib.hid (G_24.out.step hb)
  clear G_24
  have GB_25 := Lib.hid (GB_24.out.step hb)
  clear GB_24
  clear hb bg bgb bv bvb
  go_wp2_with fail
  refine (laws_eqIntS _ _ _ _ _ _ F1 F1 _ w25.heap.size (Nat.le_refl _) G_25.out.it.2.2.1 V_25.out.it.2.2.1 G_25.out.fji V_25.out.fji (by have := G_25.out.it.2.2.1; have := HL1.out; omega) (by have := V_25.out.it.2.2.1; have := HL1.out; omega)).mono ?_
  rintro e w26 ⟨rfl, hb⟩
  have S_26 := Lib.hid (S_25.out.step hb)
  clear S_25
  have Bl_26 := Lib.hid (Bl_25.out.step hb)
  clear Bl_25
  have BX0_26 := Lib.hid (BX0_25.out.step hb)
  clear BX0_25
  have BX1_26 := Lib.hid (BX1_25.out.step hb)
  clear BX1_25
  have V_26 := Lib.hid (V_25.out.step hb)
  clear V_25
  have VB_26 := Lib.hid (VB_25.out.step hb)
  clear VB_25
  have XB0_26 := Lib.hid (XB0_25.out.step hb)
  clear XB0_25
  have XB1_26 := Lib.hid (XB1_25.out.step hb)
  clear XB1_25
  have G_26 := Lib.hid (G_25.out.step hb)
  clear G_25
  have GB_26 := Lib.hid (GB_25.out.step hb)
  clear GB_25
  clear hb
  obtain ⟨bg, bgb⟩ := GB_26.out.it
  go_wp2_with fail
  refine (markJ_eager _ _ _ _ _ _ _ _ _ _ F0 F1 1 _ G_26.out HEJ0.out (by omega) (by omega)).mono ?_
  rintro e w27 ⟨he, hg, ht⟩
  rw [← HQ0.out] at he
  subst he
  have S_27 := Lib.hid (S_26.out.turn ht (by omega))
  clear S_26
  have Bl_27 := Lib.hid (Bl_26.out.turn ht (by omega))
  clear Bl_26
  have BX0_27 := Lib.hid (BX0_26.out.turn ht (by omega))
  clear BX0_26
  have BX1_27 := Lib.hid (BX1_26.out.turn ht (by omega))
  clear BX1_26
  have V_27 := Lib.hid (V_26.out.turn ht (by omega))
  clear V_26
  have VB_27 := Lib.hid (VB_26.out.turn ht (by omega))
  clear VB_26
  have XB0_27 := Lib.hid (XB0_26.out.turn ht (by omega))
  clear XB0_26
  have XB1_27 := Lib.hid (XB1_26.out.turn ht (by omega))
  clear XB1_26
  have G_27 := Lib.hid hg
  clear G_26
  have GB_27 := Lib.hid (GB_26.out.turn ht (by omega))
  clear GB_26
  clear ht hg bg bgb
  have hmm10 : mm10 ≤ 2000000 := by have := G_27.out.it.2.2.1; have := HL1.out; omega
  go_wp2_with fail
  refine (markJ_ints _ _ _ _ _ _ _ _ _ _ F0 F1 1 (1 + t0) _ G_27.out (by rw [HQ0.out]) HEJ0.out (by omega) (by omega)).mono ?_
  rintro e w28 ⟨he, hg, ht⟩
  subst he
  have S_28 := Lib.hid (S_27.out.turn ht (by omega))
  clear S_27
  have Bl_28 := Lib.hid (Bl_27.out.turn ht (by omega))
  clear Bl_27
  have BX0_28 := Lib.hid (BX0_27.out.turn ht (by omega))
  clear BX0_27
  have BX1_28 := Lib.hid (BX1_27.out.turn ht (by omega))
  clear BX1_27
  have V_28 := Lib.hid (V_27.out.turn ht (by omega))
  clear V_27
  have VB_28 := Lib.hid (VB_27.out.turn ht (by omega))
  clear VB_27
  have XB0_28 := Lib.hid (XB0_27.out.turn ht (by omega))
  clear XB0_27
  have XB1_28 := Lib.hid (XB1_27.out.turn ht (by omega))
  clear XB1_27
  have G_28 := Lib.hid hg
  clear G_27
  have GB_28 := Lib.hid (GB_27.out.turn ht (by omega))
  clear GB_27
  clear ht hg
  obtain ⟨bg, bgb⟩ := GB_28.out.it
  go_wp2_with fail
  refine (heldJ_eager _ _ _ _ _ _ _ _ _ _ F0 F1 1 _ G_28.out HEJ0.out (by omega) (by omega)).mono ?_
  rintro e w29 ⟨he, hb⟩
  rw [← HQ0.out] at he
  subst he
  have S_29 := Lib.hid (S_28.out.step hb)
  clear S_28
  have Bl_29 := Lib.hid (Bl_28.out.step hb)
  clear Bl_28
  have BX0_29 := Lib.hid (BX0_28.out.step hb)
  clear BX0_28
  have BX1_29 := Lib.hid (BX1_28.out.step hb)
  clear BX1_28
  have V_29 := Lib.hid (V_28.out.step hb)
  clear V_28
  have VB_29 := Lib.hid (VB_28.out.step hb)
  clear VB_28
  have XB0_29 := Lib.hid (XB0_28.out.step hb)
  clear XB0_28
  have XB1_29 := Lib.hid (XB1_28.out.step hb)
  clear XB1_28
  have G_29 := Lib.hid (G_28.out.step hb)
  clear G_28
  have GB_29 := Lib.hid (GB_28.out.step hb)
  clear GB_28
  clear hb bg bgb
  go_wp2_with fail
  refine (heldJ_ints _ _ _ _ _ _ _ _ _ _ F0 F1 1 (1 + t0) _ G_29.out (by rw [HQ0.out]) HEJ0.out (by omega) (by omega)).mono ?_
  rintro e w30 ⟨he, hb⟩
  subst he
  have S_30 := Lib.hid (S_29.out.step hb)
  clear S_29
  have Bl_30 := Lib.hid (Bl_29.out.step hb)
  clear Bl_29
  have BX0_30 := Lib.hid (BX0_29.out.step hb)
  clear BX0_29
  have BX1_30 := Lib.hid (BX1_29.out.step hb)
  clear BX1_29
  have V_30 := Lib.hid (V_29.out.step hb)
  clear V_29
  have VB_30 := Lib.hid (VB_29.out.step hb)
  clear VB_29
  have XB0_30 := Lib.hid (XB0_29.out.step hb)
  clear XB0_29
  have XB1_30 := Lib.hid (XB1_29.out.step hb)
  clear XB1_29
  have G_30 := Lib.hid (G_29.out.step hb)
  clear G_29
  have GB_30 := Lib.hid (GB_29.out.step hb)
  clear GB_29
  clear hb
  have hnn : ((1 : Int) + (t0 : Int) + (mm10 : Int) != 1 + (t0 : Int) + (mm10 : Int)) = false := by simp
  go_upto_region 47 with fail
  go_cut [21, 22] from 142 to 153 (fun tb t22 wx => ∃ (b lo hi : Nat) (BZ0 : Option Addr) (mZ0 dZ0 : Nat) (BZ1 : Option Addr) (dZ1 : Nat) (CZ : Option Addr) (mZ dZ : Nat), tb = .pointer (some ⟨b, 0, none⟩) ∧ t22 = .slice CZ mZ dZ ∧ Hid (As lo hi (FJ lo hi BZ0 mZ0 dZ0 BZ1 dZ1 CZ mZ dZ F0 F1 1 0) wx) ∧ Hid (As b (b + 1) (fun w' => w'.cell? ⟨b, 0, none⟩ = some (.slice BZ0 mZ0 dZ0) ∧ w'.cell? ⟨b, 1, none⟩ = some (.slice BZ1 mZ0 dZ1)) wx) ∧ w30.heap.size ≤ lo ∧ w30.heap.size ≤ b ∧ (b < lo ∨ hi ≤ b) ∧ Hid (Below w30.heap.size w30 wx))
  have hla0 := S_30.out.le
  have hla1 := Bl_30.out.le
  have hla2 := BX0_30.out.le
  have hla3 := BX1_30.out.le
  have hla4 := V_30.out.le
  have hla5 := VB_30.out.le
  have hla6 := XB0_30.out.le
  have hla7 := XB1_30.out.le
  have hla8 := G_30.out.le
  have hla9 := GB_30.out.le
  case first =>
    clear V_30 VB_30 XB0_30 XB1_30 G_30 GB_30
    (try clear hs_3)
    (try clear hs_4)
    (try clear hs_5)
    (try clear hs_6)
    (try clear hs_7)
    (try clear hs_8)
    (try clear hs_9)
    (try clear hs_10)
    (try clear hv1)
    (try clear hv2)
    (try clear hv3)
    (try clear hv4)
    (try clear hv5)
    (try clear hv6)
    (try clear hv7)
    (try clear hv8)
    (try clear hla4)
    (try clear hla5)
    (try clear hla6)
    (try clear hla7)
    (try clear hla8)
    (try clear hla9)
    (try clear hla10)
    (try clear hla11)
    (try clear hla12)
    (try clear hla13)
    have z0_30 := BX0_30.out.it
    obtain ⟨z1_30, z1_30b⟩ := BX1_30.out.it
    refine wp_region_held_drew (S := fun w' => w'.cell? ⟨w.heap.size, 0, none⟩ = some (.slice A0 n0 c0) ∧ w'.cell? ⟨w.heap.size + 1, 0, none⟩ = some (.slice A1 n1 c1) ∧ w'.cell? ⟨w.heap.size + 1, 1, none⟩ = some (.slice E1 en1 ec1)) (by kernel_rfl) ⟨z0_30, z1_30, z1_30b⟩ (fun hHeld => ?_)
    clear hHeld z0_30 z1_30 z1_30b
    obtain ⟨w31, hw31⟩ : ∃ W : World, W = w30.drew := ⟨_, rfl⟩
    have hb : Below w30.heap.size w30 w31 := by rw [hw31]; exact (Below.refl _ _).drew
    rw [← hw31]
    clear hw31
    have hbs31 : w30.heap.size ≤ w31.heap.size := hb.size
    have S_31 := Lib.hid (S_30.out.step hb)
    clear S_30
    have Bl_31 := Lib.hid (Bl_30.out.step hb)
    clear Bl_30
    have BX0_31 := Lib.hid (BX0_30.out.step hb)
    clear BX0_30
    have BX1_31 := Lib.hid (BX1_30.out.step hb)
    clear BX1_30
    have Bk_31 := Lib.hid hb
    clear hb
    have z0_31 := BX0_31.out.it
    obtain ⟨z1_31, z1_31b⟩ := BX1_31.out.it
    have hHeld : w31.cell? ⟨w.heap.size, 0, none⟩ = some (.slice A0 n0 c0) ∧ w31.cell? ⟨w.heap.size + 1, 0, none⟩ = some (.slice A1 n1 c1) ∧ w31.cell? ⟨w.heap.size + 1, 1, none⟩ = some (.slice E1 en1 ec1) := ⟨z0_31, z1_31, z1_31b⟩
    refine wpAnyH_take (i := 0) (oi := ⟨some 143, _, _, _, _, _⟩) (v := ?_) rfl (by as_aux_lemma => kernel_rfl) (by as_aux_lemma => kernel_rfl) (by as_aux_lemma => kernel_rfl) (fun _ _ _ h => h) (Or.inl ⟨by rfl, ?_⟩) (by assumption) ?_; rotate_left; (focus (intro w hSw; (try dsimp only at hSw); go_simp; (try with_reducible rfl))); (try simp only [Act.put, List.setIfInBounds_toArray]); (try dsimp only [List.set_cons_zero, List.set_cons_succ])
    refine wpAnyH_take (i := 2) (oi := ⟨some 145, _, _, _, _, _⟩) (v := ?_) rfl (by as_aux_lemma => kernel_rfl) (by as_aux_lemma => kernel_rfl) (by as_aux_lemma => kernel_rfl) (fun _ _ _ h => h) (Or.inl ⟨by rfl, ?_⟩) (by assumption) ?_; rotate_left; (focus (intro w hSw; (try dsimp only at hSw); go_simp; (try with_reducible rfl))); (try simp only [Act.put, List.setIfInBounds_toArray]); (try dsimp only [List.set_cons_zero, List.set_cons_succ])
    refine wpAnyH_take (i := 4) (oi := ⟨some 147, _, _, _, _, _⟩) (v := ?_) rfl (by as_aux_lemma => kernel_rfl) (by as_aux_lemma => kernel_rfl) (by as_aux_lemma => kernel_rfl) (fun _ _ _ h => h) (Or.inl ⟨by rfl, ?_⟩) (by assumption) ?_; rotate_left; (focus (intro w hSw; (try dsimp only at hSw); go_simp; (try with_reducible rfl))); (try simp only [Act.put, List.setIfInBounds_toArray]); (try dsimp only [List.set_cons_zero, List.set_cons_succ])
    refine wpAnyH_take (i := 6) (oi := ⟨some 149, _, _, _, _, _⟩) (v := ?_) rfl (by as_aux_lemma => kernel_rfl) (by as_aux_lemma => kernel_rfl) (by as_aux_lemma => kernel_rfl) (fun _ _ _ h => h) (Or.inl ⟨by rfl, ?_⟩) (by assumption) ?_; rotate_left; (focus (intro w hSw; (try dsimp only at hSw); go_simp; (try with_reducible rfl))); (try simp only [Act.put, List.setIfInBounds_toArray]); (try dsimp only [List.set_cons_zero, List.set_cons_succ])
    refine wpAnyH_ready (rs := [1, 12]) (by kernel_rfl) (by simp) ?_; refine AllReadyH.cons (o := ⟨some 144, _, _, _, _, _⟩) rfl (fun K hK => ?_) (AllReadyH.cons (o := ⟨some 21, _, _, _, _, _⟩) rfl (fun K hK => ?_) AllReadyH.nil)
    · go_simp
      go_at_call 19
      refine (laws_toGraph A0 n0 c0 gs0 _ w.heap.size Bl_31.out.le HN0.out S_31.out.it.1 HG0.out).mono ?_
      rintro e w32 ⟨B32, m32, d32, rfl, hn, hown, hb⟩
      have M32 := Lib.hid hn
      have NC32 := Lib.hid hown.ncap
      have hbs32 : w31.heap.size ≤ w32.heap.size := hb.size
      have S_32 := Lib.hid (S_31.out.step hb)
      clear S_31
      have Bl_32 := Lib.hid (Bl_31.out.step hb)
      clear Bl_31
      have BX0_32 := Lib.hid (BX0_31.out.step hb)
      clear BX0_31
      have BX1_32 := Lib.hid (BX1_31.out.step hb)
      clear BX1_31
      have Bk_32 := Lib.hid (Bk_31.out.trans (hb.mono (by omega)))
      clear Bk_31
      have X0_32 := Lib.hid (graph_start hown)
      clear hown hb hn
      clear z0_31 z1_31 z1_31b
      have z0_32 := BX0_32.out.it
      obtain ⟨z1_32, z1_32b⟩ := BX1_32.out.it
      refine hK.out _ _ ⟨z0_32, z1_32, z1_32b⟩ (fun hHeld => ?_); clear hK K; (try simp only [Act.put, List.setIfInBounds_toArray]); (try dsimp only [List.set_cons_zero, List.set_cons_succ])
      refine wpAnyH_ready (rs := [3, 12]) (by kernel_rfl) (by simp) ?_; refine AllReadyH.cons (o := ⟨some 146, _, _, _, _, _⟩) rfl (fun K hK => ?_) (AllReadyH.cons (o := ⟨some 21, _, _, _, _, _⟩) rfl (fun K hK => ?_) AllReadyH.nil)
      · go_simp
        go_at_call 20
        refine (laws_toEager A1 E1 n1 c1 en1 ec1 st1 _ w.heap.size Bl_32.out.le HN1.out HE1.out S_32.out.it.2.1 HEG1.out).mono ?_
        rintro e w33 ⟨B33, m33, d33, D33, em33, ed33, rfl, hown, hb⟩
        have hn := hown.1
        have hen := hown.2.1
        have M33 := Lib.hid hn
        have EM33 := Lib.hid hen
        have hbs33 : w32.heap.size ≤ w33.heap.size := hb.size
        have S_33 := Lib.hid (S_32.out.step hb)
        clear S_32
        have Bl_33 := Lib.hid (Bl_32.out.step hb)
        clear Bl_32
        have BX0_33 := Lib.hid (BX0_32.out.step hb)
        clear BX0_32
        have BX1_33 := Lib.hid (BX1_32.out.step hb)
        clear BX1_32
        have Bk_33 := Lib.hid (Bk_32.out.trans (hb.mono (by omega)))
        clear Bk_32
        have X0_33 := Lib.hid (X0_32.out.step hb)
        clear X0_32
        have X1_33 := Lib.hid (eager_start hown)
        clear hown hb hn hen
        clear z0_32 z1_32 z1_32b
        have z0_33 := BX0_33.out.it
        obtain ⟨z1_33, z1_33b⟩ := BX1_33.out.it
        refine hK.out _ _ ⟨z0_33, z1_33, z1_33b⟩ (fun hHeld => ?_); clear hK K; (try simp only [Act.put, List.setIfInBounds_toArray]); (try dsimp only [List.set_cons_zero, List.set_cons_succ])
        refine wpAnyH_ready (rs := [5, 12]) (by kernel_rfl) (by simp) ?_; refine AllReadyH.cons (o := ⟨some 148, _, _, _, _, _⟩) rfl (fun K hK => ?_) (AllReadyH.cons (o := ⟨some 21, _, _, _, _, _⟩) rfl (fun K hK => ?_) AllReadyH.nil)
        · go_simp
          go_at_call 21
          refine (laws_toIntS A2 n2 c2 xs2 _ w.heap.size Bl_33.out.le HN2.out S_33.out.it.2.2.1 (by omega)).mono ?_
          rintro e w34 ⟨rfl, hown, hb⟩
          have hbs34 : w33.heap.size ≤ w34.heap.size := hb.size
          have S_34 := Lib.hid (S_33.out.step hb)
          clear S_33
          have Bl_34 := Lib.hid (Bl_33.out.step hb)
          clear Bl_33
          have BX0_34 := Lib.hid (BX0_33.out.step hb)
          clear BX0_33
          have BX1_34 := Lib.hid (BX1_33.out.step hb)
          clear BX1_33
          have Bk_34 := Lib.hid (Bk_33.out.trans (hb.mono (by omega)))
          clear Bk_33
          have X0_34 := Lib.hid (X0_33.out.step hb)
          clear X0_33
          have X1_34 := Lib.hid (X1_33.out.step hb)
          clear X1_33
          have X2_34 := Lib.hid (row_start hown)
          clear hown hb
          clear z0_33 z1_33 z1_33b
          have z0_34 := BX0_34.out.it
          obtain ⟨z1_34, z1_34b⟩ := BX1_34.out.it
          refine hK.out _ _ ⟨z0_34, z1_34, z1_34b⟩ (fun hHeld => ?_); clear hK K; (try simp only [Act.put, List.setIfInBounds_toArray]); (try dsimp only [List.set_cons_zero, List.set_cons_succ])
          refine wpAnyH_ready (rs := [7, 12]) (by kernel_rfl) (by simp) ?_; refine AllReadyH.cons (o := ⟨some 150, _, _, _, _, _⟩) rfl (fun K hK => ?_) (AllReadyH.cons (o := ⟨some 21, _, _, _, _, _⟩) rfl (fun K hK => ?_) AllReadyH.nil)
          · go_simp
            go_at_call 21
            refine (laws_toIntS A3 n3 c3 xs3 _ w.heap.size Bl_34.out.le HN3.out S_34.out.it.2.2.2 (by omega)).mono ?_
            rintro e w35 ⟨rfl, hown, hb⟩
            have hbs35 : w34.heap.size ≤ w35.heap.size := hb.size
            have S_35 := Lib.hid (S_34.out.step hb)
            clear S_34
            have Bl_35 := Lib.hid (Bl_34.out.step hb)
            clear Bl_34
            have BX0_35 := Lib.hid (BX0_34.out.step hb)
            clear BX0_34
            have BX1_35 := Lib.hid (BX1_34.out.step hb)
            clear BX1_34
            have Bk_35 := Lib.hid (Bk_34.out.trans (hb.mono (by omega)))
            clear Bk_34
            have X0_35 := Lib.hid (X0_34.out.step hb)
            clear X0_34
            have X1_35 := Lib.hid (X1_34.out.step hb)
            clear X1_34
            have X2_35 := Lib.hid (X2_34.out.step hb)
            clear X2_34
            have X3_35 := Lib.hid (row_start hown)
            clear hown hb
            clear z0_34 z1_34 z1_34b
            have z0_35 := BX0_35.out.it
            obtain ⟨z1_35, z1_35b⟩ := BX1_35.out.it
            refine hK.out _ _ ⟨z0_35, z1_35, z1_35b⟩ (fun hHeld => ?_); clear hK K; (try simp only [Act.put, List.setIfInBounds_toArray]); (try dsimp only [List.set_cons_zero, List.set_cons_succ])
            refine wpAnyH_ready (rs := [8, 12]) (by kernel_rfl) (by simp) ?_; refine AllReadyH.cons (o := ⟨some 151, _, _, _, _, _⟩) rfl (fun K hK => ?_) (AllReadyH.cons (o := ⟨some 21, _, _, _, _, _⟩) rfl (fun K hK => ?_) AllReadyH.nil)
            · go_simp
              go_at_call 6
              refine (HIM.out B32 m32 d32 B33 m33 d33 D33 em33 ed33 _ n2 _ _ n3 _ _ M32.out NC32.out X0_35.out.graph M33.out EM33.out X1_35.out.eager HN2.out (Nat.le_refl _) X2_35.out.ints HN3.out (Nat.le_refl _) X3_35.out.ints).mono ?_
              rintro e w36 hret
              obtain ⟨BZ0, mZ0, dZ0, BZ1, dZ1, CZ, mZ, dZ, rfl, hown, hb⟩ := hret.joined
              have hbs36 : w35.heap.size ≤ w36.heap.size := hb.size
              clear X0_35
              clear X1_35
              clear X2_35
              clear X3_35
              have S_36 := Lib.hid (S_35.out.step hb)
              clear S_35
              have Bl_36 := Lib.hid (Bl_35.out.step hb)
              clear Bl_35
              have BX0_36 := Lib.hid (BX0_35.out.step hb)
              clear BX0_35
              have BX1_36 := Lib.hid (BX1_35.out.step hb)
              clear BX1_35
              have Bk_36 := Lib.hid (Bk_35.out.trans (hb.mono (by omega)))
              clear Bk_35
              have Z_36 := Lib.hid hown
              clear hown hb
              clear z0_35 z1_35 z1_35b
              have z0_36 := BX0_36.out.it
              obtain ⟨z1_36, z1_36b⟩ := BX1_36.out.it
              refine hK.out _ _ ⟨z0_36, z1_36, z1_36b⟩ (fun hHeld => ?_); clear hK K; (try simp only [Act.put, List.setIfInBounds_toArray]); (try dsimp only [List.set_cons_zero, List.set_cons_succ])
              refine wpAnyH_take (i := 9) (oi := ⟨some 142, _, _, _, _, _⟩) (v := ?_) rfl (by as_aux_lemma => kernel_rfl) (by as_aux_lemma => kernel_rfl) (by as_aux_lemma => kernel_rfl) (fun _ _ _ h => h) (Or.inl ⟨by rfl, ?_⟩) (by assumption) ?_; rotate_left; (focus (intro w hSw; (try dsimp only at hSw); go_simp; (try with_reducible rfl))); (try simp only [Act.put, List.setIfInBounds_toArray]); (try dsimp only [List.set_cons_zero, List.set_cons_succ])
              refine wpAnyH_take (i := 10) (oi := ⟨some 152, _, _, _, _, _⟩) (v := ?_) rfl (by as_aux_lemma => kernel_rfl) (by as_aux_lemma => kernel_rfl) (by as_aux_lemma => kernel_rfl) (fun _ _ _ h => h) (Or.inl ⟨by rfl, ?_⟩) (by assumption) ?_; rotate_left; (focus (intro w hSw; (try dsimp only at hSw); go_simp; (try with_reducible rfl))); (try simp only [Act.put, List.setIfInBounds_toArray]); (try dsimp only [List.set_cons_zero, List.set_cons_succ])
              refine wpAnyH_take (i := 11) (oi := ⟨some 153, _, _, _, _, _⟩) (v := ?_) rfl (by as_aux_lemma => kernel_rfl) (by as_aux_lemma => kernel_rfl) (by as_aux_lemma => kernel_rfl) (fun _ _ _ h => h) (Or.inl ⟨by rfl, ?_⟩) (by assumption) ?_; rotate_left; (focus (intro w hSw; (try dsimp only at hSw); go_simp; (try with_reducible rfl))); (try simp only [Act.put, List.setIfInBounds_toArray]); (try dsimp only [List.set_cons_zero, List.set_cons_succ])
              refine wpAnyH_ready (rs := [12]) (by as_aux_lemma => kernel_rfl) (by simp) ?_; refine AllReadyH.cons (o := ⟨some 21, _, _, _, _, _⟩) rfl (fun K hK => ?_) AllReadyH.nil; go_simp
              obtain ⟨w37, hw37⟩ : ∃ W : World, W = w36.alloc (.cells #[.slice none 0 0, .slice none 0 0] 29) := ⟨_, rfl⟩
              have hb : Below w36.heap.size w36 w37 := by rw [hw37]; exact (Below.refl _ _).alloc (Nat.le_refl _) _
              have hbs37 : w37.heap.size = w36.heap.size + 1 := by rw [hw37]; simp
              have S_37 := Lib.hid (S_36.out.step hb)
              clear S_36
              have Bl_37 := Lib.hid (Bl_36.out.step hb)
              clear Bl_36
              have BX0_37 := Lib.hid (BX0_36.out.step hb)
              clear BX0_36
              have BX1_37 := Lib.hid (BX1_36.out.step hb)
              clear BX1_36
              have Bk_37 := Lib.hid (Bk_36.out.trans (hb.mono (by omega)))
              clear Bk_36
              have Z_37 := Lib.hid (Z_36.out.step hb)
              clear Z_36
              have NB_37 : Hid (Bx w36.heap.size [.slice none 0 0, .slice none 0 0] w37) := by rw [hw37]; exact Bx.start w36 _ _
              have hbs37b : w36.heap.size < w37.heap.size := by omega
              clear hb z0_36 z1_36 z1_36b
              have z0_37 := BX0_37.out.it
              obtain ⟨z1_37, z1_37b⟩ := BX1_37.out.it
              rw [← hw37]
              clear hw37 hbs37
              refine hK.out _ _ ⟨z0_37, z1_37, z1_37b⟩ (fun hHeld => ?_); clear hK K; (try simp only [Act.put, List.setIfInBounds_toArray]); (try dsimp only [List.set_cons_zero, List.set_cons_succ])
              have hvl : w36.heap.size ≤ w37.heap.size := Z_37.out.le
              have y0 := NB_37.out.c 0 _ rfl
              have x0 := NB_37.out.f 0
              have y1 := NB_37.out.c 1 _ rfl
              have x1 := NB_37.out.f 1
              refine wpAnyH_ready (rs := [13]) (by as_aux_lemma => kernel_rfl) (by simp) ?_; refine AllReadyH.cons (o := ⟨none, _, _, _, _, _⟩) rfl (fun K hK => ?_) AllReadyH.nil; go_simp
              obtain ⟨w38, hw38⟩ : ∃ W : World, W = ((w37.setCell ⟨w36.heap.size, 0, none⟩ (.slice BZ0 mZ0 dZ0)).setCell ⟨w36.heap.size, 1, none⟩ (.slice BZ1 mZ0 dZ1)) := ⟨_, rfl⟩
              have ht : Tch (w36.heap.size) (w36.heap.size + 1) w37 w38 := by rw [hw38]; exact ((Tch.refl _ _ _).trans (Bx.tch _ 0 _)).trans (Bx.tch _ 1 _)
              have NC : Hid (Bx (w36.heap.size) [.slice BZ0 mZ0 dZ0, .slice BZ1 mZ0 dZ1] w38) := by rw [hw38]; exact ((NB_37.out.set 0 (by simp) (.slice BZ0 mZ0 dZ0)).set 1 (by simp) (.slice BZ1 mZ0 dZ1))
              have hbs38 := ht.size
              have S_38 := Lib.hid (S_37.out.turn ht (by omega))
              clear S_37
              have Bl_38 := Lib.hid (Bl_37.out.turn ht (by omega))
              clear Bl_37
              have BX0_38 := Lib.hid (BX0_37.out.turn ht (by omega))
              clear BX0_37
              have BX1_38 := Lib.hid (BX1_37.out.turn ht (by omega))
              clear BX1_37
              have Bk_38 := Lib.hid (Bk_37.out.trans (ht.below (by omega) (by omega)))
              clear Bk_37
              have Z_38 := Lib.hid (Z_37.out.turn ht (by omega))
              clear Z_37
              clear NB_37
              clear ht y0 x0 y1 x1 z0_37 z1_37 z1_37b
              have z0_38 := BX0_38.out.it
              obtain ⟨z1_38, z1_38b⟩ := BX1_38.out.it
              rw [← hw38]
              clear hw38
              refine hK.out _ _ ⟨z0_38, z1_38, z1_38b⟩ (fun hHeld => ?_); clear hK K; (try simp only [Act.put, List.setIfInBounds_toArray]); (try dsimp only [List.set_cons_zero, List.set_cons_succ])
              refine wpAnyH_ready (rs := [14]) (by as_aux_lemma => kernel_rfl) (by simp) ?_; refine AllReadyH.cons (o := ⟨some 22, _, _, _, _, _⟩) rfl (fun K hK => ?_) AllReadyH.nil; go_simp
              refine hK.out _ _ ⟨z0_38, z1_38, z1_38b⟩ (fun hHeld => ?_); clear hK K; (try simp only [Act.put, List.setIfInBounds_toArray]); (try dsimp only [List.set_cons_zero, List.set_cons_succ])
              refine wpAnyH_done (by kernel_rfl) ?_ _
              go_wp2_with fail
              go_meet
              exact ⟨w36.heap.size, w35.heap.size, w36.heap.size, _, _, _, _, _, _, _, _, rfl, rfl, Z_38.out, Bx.as2 NC.out, by omega, by omega, by omega, Bk_38.out⟩
            · go_simp
              obtain ⟨w36, hw36⟩ : ∃ W : World, W = w35.alloc (.cells #[.slice none 0 0, .slice none 0 0] 29) := ⟨_, rfl⟩
              have hb : Below w35.heap.size w35 w36 := by rw [hw36]; exact (Below.refl _ _).alloc (Nat.le_refl _) _
              have hbs36 : w36.heap.size = w35.heap.size + 1 := by rw [hw36]; simp
              have S_36 := Lib.hid (S_35.out.step hb)
              clear S_35
              have Bl_36 := Lib.hid (Bl_35.out.step hb)
              clear Bl_35
              have BX0_36 := Lib.hid (BX0_35.out.step hb)
              clear BX0_35
              have BX1_36 := Lib.hid (BX1_35.out.step hb)
              clear BX1_35
              have Bk_36 := Lib.hid (Bk_35.out.trans (hb.mono (by omega)))
              clear Bk_35
              have X0_36 := Lib.hid (X0_35.out.step hb)
              clear X0_35
              have X1_36 := Lib.hid (X1_35.out.step hb)
              clear X1_35
              have X2_36 := Lib.hid (X2_35.out.step hb)
              clear X2_35
              have X3_36 := Lib.hid (X3_35.out.step hb)
              clear X3_35
              have NB_36 : Hid (Bx w35.heap.size [.slice none 0 0, .slice none 0 0] w36) := by rw [hw36]; exact Bx.start w35 _ _
              have hbs36b : w35.heap.size < w36.heap.size := by omega
              clear hb z0_35 z1_35 z1_35b
              have z0_36 := BX0_36.out.it
              obtain ⟨z1_36, z1_36b⟩ := BX1_36.out.it
              rw [← hw36]
              clear hw36 hbs36
              refine hK.out _ _ ⟨z0_36, z1_36, z1_36b⟩ (fun hHeld => ?_); clear hK K; (try simp only [Act.put, List.setIfInBounds_toArray]); (try dsimp only [List.set_cons_zero, List.set_cons_succ])
              refine wpAnyH_ready (rs := [8]) (by as_aux_lemma => kernel_rfl) (by simp) ?_; refine AllReadyH.cons (o := ⟨some 151, _, _, _, _, _⟩) rfl (fun K hK => ?_) AllReadyH.nil; go_simp
              go_at_call 6
              refine (HIM.out B32 m32 d32 B33 m33 d33 D33 em33 ed33 _ n2 _ _ n3 _ _ M32.out NC32.out X0_36.out.graph M33.out EM33.out X1_36.out.eager HN2.out (Nat.le_refl _) X2_36.out.ints HN3.out (Nat.le_refl _) X3_36.out.ints).mono ?_
              rintro e w37 hret
              obtain ⟨BZ0, mZ0, dZ0, BZ1, dZ1, CZ, mZ, dZ, rfl, hown, hb⟩ := hret.joined
              have hbs37 : w36.heap.size ≤ w37.heap.size := hb.size
              clear X0_36
              clear X1_36
              clear X2_36
              clear X3_36
              have S_37 := Lib.hid (S_36.out.step hb)
              clear S_36
              have Bl_37 := Lib.hid (Bl_36.out.step hb)
              clear Bl_36
              have BX0_37 := Lib.hid (BX0_36.out.step hb)
              clear BX0_36
              have BX1_37 := Lib.hid (BX1_36.out.step hb)
              clear BX1_36
              have Bk_37 := Lib.hid (Bk_36.out.trans (hb.mono (by omega)))
              clear Bk_36
              have NB_37 := Lib.hid (NB_36.out.step hb)
              clear NB_36
              have Z_37 := Lib.hid hown
              clear hown hb
              clear z0_36 z1_36 z1_36b
              have z0_37 := BX0_37.out.it
              obtain ⟨z1_37, z1_37b⟩ := BX1_37.out.it
              refine hK.out _ _ ⟨z0_37, z1_37, z1_37b⟩ (fun hHeld => ?_); clear hK K; (try simp only [Act.put, List.setIfInBounds_toArray]); (try dsimp only [List.set_cons_zero, List.set_cons_succ])
              refine wpAnyH_take (i := 9) (oi := ⟨some 142, _, _, _, _, _⟩) (v := ?_) rfl (by as_aux_lemma => kernel_rfl) (by as_aux_lemma => kernel_rfl) (by as_aux_lemma => kernel_rfl) (fun _ _ _ h => h) (Or.inl ⟨by rfl, ?_⟩) (by assumption) ?_; rotate_left; (focus (intro w hSw; (try dsimp only at hSw); go_simp; (try with_reducible rfl))); (try simp only [Act.put, List.setIfInBounds_toArray]); (try dsimp only [List.set_cons_zero, List.set_cons_succ])
              refine wpAnyH_take (i := 10) (oi := ⟨some 152, _, _, _, _, _⟩) (v := ?_) rfl (by as_aux_lemma => kernel_rfl) (by as_aux_lemma => kernel_rfl) (by as_aux_lemma => kernel_rfl) (fun _ _ _ h => h) (Or.inl ⟨by rfl, ?_⟩) (by assumption) ?_; rotate_left; (focus (intro w hSw; (try dsimp only at hSw); go_simp; (try with_reducible rfl))); (try simp only [Act.put, List.setIfInBounds_toArray]); (try dsimp only [List.set_cons_zero, List.set_cons_succ])
              refine wpAnyH_take (i := 11) (oi := ⟨some 153, _, _, _, _, _⟩) (v := ?_) rfl (by as_aux_lemma => kernel_rfl) (by as_aux_lemma => kernel_rfl) (by as_aux_lemma => kernel_rfl) (fun _ _ _ h => h) (Or.inl ⟨by rfl, ?_⟩) (by assumption) ?_; rotate_left; (focus (intro w hSw; (try dsimp only at hSw); go_simp; (try with_reducible rfl))); (try simp only [Act.put, List.setIfInBounds_toArray]); (try dsimp only [List.set_cons_zero, List.set_cons_succ])
              have hvl : w37.heap.size ≤ w37.heap.size := Z_37.out.le
              have y0 := NB_37.out.c 0 _ rfl
              have x0 := NB_37.out.f 0
              have y1 := NB_37.out.c 1 _ rfl
              have x1 := NB_37.out.f 1
              refine wpAnyH_ready (rs := [13]) (by as_aux_lemma => kernel_rfl) (by simp) ?_; refine AllReadyH.cons (o := ⟨none, _, _, _, _, _⟩) rfl (fun K hK => ?_) AllReadyH.nil; go_simp
              obtain ⟨w38, hw38⟩ : ∃ W : World, W = ((w37.setCell ⟨w35.heap.size, 0, none⟩ (.slice BZ0 mZ0 dZ0)).setCell ⟨w35.heap.size, 1, none⟩ (.slice BZ1 mZ0 dZ1)) := ⟨_, rfl⟩
              have ht : Tch (w35.heap.size) (w35.heap.size + 1) w37 w38 := by rw [hw38]; exact ((Tch.refl _ _ _).trans (Bx.tch _ 0 _)).trans (Bx.tch _ 1 _)
              have NC : Hid (Bx (w35.heap.size) [.slice BZ0 mZ0 dZ0, .slice BZ1 mZ0 dZ1] w38) := by rw [hw38]; exact ((NB_37.out.set 0 (by simp) (.slice BZ0 mZ0 dZ0)).set 1 (by simp) (.slice BZ1 mZ0 dZ1))
              have hbs38 := ht.size
              have S_38 := Lib.hid (S_37.out.turn ht (by omega))
              clear S_37
              have Bl_38 := Lib.hid (Bl_37.out.turn ht (by omega))
              clear Bl_37
              have BX0_38 := Lib.hid (BX0_37.out.turn ht (by omega))
              clear BX0_37
              have BX1_38 := Lib.hid (BX1_37.out.turn ht (by omega))
              clear BX1_37
              have Bk_38 := Lib.hid (Bk_37.out.trans (ht.below (by omega) (by omega)))
              clear Bk_37
              clear NB_37
              have Z_38 := Lib.hid (Z_37.out.turn ht (by omega))
              clear Z_37
              clear ht y0 x0 y1 x1 z0_37 z1_37 z1_37b
              have z0_38 := BX0_38.out.it
              obtain ⟨z1_38, z1_38b⟩ := BX1_38.out.it
              rw [← hw38]
              clear hw38
              refine hK.out _ _ ⟨z0_38, z1_38, z1_38b⟩ (fun hHeld => ?_); clear hK K; (try simp only [Act.put, List.setIfInBounds_toArray]); (try dsimp only [List.set_cons_zero, List.set_cons_succ])
              refine wpAnyH_ready (rs := [14]) (by as_aux_lemma => kernel_rfl) (by simp) ?_; refine AllReadyH.cons (o := ⟨some 22, _, _, _, _, _⟩) rfl (fun K hK => ?_) AllReadyH.nil; go_simp
              refine hK.out _ _ ⟨z0_38, z1_38, z1_38b⟩ (fun hHeld => ?_); clear hK K; (try simp only [Act.put, List.setIfInBounds_toArray]); (try dsimp only [List.set_cons_zero, List.set_cons_succ])
              refine wpAnyH_done (by kernel_rfl) ?_ _
              go_wp2_with fail
              go_meet
              exact ⟨w35.heap.size, w36.heap.size, w37.heap.size, _, _, _, _, _, _, _, _, rfl, rfl, Z_38.out, Bx.as2 NC.out, by omega, by omega, by omega, Bk_38.out⟩
          · go_simp
            obtain ⟨w35, hw35⟩ : ∃ W : World, W = w34.alloc (.cells #[.slice none 0 0, .slice none 0 0] 29) := ⟨_, rfl⟩
            have hb : Below w34.heap.size w34 w35 := by rw [hw35]; exact (Below.refl _ _).alloc (Nat.le_refl _) _
            have hbs35 : w35.heap.size = w34.heap.size + 1 := by rw [hw35]; simp
            have S_35 := Lib.hid (S_34.out.step hb)
            clear S_34
            have Bl_35 := Lib.hid (Bl_34.out.step hb)
            clear Bl_34
            have BX0_35 := Lib.hid (BX0_34.out.step hb)
            clear BX0_34
            have BX1_35 := Lib.hid (BX1_34.out.step hb)
            clear BX1_34
            have Bk_35 := Lib.hid (Bk_34.out.trans (hb.mono (by omega)))
            clear Bk_34
            have X0_35 := Lib.hid (X0_34.out.step hb)
            clear X0_34
            have X1_35 := Lib.hid (X1_34.out.step hb)
            clear X1_34
            have X2_35 := Lib.hid (X2_34.out.step hb)
            clear X2_34
            have NB_35 : Hid (Bx w34.heap.size [.slice none 0 0, .slice none 0 0] w35) := by rw [hw35]; exact Bx.start w34 _ _
            have hbs35b : w34.heap.size < w35.heap.size := by omega
            clear hb z0_34 z1_34 z1_34b
            have z0_35 := BX0_35.out.it
            obtain ⟨z1_35, z1_35b⟩ := BX1_35.out.it
            rw [← hw35]
            clear hw35 hbs35
            refine hK.out _ _ ⟨z0_35, z1_35, z1_35b⟩ (fun hHeld => ?_); clear hK K; (try simp only [Act.put, List.setIfInBounds_toArray]); (try dsimp only [List.set_cons_zero, List.set_cons_succ])
            refine wpAnyH_ready (rs := [7]) (by as_aux_lemma => kernel_rfl) (by simp) ?_; refine AllReadyH.cons (o := ⟨some 150, _, _, _, _, _⟩) rfl (fun K hK => ?_) AllReadyH.nil; go_simp
            go_at_call 21
            refine (laws_toIntS A3 n3 c3 xs3 _ w.heap.size Bl_35.out.le HN3.out S_35.out.it.2.2.2 (by omega)).mono ?_
            rintro e w36 ⟨rfl, hown, hb⟩
            have hbs36 : w35.heap.size ≤ w36.heap.size := hb.size
            have S_36 := Lib.hid (S_35.out.step hb)
            clear S_35
            have Bl_36 := Lib.hid (Bl_35.out.step hb)
            clear Bl_35
            have BX0_36 := Lib.hid (BX0_35.out.step hb)
            clear BX0_35
            have BX1_36 := Lib.hid (BX1_35.out.step hb)
            clear BX1_35
            have Bk_36 := Lib.hid (Bk_35.out.trans (hb.mono (by omega)))
            clear Bk_35
            have X0_36 := Lib.hid (X0_35.out.step hb)
            clear X0_35
            have X1_36 := Lib.hid (X1_35.out.step hb)
            clear X1_35
            have X2_36 := Lib.hid (X2_35.out.step hb)
            clear X2_35
            have NB_36 := Lib.hid (NB_35.out.step hb)
            clear NB_35
            have X3_36 := Lib.hid (row_start hown)
            clear hown hb
            clear z0_35 z1_35 z1_35b
            have z0_36 := BX0_36.out.it
            obtain ⟨z1_36, z1_36b⟩ := BX1_36.out.it
            refine hK.out _ _ ⟨z0_36, z1_36, z1_36b⟩ (fun hHeld => ?_); clear hK K; (try simp only [Act.put, List.setIfInBounds_toArray]); (try dsimp only [List.set_cons_zero, List.set_cons_succ])
            refine wpAnyH_ready (rs := [8]) (by as_aux_lemma => kernel_rfl) (by simp) ?_; refine AllReadyH.cons (o := ⟨some 151, _, _, _, _, _⟩) rfl (fun K hK => ?_) AllReadyH.nil; go_simp
            go_at_call 6
            refine (HIM.out B32 m32 d32 B33 m33 d33 D33 em33 ed33 _ n2 _ _ n3 _ _ M32.out NC32.out X0_36.out.graph M33.out EM33.out X1_36.out.eager HN2.out (Nat.le_refl _) X2_36.out.ints HN3.out (Nat.le_refl _) X3_36.out.ints).mono ?_
            rintro e w37 hret
            obtain ⟨BZ0, mZ0, dZ0, BZ1, dZ1, CZ, mZ, dZ, rfl, hown, hb⟩ := hret.joined
            have hbs37 : w36.heap.size ≤ w37.heap.size := hb.size
            clear X0_36
            clear X1_36
            clear X2_36
            clear X3_36
            have S_37 := Lib.hid (S_36.out.step hb)
            clear S_36
            have Bl_37 := Lib.hid (Bl_36.out.step hb)
            clear Bl_36
            have BX0_37 := Lib.hid (BX0_36.out.step hb)
            clear BX0_36
            have BX1_37 := Lib.hid (BX1_36.out.step hb)
            clear BX1_36
            have Bk_37 := Lib.hid (Bk_36.out.trans (hb.mono (by omega)))
            clear Bk_36
            have NB_37 := Lib.hid (NB_36.out.step hb)
            clear NB_36
            have Z_37 := Lib.hid hown
            clear hown hb
            clear z0_36 z1_36 z1_36b
            have z0_37 := BX0_37.out.it
            obtain ⟨z1_37, z1_37b⟩ := BX1_37.out.it
            refine hK.out _ _ ⟨z0_37, z1_37, z1_37b⟩ (fun hHeld => ?_); clear hK K; (try simp only [Act.put, List.setIfInBounds_toArray]); (try dsimp only [List.set_cons_zero, List.set_cons_succ])
            refine wpAnyH_take (i := 9) (oi := ⟨some 142, _, _, _, _, _⟩) (v := ?_) rfl (by as_aux_lemma => kernel_rfl) (by as_aux_lemma => kernel_rfl) (by as_aux_lemma => kernel_rfl) (fun _ _ _ h => h) (Or.inl ⟨by rfl, ?_⟩) (by assumption) ?_; rotate_left; (focus (intro w hSw; (try dsimp only at hSw); go_simp; (try with_reducible rfl))); (try simp only [Act.put, List.setIfInBounds_toArray]); (try dsimp only [List.set_cons_zero, List.set_cons_succ])
            refine wpAnyH_take (i := 10) (oi := ⟨some 152, _, _, _, _, _⟩) (v := ?_) rfl (by as_aux_lemma => kernel_rfl) (by as_aux_lemma => kernel_rfl) (by as_aux_lemma => kernel_rfl) (fun _ _ _ h => h) (Or.inl ⟨by rfl, ?_⟩) (by assumption) ?_; rotate_left; (focus (intro w hSw; (try dsimp only at hSw); go_simp; (try with_reducible rfl))); (try simp only [Act.put, List.setIfInBounds_toArray]); (try dsimp only [List.set_cons_zero, List.set_cons_succ])
            refine wpAnyH_take (i := 11) (oi := ⟨some 153, _, _, _, _, _⟩) (v := ?_) rfl (by as_aux_lemma => kernel_rfl) (by as_aux_lemma => kernel_rfl) (by as_aux_lemma => kernel_rfl) (fun _ _ _ h => h) (Or.inl ⟨by rfl, ?_⟩) (by assumption) ?_; rotate_left; (focus (intro w hSw; (try dsimp only at hSw); go_simp; (try with_reducible rfl))); (try simp only [Act.put, List.setIfInBounds_toArray]); (try dsimp only [List.set_cons_zero, List.set_cons_succ])
            have hvl : w37.heap.size ≤ w37.heap.size := Z_37.out.le
            have y0 := NB_37.out.c 0 _ rfl
            have x0 := NB_37.out.f 0
            have y1 := NB_37.out.c 1 _ rfl
            have x1 := NB_37.out.f 1
            refine wpAnyH_ready (rs := [13]) (by as_aux_lemma => kernel_rfl) (by simp) ?_; refine AllReadyH.cons (o := ⟨none, _, _, _, _, _⟩) rfl (fun K hK => ?_) AllReadyH.nil; go_simp
            obtain ⟨w38, hw38⟩ : ∃ W : World, W = ((w37.setCell ⟨w34.heap.size, 0, none⟩ (.slice BZ0 mZ0 dZ0)).setCell ⟨w34.heap.size, 1, none⟩ (.slice BZ1 mZ0 dZ1)) := ⟨_, rfl⟩
            have ht : Tch (w34.heap.size) (w34.heap.size + 1) w37 w38 := by rw [hw38]; exact ((Tch.refl _ _ _).trans (Bx.tch _ 0 _)).trans (Bx.tch _ 1 _)
            have NC : Hid (Bx (w34.heap.size) [.slice BZ0 mZ0 dZ0, .slice BZ1 mZ0 dZ1] w38) := by rw [hw38]; exact ((NB_37.out.set 0 (by simp) (.slice BZ0 mZ0 dZ0)).set 1 (by simp) (.slice BZ1 mZ0 dZ1))
            have hbs38 := ht.size
            have S_38 := Lib.hid (S_37.out.turn ht (by omega))
            clear S_37
            have Bl_38 := Lib.hid (Bl_37.out.turn ht (by omega))
            clear Bl_37
            have BX0_38 := Lib.hid (BX0_37.out.turn ht (by omega))
            clear BX0_37
            have BX1_38 := Lib.hid (BX1_37.out.turn ht (by omega))
            clear BX1_37
            have Bk_38 := Lib.hid (Bk_37.out.trans (ht.below (by omega) (by omega)))
            clear Bk_37
            clear NB_37
            have Z_38 := Lib.hid (Z_37.out.turn ht (by omega))
            clear Z_37
            clear ht y0 x0 y1 x1 z0_37 z1_37 z1_37b
            have z0_38 := BX0_38.out.it
            obtain ⟨z1_38, z1_38b⟩ := BX1_38.out.it
            rw [← hw38]
            clear hw38
            refine hK.out _ _ ⟨z0_38, z1_38, z1_38b⟩ (fun hHeld => ?_); clear hK K; (try simp only [Act.put, List.setIfInBounds_toArray]); (try dsimp only [List.set_cons_zero, List.set_cons_succ])
            refine wpAnyH_ready (rs := [14]) (by as_aux_lemma => kernel_rfl) (by simp) ?_; refine AllReadyH.cons (o := ⟨some 22, _, _, _, _, _⟩) rfl (fun K hK => ?_) AllReadyH.nil; go_simp
            refine hK.out _ _ ⟨z0_38, z1_38, z1_38b⟩ (fun hHeld => ?_); clear hK K; (try simp only [Act.put, List.setIfInBounds_toArray]); (try dsimp only [List.set_cons_zero, List.set_cons_succ])
            refine wpAnyH_done (by kernel_rfl) ?_ _
            go_wp2_with fail
            go_meet
            exact ⟨w34.heap.size, w36.heap.size, w37.heap.size, _, _, _, _, _, _, _, _, rfl, rfl, Z_38.out, Bx.as2 NC.out, by omega, by omega, by omega, Bk_38.out⟩
        · go_simp
          obtain ⟨w34, hw34⟩ : ∃ W : World, W = w33.alloc (.cells #[.slice none 0 0, .slice none 0 0] 29) := ⟨_, rfl⟩
          have hb : Below w33.heap.size w33 w34 := by rw [hw34]; exact (Below.refl _ _).alloc (Nat.le_refl _) _
          have hbs34 : w34.heap.size = w33.heap.size + 1 := by rw [hw34]; simp
          have S_34 := Lib.hid (S_33.out.step hb)
          clear S_33
          have Bl_34 := Lib.hid (Bl_33.out.step hb)
          clear Bl_33
          have BX0_34 := Lib.hid (BX0_33.out.step hb)
          clear BX0_33
          have BX1_34 := Lib.hid (BX1_33.out.step hb)
          clear BX1_33
          have Bk_34 := Lib.hid (Bk_33.out.trans (hb.mono (by omega)))
          clear Bk_33
          have X0_34 := Lib.hid (X0_33.out.step hb)
          clear X0_33
          have X1_34 := Lib.hid (X1_33.out.step hb)
          clear X1_33
          have NB_34 : Hid (Bx w33.heap.size [.slice none 0 0, .slice none 0 0] w34) := by rw [hw34]; exact Bx.start w33 _ _
          have hbs34b : w33.heap.size < w34.heap.size := by omega
          clear hb z0_33 z1_33 z1_33b
          have z0_34 := BX0_34.out.it
          obtain ⟨z1_34, z1_34b⟩ := BX1_34.out.it
          rw [← hw34]
          clear hw34 hbs34
          refine hK.out _ _ ⟨z0_34, z1_34, z1_34b⟩ (fun hHeld => ?_); clear hK K; (try simp only [Act.put, List.setIfInBounds_toArray]); (try dsimp only [List.set_cons_zero, List.set_cons_succ])
          refine wpAnyH_ready (rs := [5]) (by as_aux_lemma => kernel_rfl) (by simp) ?_; refine AllReadyH.cons (o := ⟨some 148, _, _, _, _, _⟩) rfl (fun K hK => ?_) AllReadyH.nil; go_simp
          go_at_call 21
          refine (laws_toIntS A2 n2 c2 xs2 _ w.heap.size Bl_34.out.le HN2.out S_34.out.it.2.2.1 (by omega)).mono ?_
          rintro e w35 ⟨rfl, hown, hb⟩
          have hbs35 : w34.heap.size ≤ w35.heap.size := hb.size
          have S_35 := Lib.hid (S_34.out.step hb)
          clear S_34
          have Bl_35 := Lib.hid (Bl_34.out.step hb)
          clear Bl_34
          have BX0_35 := Lib.hid (BX0_34.out.step hb)
          clear BX0_34
          have BX1_35 := Lib.hid (BX1_34.out.step hb)
          clear BX1_34
          have Bk_35 := Lib.hid (Bk_34.out.trans (hb.mono (by omega)))
          clear Bk_34
          have X0_35 := Lib.hid (X0_34.out.step hb)
          clear X0_34
          have X1_35 := Lib.hid (X1_34.out.step hb)
          clear X1_34
          have NB_35 := Lib.hid (NB_34.out.step hb)
          clear NB_34
          have X2_35 := Lib.hid (row_start hown)
          clear hown hb
          clear z0_34 z1_34 z1_34b
          have z0_35 := BX0_35.out.it
          obtain ⟨z1_35, z1_35b⟩ := BX1_35.out.it
          refine hK.out _ _ ⟨z0_35, z1_35, z1_35b⟩ (fun hHeld => ?_); clear hK K; (try simp only [Act.put, List.setIfInBounds_toArray]); (try dsimp only [List.set_cons_zero, List.set_cons_succ])
          refine wpAnyH_ready (rs := [7]) (by as_aux_lemma => kernel_rfl) (by simp) ?_; refine AllReadyH.cons (o := ⟨some 150, _, _, _, _, _⟩) rfl (fun K hK => ?_) AllReadyH.nil; go_simp
          go_at_call 21
          refine (laws_toIntS A3 n3 c3 xs3 _ w.heap.size Bl_35.out.le HN3.out S_35.out.it.2.2.2 (by omega)).mono ?_
          rintro e w36 ⟨rfl, hown, hb⟩
          have hbs36 : w35.heap.size ≤ w36.heap.size := hb.size
          have S_36 := Lib.hid (S_35.out.step hb)
          clear S_35
          have Bl_36 := Lib.hid (Bl_35.out.step hb)
          clear Bl_35
          have BX0_36 := Lib.hid (BX0_35.out.step hb)
          clear BX0_35
          have BX1_36 := Lib.hid (BX1_35.out.step hb)
          clear BX1_35
          have Bk_36 := Lib.hid (Bk_35.out.trans (hb.mono (by omega)))
          clear Bk_35
          have X0_36 := Lib.hid (X0_35.out.step hb)
          clear X0_35
          have X1_36 := Lib.hid (X1_35.out.step hb)
          clear X1_35
          have NB_36 := Lib.hid (NB_35.out.step hb)
          clear NB_35
          have X2_36 := Lib.hid (X2_35.out.step hb)
          clear X2_35
          have X3_36 := Lib.hid (row_start hown)
          clear hown hb
          clear z0_35 z1_35 z1_35b
          have z0_36 := BX0_36.out.it
          obtain ⟨z1_36, z1_36b⟩ := BX1_36.out.it
          refine hK.out _ _ ⟨z0_36, z1_36, z1_36b⟩ (fun hHeld => ?_); clear hK K; (try simp only [Act.put, List.setIfInBounds_toArray]); (try dsimp only [List.set_cons_zero, List.set_cons_succ])
          refine wpAnyH_ready (rs := [8]) (by as_aux_lemma => kernel_rfl) (by simp) ?_; refine AllReadyH.cons (o := ⟨some 151, _, _, _, _, _⟩) rfl (fun K hK => ?_) AllReadyH.nil; go_simp
          go_at_call 6
          refine (HIM.out B32 m32 d32 B33 m33 d33 D33 em33 ed33 _ n2 _ _ n3 _ _ M32.out NC32.out X0_36.out.graph M33.out EM33.out X1_36.out.eager HN2.out (Nat.le_refl _) X2_36.out.ints HN3.out (Nat.le_refl _) X3_36.out.ints).mono ?_
          rintro e w37 hret
          obtain ⟨BZ0, mZ0, dZ0, BZ1, dZ1, CZ, mZ, dZ, rfl, hown, hb⟩ := hret.joined
          have hbs37 : w36.heap.size ≤ w37.heap.size := hb.size
          clear X0_36
          clear X1_36
          clear X2_36
          clear X3_36
          have S_37 := Lib.hid (S_36.out.step hb)
          clear S_36
          have Bl_37 := Lib.hid (Bl_36.out.step hb)
          clear Bl_36
          have BX0_37 := Lib.hid (BX0_36.out.step hb)
          clear BX0_36
          have BX1_37 := Lib.hid (BX1_36.out.step hb)
          clear BX1_36
          have Bk_37 := Lib.hid (Bk_36.out.trans (hb.mono (by omega)))
          clear Bk_36
          have NB_37 := Lib.hid (NB_36.out.step hb)
          clear NB_36
          have Z_37 := Lib.hid hown
          clear hown hb
          clear z0_36 z1_36 z1_36b
          have z0_37 := BX0_37.out.it
          obtain ⟨z1_37, z1_37b⟩ := BX1_37.out.it
          refine hK.out _ _ ⟨z0_37, z1_37, z1_37b⟩ (fun hHeld => ?_); clear hK K; (try simp only [Act.put, List.setIfInBounds_toArray]); (try dsimp only [List.set_cons_zero, List.set_cons_succ])
          refine wpAnyH_take (i := 9) (oi := ⟨some 142, _, _, _, _, _⟩) (v := ?_) rfl (by as_aux_lemma => kernel_rfl) (by as_aux_lemma => kernel_rfl) (by as_aux_lemma => kernel_rfl) (fun _ _ _ h => h) (Or.inl ⟨by rfl, ?_⟩) (by assumption) ?_; rotate_left; (focus (intro w hSw; (try dsimp only at hSw); go_simp; (try with_reducible rfl))); (try simp only [Act.put, List.setIfInBounds_toArray]); (try dsimp only [List.set_cons_zero, List.set_cons_succ])
          refine wpAnyH_take (i := 10) (oi := ⟨some 152, _, _, _, _, _⟩) (v := ?_) rfl (by as_aux_lemma => kernel_rfl) (by as_aux_lemma => kernel_rfl) (by as_aux_lemma => kernel_rfl) (fun _ _ _ h => h) (Or.inl ⟨by rfl, ?_⟩) (by assumption) ?_; rotate_left; (focus (intro w hSw; (try dsimp only at hSw); go_simp; (try with_reducible rfl))); (try simp only [Act.put, List.setIfInBounds_toArray]); (try dsimp only [List.set_cons_zero, List.set_cons_succ])
          refine wpAnyH_take (i := 11) (oi := ⟨some 153, _, _, _, _, _⟩) (v := ?_) rfl (by as_aux_lemma => kernel_rfl) (by as_aux_lemma => kernel_rfl) (by as_aux_lemma => kernel_rfl) (fun _ _ _ h => h) (Or.inl ⟨by rfl, ?_⟩) (by assumption) ?_; rotate_left; (focus (intro w hSw; (try dsimp only at hSw); go_simp; (try with_reducible rfl))); (try simp only [Act.put, List.setIfInBounds_toArray]); (try dsimp only [List.set_cons_zero, List.set_cons_succ])
          have hvl : w37.heap.size ≤ w37.heap.size := Z_37.out.le
          have y0 := NB_37.out.c 0 _ rfl
          have x0 := NB_37.out.f 0
          have y1 := NB_37.out.c 1 _ rfl
          have x1 := NB_37.out.f 1
          refine wpAnyH_ready (rs := [13]) (by as_aux_lemma => kernel_rfl) (by simp) ?_; refine AllReadyH.cons (o := ⟨none, _, _, _, _, _⟩) rfl (fun K hK => ?_) AllReadyH.nil; go_simp
          obtain ⟨w38, hw38⟩ : ∃ W : World, W = ((w37.setCell ⟨w33.heap.size, 0, none⟩ (.slice BZ0 mZ0 dZ0)).setCell ⟨w33.heap.size, 1, none⟩ (.slice BZ1 mZ0 dZ1)) := ⟨_, rfl⟩
          have ht : Tch (w33.heap.size) (w33.heap.size + 1) w37 w38 := by rw [hw38]; exact ((Tch.refl _ _ _).trans (Bx.tch _ 0 _)).trans (Bx.tch _ 1 _)
          have NC : Hid (Bx (w33.heap.size) [.slice BZ0 mZ0 dZ0, .slice BZ1 mZ0 dZ1] w38) := by rw [hw38]; exact ((NB_37.out.set 0 (by simp) (.slice BZ0 mZ0 dZ0)).set 1 (by simp) (.slice BZ1 mZ0 dZ1))
          have hbs38 := ht.size
          have S_38 := Lib.hid (S_37.out.turn ht (by omega))
          clear S_37
          have Bl_38 := Lib.hid (Bl_37.out.turn ht (by omega))
          clear Bl_37
          have BX0_38 := Lib.hid (BX0_37.out.turn ht (by omega))
          clear BX0_37
          have BX1_38 := Lib.hid (BX1_37.out.turn ht (by omega))
          clear BX1_37
          have Bk_38 := Lib.hid (Bk_37.out.trans (ht.below (by omega) (by omega)))
          clear Bk_37
          clear NB_37
          have Z_38 := Lib.hid (Z_37.out.turn ht (by omega))
          clear Z_37
          clear ht y0 x0 y1 x1 z0_37 z1_37 z1_37b
          have z0_38 := BX0_38.out.it
          obtain ⟨z1_38, z1_38b⟩ := BX1_38.out.it
          rw [← hw38]
          clear hw38
          refine hK.out _ _ ⟨z0_38, z1_38, z1_38b⟩ (fun hHeld => ?_); clear hK K; (try simp only [Act.put, List.setIfInBounds_toArray]); (try dsimp only [List.set_cons_zero, List.set_cons_succ])
          refine wpAnyH_ready (rs := [14]) (by as_aux_lemma => kernel_rfl) (by simp) ?_; refine AllReadyH.cons (o := ⟨some 22, _, _, _, _, _⟩) rfl (fun K hK => ?_) AllReadyH.nil; go_simp
          refine hK.out _ _ ⟨z0_38, z1_38, z1_38b⟩ (fun hHeld => ?_); clear hK K; (try simp only [Act.put, List.setIfInBounds_toArray]); (try dsimp only [List.set_cons_zero, List.set_cons_succ])
          refine wpAnyH_done (by kernel_rfl) ?_ _
          go_wp2_with fail
          go_meet
          exact ⟨w33.heap.size, w36.heap.size, w37.heap.size, _, _, _, _, _, _, _, _, rfl, rfl, Z_38.out, Bx.as2 NC.out, by omega, by omega, by omega, Bk_38.out⟩
      · go_simp
        obtain ⟨w33, hw33⟩ : ∃ W : World, W = w32.alloc (.cells #[.slice none 0 0, .slice none 0 0] 29) := ⟨_, rfl⟩
        have hb : Below w32.heap.size w32 w33 := by rw [hw33]; exact (Below.refl _ _).alloc (Nat.le_refl _) _
        have hbs33 : w33.heap.size = w32.heap.size + 1 := by rw [hw33]; simp
        have S_33 := Lib.hid (S_32.out.step hb)
        clear S_32
        have Bl_33 := Lib.hid (Bl_32.out.step hb)
        clear Bl_32
        have BX0_33 := Lib.hid (BX0_32.out.step hb)
        clear BX0_32
        have BX1_33 := Lib.hid (BX1_32.out.step hb)
        clear BX1_32
        have Bk_33 := Lib.hid (Bk_32.out.trans (hb.mono (by omega)))
        clear Bk_32
        have X0_33 := Lib.hid (X0_32.out.step hb)
        clear X0_32
        have NB_33 : Hid (Bx w32.heap.size [.slice none 0 0, .slice none 0 0] w33) := by rw [hw33]; exact Bx.start w32 _ _
        have hbs33b : w32.heap.size < w33.heap.size := by omega
        clear hb z0_32 z1_32 z1_32b
        have z0_33 := BX0_33.out.it
        obtain ⟨z1_33, z1_33b⟩ := BX1_33.out.it
        rw [← hw33]
        clear hw33 hbs33
        refine hK.out _ _ ⟨z0_33, z1_33, z1_33b⟩ (fun hHeld => ?_); clear hK K; (try simp only [Act.put, List.setIfInBounds_toArray]); (try dsimp only [List.set_cons_zero, List.set_cons_succ])
        refine wpAnyH_ready (rs := [3]) (by as_aux_lemma => kernel_rfl) (by simp) ?_; refine AllReadyH.cons (o := ⟨some 146, _, _, _, _, _⟩) rfl (fun K hK => ?_) AllReadyH.nil; go_simp
        go_at_call 20
        refine (laws_toEager A1 E1 n1 c1 en1 ec1 st1 _ w.heap.size Bl_33.out.le HN1.out HE1.out S_33.out.it.2.1 HEG1.out).mono ?_
        rintro e w34 ⟨B34, m34, d34, D34, em34, ed34, rfl, hown, hb⟩
        have hn := hown.1
        have hen := hown.2.1
        have M34 := Lib.hid hn
        have EM34 := Lib.hid hen
        have hbs34 : w33.heap.size ≤ w34.heap.size := hb.size
        have S_34 := Lib.hid (S_33.out.step hb)
        clear S_33
        have Bl_34 := Lib.hid (Bl_33.out.step hb)
        clear Bl_33
        have BX0_34 := Lib.hid (BX0_33.out.step hb)
        clear BX0_33
        have BX1_34 := Lib.hid (BX1_33.out.step hb)
        clear BX1_33
        have Bk_34 := Lib.hid (Bk_33.out.trans (hb.mono (by omega)))
        clear Bk_33
        have X0_34 := Lib.hid (X0_33.out.step hb)
        clear X0_33
        have NB_34 := Lib.hid (NB_33.out.step hb)
        clear NB_33
        have X1_34 := Lib.hid (eager_start hown)
        clear hown hb hn hen
        clear z0_33 z1_33 z1_33b
        have z0_34 := BX0_34.out.it
        obtain ⟨z1_34, z1_34b⟩ := BX1_34.out.it
        refine hK.out _ _ ⟨z0_34, z1_34, z1_34b⟩ (fun hHeld => ?_); clear hK K; (try simp only [Act.put, List.setIfInBounds_toArray]); (try dsimp only [List.set_cons_zero, List.set_cons_succ])
        refine wpAnyH_ready (rs := [5]) (by as_aux_lemma => kernel_rfl) (by simp) ?_; refine AllReadyH.cons (o := ⟨some 148, _, _, _, _, _⟩) rfl (fun K hK => ?_) AllReadyH.nil; go_simp
        go_at_call 21
        refine (laws_toIntS A2 n2 c2 xs2 _ w.heap.size Bl_34.out.le HN2.out S_34.out.it.2.2.1 (by omega)).mono ?_
        rintro e w35 ⟨rfl, hown, hb⟩
        have hbs35 : w34.heap.size ≤ w35.heap.size := hb.size
        have S_35 := Lib.hid (S_34.out.step hb)
        clear S_34
        have Bl_35 := Lib.hid (Bl_34.out.step hb)
        clear Bl_34
        have BX0_35 := Lib.hid (BX0_34.out.step hb)
        clear BX0_34
        have BX1_35 := Lib.hid (BX1_34.out.step hb)
        clear BX1_34
        have Bk_35 := Lib.hid (Bk_34.out.trans (hb.mono (by omega)))
        clear Bk_34
        have X0_35 := Lib.hid (X0_34.out.step hb)
        clear X0_34
        have NB_35 := Lib.hid (NB_34.out.step hb)
        clear NB_34
        have X1_35 := Lib.hid (X1_34.out.step hb)
        clear X1_34
        have X2_35 := Lib.hid (row_start hown)
        clear hown hb
        clear z0_34 z1_34 z1_34b
        have z0_35 := BX0_35.out.it
        obtain ⟨z1_35, z1_35b⟩ := BX1_35.out.it
        refine hK.out _ _ ⟨z0_35, z1_35, z1_35b⟩ (fun hHeld => ?_); clear hK K; (try simp only [Act.put, List.setIfInBounds_toArray]); (try dsimp only [List.set_cons_zero, List.set_cons_succ])
        refine wpAnyH_ready (rs := [7]) (by as_aux_lemma => kernel_rfl) (by simp) ?_; refine AllReadyH.cons (o := ⟨some 150, _, _, _, _, _⟩) rfl (fun K hK => ?_) AllReadyH.nil; go_simp
        go_at_call 21
        refine (laws_toIntS A3 n3 c3 xs3 _ w.heap.size Bl_35.out.le HN3.out S_35.out.it.2.2.2 (by omega)).mono ?_
        rintro e w36 ⟨rfl, hown, hb⟩
        have hbs36 : w35.heap.size ≤ w36.heap.size := hb.size
        have S_36 := Lib.hid (S_35.out.step hb)
        clear S_35
        have Bl_36 := Lib.hid (Bl_35.out.step hb)
        clear Bl_35
        have BX0_36 := Lib.hid (BX0_35.out.step hb)
        clear BX0_35
        have BX1_36 := Lib.hid (BX1_35.out.step hb)
        clear BX1_35
        have Bk_36 := Lib.hid (Bk_35.out.trans (hb.mono (by omega)))
        clear Bk_35
        have X0_36 := Lib.hid (X0_35.out.step hb)
        clear X0_35
        have NB_36 := Lib.hid (NB_35.out.step hb)
        clear NB_35
        have X1_36 := Lib.hid (X1_35.out.step hb)
        clear X1_35
        have X2_36 := Lib.hid (X2_35.out.step hb)
        clear X2_35
        have X3_36 := Lib.hid (row_start hown)
        clear hown hb
        clear z0_35 z1_35 z1_35b
        have z0_36 := BX0_36.out.it
        obtain ⟨z1_36, z1_36b⟩ := BX1_36.out.it
        refine hK.out _ _ ⟨z0_36, z1_36, z1_36b⟩ (fun hHeld => ?_); clear hK K; (try simp only [Act.put, List.setIfInBounds_toArray]); (try dsimp only [List.set_cons_zero, List.set_cons_succ])
        refine wpAnyH_ready (rs := [8]) (by as_aux_lemma => kernel_rfl) (by simp) ?_; refine AllReadyH.cons (o := ⟨some 151, _, _, _, _, _⟩) rfl (fun K hK => ?_) AllReadyH.nil; go_simp
        go_at_call 6
        refine (HIM.out B32 m32 d32 B34 m34 d34 D34 em34 ed34 _ n2 _ _ n3 _ _ M32.out NC32.out X0_36.out.graph M34.out EM34.out X1_36.out.eager HN2.out (Nat.le_refl _) X2_36.out.ints HN3.out (Nat.le_refl _) X3_36.out.ints).mono ?_
        rintro e w37 hret
        obtain ⟨BZ0, mZ0, dZ0, BZ1, dZ1, CZ, mZ, dZ, rfl, hown, hb⟩ := hret.joined
        have hbs37 : w36.heap.size ≤ w37.heap.size := hb.size
        clear X0_36
        clear X1_36
        clear X2_36
        clear X3_36
        have S_37 := Lib.hid (S_36.out.step hb)
        clear S_36
        have Bl_37 := Lib.hid (Bl_36.out.step hb)
        clear Bl_36
        have BX0_37 := Lib.hid (BX0_36.out.step hb)
        clear BX0_36
        have BX1_37 := Lib.hid (BX1_36.out.step hb)
        clear BX1_36
        have Bk_37 := Lib.hid (Bk_36.out.trans (hb.mono (by omega)))
        clear Bk_36
        have NB_37 := Lib.hid (NB_36.out.step hb)
        clear NB_36
        have Z_37 := Lib.hid hown
        clear hown hb
        clear z0_36 z1_36 z1_36b
        have z0_37 := BX0_37.out.it
        obtain ⟨z1_37, z1_37b⟩ := BX1_37.out.it
        refine hK.out _ _ ⟨z0_37, z1_37, z1_37b⟩ (fun hHeld => ?_); clear hK K; (try simp only [Act.put, List.setIfInBounds_toArray]); (try dsimp only [List.set_cons_zero, List.set_cons_succ])
        refine wpAnyH_take (i := 9) (oi := ⟨some 142, _, _, _, _, _⟩) (v := ?_) rfl (by as_aux_lemma => kernel_rfl) (by as_aux_lemma => kernel_rfl) (by as_aux_lemma => kernel_rfl) (fun _ _ _ h => h) (Or.inl ⟨by rfl, ?_⟩) (by assumption) ?_; rotate_left; (focus (intro w hSw; (try dsimp only at hSw); go_simp; (try with_reducible rfl))); (try simp only [Act.put, List.setIfInBounds_toArray]); (try dsimp only [List.set_cons_zero, List.set_cons_succ])
        refine wpAnyH_take (i := 10) (oi := ⟨some 152, _, _, _, _, _⟩) (v := ?_) rfl (by as_aux_lemma => kernel_rfl) (by as_aux_lemma => kernel_rfl) (by as_aux_lemma => kernel_rfl) (fun _ _ _ h => h) (Or.inl ⟨by rfl, ?_⟩) (by assumption) ?_; rotate_left; (focus (intro w hSw; (try dsimp only at hSw); go_simp; (try with_reducible rfl))); (try simp only [Act.put, List.setIfInBounds_toArray]); (try dsimp only [List.set_cons_zero, List.set_cons_succ])
        refine wpAnyH_take (i := 11) (oi := ⟨some 153, _, _, _, _, _⟩) (v := ?_) rfl (by as_aux_lemma => kernel_rfl) (by as_aux_lemma => kernel_rfl) (by as_aux_lemma => kernel_rfl) (fun _ _ _ h => h) (Or.inl ⟨by rfl, ?_⟩) (by assumption) ?_; rotate_left; (focus (intro w hSw; (try dsimp only at hSw); go_simp; (try with_reducible rfl))); (try simp only [Act.put, List.setIfInBounds_toArray]); (try dsimp only [List.set_cons_zero, List.set_cons_succ])
        have hvl : w37.heap.size ≤ w37.heap.size := Z_37.out.le
        have y0 := NB_37.out.c 0 _ rfl
        have x0 := NB_37.out.f 0
        have y1 := NB_37.out.c 1 _ rfl
        have x1 := NB_37.out.f 1
        refine wpAnyH_ready (rs := [13]) (by as_aux_lemma => kernel_rfl) (by simp) ?_; refine AllReadyH.cons (o := ⟨none, _, _, _, _, _⟩) rfl (fun K hK => ?_) AllReadyH.nil; go_simp
        obtain ⟨w38, hw38⟩ : ∃ W : World, W = ((w37.setCell ⟨w32.heap.size, 0, none⟩ (.slice BZ0 mZ0 dZ0)).setCell ⟨w32.heap.size, 1, none⟩ (.slice BZ1 mZ0 dZ1)) := ⟨_, rfl⟩
        have ht : Tch (w32.heap.size) (w32.heap.size + 1) w37 w38 := by rw [hw38]; exact ((Tch.refl _ _ _).trans (Bx.tch _ 0 _)).trans (Bx.tch _ 1 _)
        have NC : Hid (Bx (w32.heap.size) [.slice BZ0 mZ0 dZ0, .slice BZ1 mZ0 dZ1] w38) := by rw [hw38]; exact ((NB_37.out.set 0 (by simp) (.slice BZ0 mZ0 dZ0)).set 1 (by simp) (.slice BZ1 mZ0 dZ1))
        have hbs38 := ht.size
        have S_38 := Lib.hid (S_37.out.turn ht (by omega))
        clear S_37
        have Bl_38 := Lib.hid (Bl_37.out.turn ht (by omega))
        clear Bl_37
        have BX0_38 := Lib.hid (BX0_37.out.turn ht (by omega))
        clear BX0_37
        have BX1_38 := Lib.hid (BX1_37.out.turn ht (by omega))
        clear BX1_37
        have Bk_38 := Lib.hid (Bk_37.out.trans (ht.below (by omega) (by omega)))
        clear Bk_37
        clear NB_37
        have Z_38 := Lib.hid (Z_37.out.turn ht (by omega))
        clear Z_37
        clear ht y0 x0 y1 x1 z0_37 z1_37 z1_37b
        have z0_38 := BX0_38.out.it
        obtain ⟨z1_38, z1_38b⟩ := BX1_38.out.it
        rw [← hw38]
        clear hw38
        refine hK.out _ _ ⟨z0_38, z1_38, z1_38b⟩ (fun hHeld => ?_); clear hK K; (try simp only [Act.put, List.setIfInBounds_toArray]); (try dsimp only [List.set_cons_zero, List.set_cons_succ])
        refine wpAnyH_ready (rs := [14]) (by as_aux_lemma => kernel_rfl) (by simp) ?_; refine AllReadyH.cons (o := ⟨some 22, _, _, _, _, _⟩) rfl (fun K hK => ?_) AllReadyH.nil; go_simp
        refine hK.out _ _ ⟨z0_38, z1_38, z1_38b⟩ (fun hHeld => ?_); clear hK K; (try simp only [Act.put, List.setIfInBounds_toArray]); (try dsimp only [List.set_cons_zero, List.set_cons_succ])
        refine wpAnyH_done (by kernel_rfl) ?_ _
        go_wp2_with fail
        go_meet
        exact ⟨w32.heap.size, w36.heap.size, w37.heap.size, _, _, _, _, _, _, _, _, rfl, rfl, Z_38.out, Bx.as2 NC.out, by omega, by omega, by omega, Bk_38.out⟩
    · go_simp
      obtain ⟨w32, hw32⟩ : ∃ W : World, W = w31.alloc (.cells #[.slice none 0 0, .slice none 0 0] 29) := ⟨_, rfl⟩
      have hb : Below w31.heap.size w31 w32 := by rw [hw32]; exact (Below.refl _ _).alloc (Nat.le_refl _) _
      have hbs32 : w32.heap.size = w31.heap.size + 1 := by rw [hw32]; simp
      have S_32 := Lib.hid (S_31.out.step hb)
      clear S_31
      have Bl_32 := Lib.hid (Bl_31.out.step hb)
      clear Bl_31
      have BX0_32 := Lib.hid (BX0_31.out.step hb)
      clear BX0_31
      have BX1_32 := Lib.hid (BX1_31.out.step hb)
      clear BX1_31
      have Bk_32 := Lib.hid (Bk_31.out.trans (hb.mono (by omega)))
      clear Bk_31
      have NB_32 : Hid (Bx w31.heap.size [.slice none 0 0, .slice none 0 0] w32) := by rw [hw32]; exact Bx.start w31 _ _
      have hbs32b : w31.heap.size < w32.heap.size := by omega
      clear hb z0_31 z1_31 z1_31b
      have z0_32 := BX0_32.out.it
      obtain ⟨z1_32, z1_32b⟩ := BX1_32.out.it
      rw [← hw32]
      clear hw32 hbs32
      refine hK.out _ _ ⟨z0_32, z1_32, z1_32b⟩ (fun hHeld => ?_); clear hK K; (try simp only [Act.put, List.setIfInBounds_toArray]); (try dsimp only [List.set_cons_zero, List.set_cons_succ])
      refine wpAnyH_ready (rs := [1]) (by as_aux_lemma => kernel_rfl) (by simp) ?_; refine AllReadyH.cons (o := ⟨some 144, _, _, _, _, _⟩) rfl (fun K hK => ?_) AllReadyH.nil; go_simp
      go_at_call 19
      refine (laws_toGraph A0 n0 c0 gs0 _ w.heap.size Bl_32.out.le HN0.out S_32.out.it.1 HG0.out).mono ?_
      rintro e w33 ⟨B33, m33, d33, rfl, hn, hown, hb⟩
      have M33 := Lib.hid hn
      have NC33 := Lib.hid hown.ncap
      have hbs33 : w32.heap.size ≤ w33.heap.size := hb.size
      have S_33 := Lib.hid (S_32.out.step hb)
      clear S_32
      have Bl_33 := Lib.hid (Bl_32.out.step hb)
      clear Bl_32
      have BX0_33 := Lib.hid (BX0_32.out.step hb)
      clear BX0_32
      have BX1_33 := Lib.hid (BX1_32.out.step hb)
      clear BX1_32
      have Bk_33 := Lib.hid (Bk_32.out.trans (hb.mono (by omega)))
      clear Bk_32
      have NB_33 := Lib.hid (NB_32.out.step hb)
      clear NB_32
      have X0_33 := Lib.hid (graph_start hown)
      clear hown hb hn
      clear z0_32 z1_32 z1_32b
      have z0_33 := BX0_33.out.it
      obtain ⟨z1_33, z1_33b⟩ := BX1_33.out.it
      refine hK.out _ _ ⟨z0_33, z1_33, z1_33b⟩ (fun hHeld => ?_); clear hK K; (try simp only [Act.put, List.setIfInBounds_toArray]); (try dsimp only [List.set_cons_zero, List.set_cons_succ])
      refine wpAnyH_ready (rs := [3]) (by as_aux_lemma => kernel_rfl) (by simp) ?_; refine AllReadyH.cons (o := ⟨some 146, _, _, _, _, _⟩) rfl (fun K hK => ?_) AllReadyH.nil; go_simp
      go_at_call 20
      refine (laws_toEager A1 E1 n1 c1 en1 ec1 st1 _ w.heap.size Bl_33.out.le HN1.out HE1.out S_33.out.it.2.1 HEG1.out).mono ?_
      rintro e w34 ⟨B34, m34, d34, D34, em34, ed34, rfl, hown, hb⟩
      have hn := hown.1
      have hen := hown.2.1
      have M34 := Lib.hid hn
      have EM34 := Lib.hid hen
      have hbs34 : w33.heap.size ≤ w34.heap.size := hb.size
      have S_34 := Lib.hid (S_33.out.step hb)
      clear S_33
      have Bl_34 := Lib.hid (Bl_33.out.step hb)
      clear Bl_33
      have BX0_34 := Lib.hid (BX0_33.out.step hb)
      clear BX0_33
      have BX1_34 := Lib.hid (BX1_33.out.step hb)
      clear BX1_33
      have Bk_34 := Lib.hid (Bk_33.out.trans (hb.mono (by omega)))
      clear Bk_33
      have NB_34 := Lib.hid (NB_33.out.step hb)
      clear NB_33
      have X0_34 := Lib.hid (X0_33.out.step hb)
      clear X0_33
      have X1_34 := Lib.hid (eager_start hown)
      clear hown hb hn hen
      clear z0_33 z1_33 z1_33b
      have z0_34 := BX0_34.out.it
      obtain ⟨z1_34, z1_34b⟩ := BX1_34.out.it
      refine hK.out _ _ ⟨z0_34, z1_34, z1_34b⟩ (fun hHeld => ?_); clear hK K; (try simp only [Act.put, List.setIfInBounds_toArray]); (try dsimp only [List.set_cons_zero, List.set_cons_succ])
      refine wpAnyH_ready (rs := [5]) (by as_aux_lemma => kernel_rfl) (by simp) ?_; refine AllReadyH.cons (o := ⟨some 148, _, _, _, _, _⟩) rfl (fun K hK => ?_) AllReadyH.nil; go_simp
      go_at_call 21
      refine (laws_toIntS A2 n2 c2 xs2 _ w.heap.size Bl_34.out.le HN2.out S_34.out.it.2.2.1 (by omega)).mono ?_
      rintro e w35 ⟨rfl, hown, hb⟩
      have hbs35 : w34.heap.size ≤ w35.heap.size := hb.size
      have S_35 := Lib.hid (S_34.out.step hb)
      clear S_34
      have Bl_35 := Lib.hid (Bl_34.out.step hb)
      clear Bl_34
      have BX0_35 := Lib.hid (BX0_34.out.step hb)
      clear BX0_34
      have BX1_35 := Lib.hid (BX1_34.out.step hb)
      clear BX1_34
      have Bk_35 := Lib.hid (Bk_34.out.trans (hb.mono (by omega)))
      clear Bk_34
      have NB_35 := Lib.hid (NB_34.out.step hb)
      clear NB_34
      have X0_35 := Lib.hid (X0_34.out.step hb)
      clear X0_34
      have X1_35 := Lib.hid (X1_34.out.step hb)
      clear X1_34
      have X2_35 := Lib.hid (row_start hown)
      clear hown hb
      clear z0_34 z1_34 z1_34b
      have z0_35 := BX0_35.out.it
      obtain ⟨z1_35, z1_35b⟩ := BX1_35.out.it
      refine hK.out _ _ ⟨z0_35, z1_35, z1_35b⟩ (fun hHeld => ?_); clear hK K; (try simp only [Act.put, List.setIfInBounds_toArray]); (try dsimp only [List.set_cons_zero, List.set_cons_succ])
      refine wpAnyH_ready (rs := [7]) (by as_aux_lemma => kernel_rfl) (by simp) ?_; refine AllReadyH.cons (o := ⟨some 150, _, _, _, _, _⟩) rfl (fun K hK => ?_) AllReadyH.nil; go_simp
      go_at_call 21
      refine (laws_toIntS A3 n3 c3 xs3 _ w.heap.size Bl_35.out.le HN3.out S_35.out.it.2.2.2 (by omega)).mono ?_
      rintro e w36 ⟨rfl, hown, hb⟩
      have hbs36 : w35.heap.size ≤ w36.heap.size := hb.size
      have S_36 := Lib.hid (S_35.out.step hb)
      clear S_35
      have Bl_36 := Lib.hid (Bl_35.out.step hb)
      clear Bl_35
      have BX0_36 := Lib.hid (BX0_35.out.step hb)
      clear BX0_35
      have BX1_36 := Lib.hid (BX1_35.out.step hb)
      clear BX1_35
      have Bk_36 := Lib.hid (Bk_35.out.trans (hb.mono (by omega)))
      clear Bk_35
      have NB_36 := Lib.hid (NB_35.out.step hb)
      clear NB_35
      have X0_36 := Lib.hid (X0_35.out.step hb)
      clear X0_35
      have X1_36 := Lib.hid (X1_35.out.step hb)
      clear X1_35
      have X2_36 := Lib.hid (X2_35.out.step hb)
      clear X2_35
      have X3_36 := Lib.hid (row_start hown)
      clear hown hb
      clear z0_35 z1_35 z1_35b
      have z0_36 := BX0_36.out.it
      obtain ⟨z1_36, z1_36b⟩ := BX1_36.out.it
      refine hK.out _ _ ⟨z0_36, z1_36, z1_36b⟩ (fun hHeld => ?_); clear hK K; (try simp only [Act.put, List.setIfInBounds_toArray]); (try dsimp only [List.set_cons_zero, List.set_cons_succ])
      refine wpAnyH_ready (rs := [8]) (by as_aux_lemma => kernel_rfl) (by simp) ?_; refine AllReadyH.cons (o := ⟨some 151, _, _, _, _, _⟩) rfl (fun K hK => ?_) AllReadyH.nil; go_simp
      go_at_call 6
      refine (HIM.out B33 m33 d33 B34 m34 d34 D34 em34 ed34 _ n2 _ _ n3 _ _ M33.out NC33.out X0_36.out.graph M34.out EM34.out X1_36.out.eager HN2.out (Nat.le_refl _) X2_36.out.ints HN3.out (Nat.le_refl _) X3_36.out.ints).mono ?_
      rintro e w37 hret
      obtain ⟨BZ0, mZ0, dZ0, BZ1, dZ1, CZ, mZ, dZ, rfl, hown, hb⟩ := hret.joined
      have hbs37 : w36.heap.size ≤ w37.heap.size := hb.size
      clear X0_36
      clear X1_36
      clear X2_36
      clear X3_36
      have S_37 := Lib.hid (S_36.out.step hb)
      clear S_36
      have Bl_37 := Lib.hid (Bl_36.out.step hb)
      clear Bl_36
      have BX0_37 := Lib.hid (BX0_36.out.step hb)
      clear BX0_36
      have BX1_37 := Lib.hid (BX1_36.out.step hb)
      clear BX1_36
      have Bk_37 := Lib.hid (Bk_36.out.trans (hb.mono (by omega)))
      clear Bk_36
      have NB_37 := Lib.hid (NB_36.out.step hb)
      clear NB_36
      have Z_37 := Lib.hid hown
      clear hown hb
      clear z0_36 z1_36 z1_36b
      have z0_37 := BX0_37.out.it
      obtain ⟨z1_37, z1_37b⟩ := BX1_37.out.it
      refine hK.out _ _ ⟨z0_37, z1_37, z1_37b⟩ (fun hHeld => ?_); clear hK K; (try simp only [Act.put, List.setIfInBounds_toArray]); (try dsimp only [List.set_cons_zero, List.set_cons_succ])
      refine wpAnyH_take (i := 9) (oi := ⟨some 142, _, _, _, _, _⟩) (v := ?_) rfl (by as_aux_lemma => kernel_rfl) (by as_aux_lemma => kernel_rfl) (by as_aux_lemma => kernel_rfl) (fun _ _ _ h => h) (Or.inl ⟨by rfl, ?_⟩) (by assumption) ?_; rotate_left; (focus (intro w hSw; (try dsimp only at hSw); go_simp; (try with_reducible rfl))); (try simp only [Act.put, List.setIfInBounds_toArray]); (try dsimp only [List.set_cons_zero, List.set_cons_succ])
      refine wpAnyH_take (i := 10) (oi := ⟨some 152, _, _, _, _, _⟩) (v := ?_) rfl (by as_aux_lemma => kernel_rfl) (by as_aux_lemma => kernel_rfl) (by as_aux_lemma => kernel_rfl) (fun _ _ _ h => h) (Or.inl ⟨by rfl, ?_⟩) (by assumption) ?_; rotate_left; (focus (intro w hSw; (try dsimp only at hSw); go_simp; (try with_reducible rfl))); (try simp only [Act.put, List.setIfInBounds_toArray]); (try dsimp only [List.set_cons_zero, List.set_cons_succ])
      refine wpAnyH_take (i := 11) (oi := ⟨some 153, _, _, _, _, _⟩) (v := ?_) rfl (by as_aux_lemma => kernel_rfl) (by as_aux_lemma => kernel_rfl) (by as_aux_lemma => kernel_rfl) (fun _ _ _ h => h) (Or.inl ⟨by rfl, ?_⟩) (by assumption) ?_; rotate_left; (focus (intro w hSw; (try dsimp only at hSw); go_simp; (try with_reducible rfl))); (try simp only [Act.put, List.setIfInBounds_toArray]); (try dsimp only [List.set_cons_zero, List.set_cons_succ])
      have hvl : w37.heap.size ≤ w37.heap.size := Z_37.out.le
      have y0 := NB_37.out.c 0 _ rfl
      have x0 := NB_37.out.f 0
      have y1 := NB_37.out.c 1 _ rfl
      have x1 := NB_37.out.f 1
      refine wpAnyH_ready (rs := [13]) (by as_aux_lemma => kernel_rfl) (by simp) ?_; refine AllReadyH.cons (o := ⟨none, _, _, _, _, _⟩) rfl (fun K hK => ?_) AllReadyH.nil; go_simp
      obtain ⟨w38, hw38⟩ : ∃ W : World, W = ((w37.setCell ⟨w31.heap.size, 0, none⟩ (.slice BZ0 mZ0 dZ0)).setCell ⟨w31.heap.size, 1, none⟩ (.slice BZ1 mZ0 dZ1)) := ⟨_, rfl⟩
      have ht : Tch (w31.heap.size) (w31.heap.size + 1) w37 w38 := by rw [hw38]; exact ((Tch.refl _ _ _).trans (Bx.tch _ 0 _)).trans (Bx.tch _ 1 _)
      have NC : Hid (Bx (w31.heap.size) [.slice BZ0 mZ0 dZ0, .slice BZ1 mZ0 dZ1] w38) := by rw [hw38]; exact ((NB_37.out.set 0 (by simp) (.slice BZ0 mZ0 dZ0)).set 1 (by simp) (.slice BZ1 mZ0 dZ1))
      have hbs38 := ht.size
      have S_38 := Lib.hid (S_37.out.turn ht (by omega))
      clear S_37
      have Bl_38 := Lib.hid (Bl_37.out.turn ht (by omega))
      clear Bl_37
      have BX0_38 := Lib.hid (BX0_37.out.turn ht (by omega))
      clear BX0_37
      have BX1_38 := Lib.hid (BX1_37.out.turn ht (by omega))
      clear BX1_37
      have Bk_38 := Lib.hid (Bk_37.out.trans (ht.below (by omega) (by omega)))
      clear Bk_37
      clear NB_37
      have Z_38 := Lib.hid (Z_37.out.turn ht (by omega))
      clear Z_37
      clear ht y0 x0 y1 x1 z0_37 z1_37 z1_37b
      have z0_38 := BX0_38.out.it
      obtain ⟨z1_38, z1_38b⟩ := BX1_38.out.it
      rw [← hw38]
      clear hw38
      refine hK.out _ _ ⟨z0_38, z1_38, z1_38b⟩ (fun hHeld => ?_); clear hK K; (try simp only [Act.put, List.setIfInBounds_toArray]); (try dsimp only [List.set_cons_zero, List.set_cons_succ])
      refine wpAnyH_ready (rs := [14]) (by as_aux_lemma => kernel_rfl) (by simp) ?_; refine AllReadyH.cons (o := ⟨some 22, _, _, _, _, _⟩) rfl (fun K hK => ?_) AllReadyH.nil; go_simp
      refine hK.out _ _ ⟨z0_38, z1_38, z1_38b⟩ (fun hHeld => ?_); clear hK K; (try simp only [Act.put, List.setIfInBounds_toArray]); (try dsimp only [List.set_cons_zero, List.set_cons_succ])
      refine wpAnyH_done (by kernel_rfl) ?_ _
      go_wp2_with fail
      go_meet
      exact ⟨w31.heap.size, w36.heap.size, w37.heap.size, _, _, _, _, _, _, _, _, rfl, rfl, Z_38.out, Bx.as2 NC.out, by omega, by omega, by omega, Bk_38.out⟩
  obtain ⟨Zb, Zlo, Zhi, BZ0, mZ0, dZ0, BZ1, dZ1, CZ, mZ, dZ, hc0, hc1, HV, HVB, hv1, hv2, hv3, HB0⟩ := hcut
  subst hc0 hc1
  obtain ⟨w31, hw31⟩ : ∃ W : World, W = wc := ⟨_, rfl⟩
  rw [← hw31] at HV HVB HB0 ⊢
  clear hw31
  have hb := HB0.out
  have S_31 := Lib.hid (S_30.out.step hb)
  clear S_30
  have Bl_31 := Lib.hid (Bl_30.out.step hb)
  clear Bl_30
  have BX0_31 := Lib.hid (BX0_30.out.step hb)
  clear BX0_30
  have BX1_31 := Lib.hid (BX1_30.out.step hb)
  clear BX1_30
  have V_31 := Lib.hid (V_30.out.step hb)
  clear V_30
  have VB_31 := Lib.hid (VB_30.out.step hb)
  clear VB_30
  have XB0_31 := Lib.hid (XB0_30.out.step hb)
  clear XB0_30
  have XB1_31 := Lib.hid (XB1_30.out.step hb)
  clear XB1_30
  have G_31 := Lib.hid (G_30.out.step hb)
  clear G_30
  have GB_31 := Lib.hid (GB_30.out.step hb)
  clear GB_30
  have Z_31 := HV
  have ZB_31 := HVB
  have hv4 := HV.out.le
  have hv5 := HVB.out.le
  clear HV HVB HB0 hb
  obtain ⟨bg, bgb⟩ := ZB_31.out.it
  obtain ⟨bv, bvb⟩ := VB_31.out.it
  go_wp2_with fail
  refine (laws_eqEager _ _ _ _ _ _ _ _ _ _ _ _ F0 F0 _ _ (Nat.le_refl _) Z_31.out.it.1 Z_31.out.it.2.1 V_31.out.it.1 V_31.out.it.2.1 Z_31.out.fje V_31.out.fje HEB0.out HEB0.out).mono ?_
  rintro e w32 ⟨rfl, hb⟩
  have S_32 := Lib.hid (S_31.out.step hb)
  clear S_31
  have Bl_32 := Lib.hid (Bl_31.out.step hb)
  clear Bl_31
  have BX0_32 := Lib.hid (BX0_31.out.step hb)
  clear BX0_31
  have BX1_32 := Lib.hid (BX1_31.out.step hb)
  clear BX1_31
  have V_32 := Lib.hid (V_31.out.step hb)
  clear V_31
  have VB_32 := Lib.hid (VB_31.out.step hb)
  clear VB_31
  have XB0_32 := Lib.hid (XB0_31.out.step hb)
  clear XB0_31
  have XB1_32 := Lib.hid (XB1_31.out.step hb)
  clear XB1_31
  have G_32 := Lib.hid (G_31.out.step hb)
  clear G_31
  have GB_32 := Lib.hid (GB_31.out.step hb)
  clear GB_31
  have Z_32 := Lib.hid (Z_31.out.step hb)
  clear Z_31
  have ZB_32 := Lib.hid (ZB_31.out.step hb)
  clear ZB_31
  clear hb bg bgb bv bvb
  go_wp2_with fail
  refine (laws_eqIntS _ _ _ _ _ _ F1 F1 _ w32.heap.size (Nat.le_refl _) Z_32.out.it.2.2.1 V_32.out.it.2.2.1 Z_32.out.fji V_32.out.fji (by have := Z_32.out.it.2.2.1; have := HL1.out; omega) (by have := V_32.out.it.2.2.1; have := HL1.out; omega)).mono ?_
  rintro e w33 ⟨rfl, hb⟩
  have S_33 := Lib.hid (S_32.out.step hb)
  clear S_32
  have Bl_33 := Lib.hid (Bl_32.out.step hb)
  clear Bl_32
  have BX0_33 := Lib.hid (BX0_32.out.step hb)
  clear BX0_32
  have BX1_33 := Lib.hid (BX1_32.out.step hb)
  clear BX1_32
  have V_33 := Lib.hid (V_32.out.step hb)
  clear V_32
  have VB_33 := Lib.hid (VB_32.out.step hb)
  clear VB_32
  have XB0_33 := Lib.hid (XB0_32.out.step hb)
  clear XB0_32
  have XB1_33 := Lib.hid (XB1_32.out.step hb)
  clear XB1_32
  have G_33 := Lib.hid (G_32.out.step hb)
  clear G_32
  have GB_33 := Lib.hid (GB_32.out.step hb)
  clear GB_32
  have Z_33 := Lib.hid (Z_32.out.step hb)
  clear Z_32
  have ZB_33 := Lib.hid (ZB_32.out.step hb)
  clear ZB_32
  clear hb
  obtain ⟨bg, bgb⟩ := GB_33.out.it
  go_wp2_with fail
  refine (heldJ_eager _ _ _ _ _ _ _ _ _ _ F0 F1 1 _ G_33.out HEJ0.out (by omega) (by omega)).mono ?_
  rintro e w34 ⟨he, hb⟩
  rw [← HQ0.out] at he
  subst he
  have S_34 := Lib.hid (S_33.out.step hb)
  clear S_33
  have Bl_34 := Lib.hid (Bl_33.out.step hb)
  clear Bl_33
  have BX0_34 := Lib.hid (BX0_33.out.step hb)
  clear BX0_33
  have BX1_34 := Lib.hid (BX1_33.out.step hb)
  clear BX1_33
  have V_34 := Lib.hid (V_33.out.step hb)
  clear V_33
  have VB_34 := Lib.hid (VB_33.out.step hb)
  clear VB_33
  have XB0_34 := Lib.hid (XB0_33.out.step hb)
  clear XB0_33
  have XB1_34 := Lib.hid (XB1_33.out.step hb)
  clear XB1_33
  have G_34 := Lib.hid (G_33.out.step hb)
  clear G_33
  have GB_34 := Lib.hid (GB_33.out.step hb)
  clear GB_33
  have Z_34 := Lib.hid (Z_33.out.step hb)
  clear Z_33
  have ZB_34 := Lib.hid (ZB_33.out.step hb)
  clear ZB_33
  clear hb bg bgb
  go_wp2_with fail
  refine (heldJ_ints _ _ _ _ _ _ _ _ _ _ F0 F1 1 (1 + t0) _ G_34.out (by rw [HQ0.out]) HEJ0.out (by omega) (by omega)).mono ?_
  rintro e w35 ⟨he, hb⟩
  subst he
  have S_35 := Lib.hid (S_34.out.step hb)
  clear S_34
  have Bl_35 := Lib.hid (Bl_34.out.step hb)
  clear Bl_34
  have BX0_35 := Lib.hid (BX0_34.out.step hb)
  clear BX0_34
  have BX1_35 := Lib.hid (BX1_34.out.step hb)
  clear BX1_34
  have V_35 := Lib.hid (V_34.out.step hb)
  clear V_34
  have VB_35 := Lib.hid (VB_34.out.step hb)
  clear VB_34
  have XB0_35 := Lib.hid (XB0_34.out.step hb)
  clear XB0_34
  have XB1_35 := Lib.hid (XB1_34.out.step hb)
  clear XB1_34
  have G_35 := Lib.hid (G_34.out.step hb)
  clear G_34
  have GB_35 := Lib.hid (GB_34.out.step hb)
  clear GB_34
  have Z_35 := Lib.hid (Z_34.out.step hb)
  clear Z_34
  have ZB_35 := Lib.hid (ZB_34.out.step hb)
  clear ZB_34
  clear hb
  go_wp2
  go_ret
  exact ⟨rfl, Bl_35.out⟩
end Go.Proofs.YtgakgmkonmgblaaGreat
