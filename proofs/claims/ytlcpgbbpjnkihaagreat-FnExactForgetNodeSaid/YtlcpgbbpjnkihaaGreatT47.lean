/- The standing contract of spec.WriteLazy. (Made by t47.py.) -/
import Derived.Test.YtlcpgbbpjnkihaaGreatT46
import Derived.Test.YtlcpgbbpjnkihaaGreatT45
import Derived.Test.YtlcpgbbpjnkihaaGreatT26
import Derived.Test.YtlcpgbbpjnkihaaGreatM48
import Derived.Test.YtlcpgbbpjnkihaaGreatL4
import Derived.Deep.RegionHeld3
import Derived.Deep.Cut

namespace Go.Proofs.YtlcpgbbpjnkihaaGreat
set_option linter.unusedSimpArgs false
set_option linter.unusedVariables false
open Go.RowKit

/-- Returns a lazy state in new blocks, and a Bool. -/
def RetLB (w : World) (st : Lz) (b : Bool) (e : Ending) (w' : World) : Prop := ∃ A n c E en ec C m d, e = .returned (.tuple #[.agg #[.slice A n c, .slice E en ec, .slice C m d], .bool b]) ∧ OwL w.heap.size w'.heap.size A n c E en ec C m d st w' ∧ Below w.heap.size w w'
theorem RetLB.nil {w w' : World} (hb : Below w.heap.size w w') : RetLB w ⟨[], [], []⟩ false (.returned (.tuple #[.agg #[.slice none 0 0, .slice none 0 0, .slice none 0 0], .bool false])) w' := ⟨_, _, _, _, _, _, _, _, _, rfl, OwL.nil _ _ _ hb.size, hb⟩
/-- Boxes of a graph, of a lazy state, and of an answer, one behind the other. -/
structure LBx (h : Nat) (g a b c : Value) (w : World) : Prop where
  c0 : Bx h [g] w
  c1 : Bx (h + 1) [a, b, c] w
  c2 : Bx (h + 1 + 1) [.slice none 0 0, .slice none 0 0, .slice none 0 0] w
section
variable {h : Nat} {g a b c : Value} {w w' : World}
theorem LBx.step (k : LBx h g a b c w) (hb : Below w.heap.size w w') : LBx h g a b c w' := ⟨k.c0.step hb, k.c1.step hb, k.c2.step hb⟩
theorem LBx.low {C : Nat} (k : LBx h g a b c w) (hb : Below C w w') (hC : h + 2 < C) : LBx h g a b c w' := ⟨k.c0.below hb (by omega), k.c1.below hb (by omega), k.c2.below hb (by omega)⟩
theorem LBx.new (w : World) (g a b c : Value) : LBx w.heap.size g a b c (((w.alloc (.cells #[g] 36)).alloc (.cells #[a, b, c] 31)).alloc (.cells #[.slice none 0 0, .slice none 0 0, .slice none 0 0] 31)) := by
  have h1 := Bx.start (w.alloc (.cells #[g] 36)) #[a, b, c] 31
  have h2 := Bx.start ((w.alloc (.cells #[g] 36)).alloc (.cells #[a, b, c] 31)) #[.slice none 0 0, .slice none 0 0, .slice none 0 0] 31
  simp only [World.size_alloc] at h1 h2
  exact ⟨((Bx.start w #[g] 36).alloc _).alloc _, h1.alloc _, h2⟩
end

theorem wlF_len (st : Lz) (k : Nat) (x : Int) : (wlF st k x).vs.length = st.vs.length := by unfold wlF; split <;> simp

set_option maxRecDepth 100000 in
set_option maxHeartbeats 6400000 in
theorem top_spec_WriteLazy (gs : List Nd) (st : Lz) (k x : Int) (hG : GB gs) (hE : LB st) : ∀ (A : Option Addr) (n c : Nat) (A' : Option Addr) (m c' : Nat) (E : Option Addr) (p ec : Nat) (C : Option Addr) (q qc : Nat) (w : World), n = gs.length → n ≤ c → GS w w.heap.size A gs → m = st.vs.length → p = st.rs.length → q = st.cs.length → LS4 w w.heap.size A' E C st →
    Calls Tryz.prog 10 #[.agg #[.slice A n c], .agg #[.slice A' m c', .slice E p ec, .slice C q qc], .int .i64 k, .int .i64 x] w fun e w' => RetLB w (writeL gs st k x) (writeLB gs st k x) e w' := by
  intro A n c A' m c' E p ec C q qc w hn hnc h hm hp hq h4
  have h' := h4.1
  obtain ⟨W3, hW3⟩ : ∃ W, W = ((w.alloc (.cells #[.slice A n c] 36)).alloc (.cells #[.slice A' m c', .slice E p ec, .slice C q qc] 31)).alloc (.cells #[.slice none 0 0, .slice none 0 0, .slice none 0 0] 31) := ⟨_, rfl⟩
  have hb3 : Below w.heap.size w W3 := by rw [hW3]; exact (((Below.refl _ _).alloc (Nat.le_refl _) _).alloc (by simp) _).alloc (by simp; omega) _
  have hs3 : W3.heap.size = w.heap.size + 3 := by rw [hW3]; simp
  have hX : LBx w.heap.size (.slice A n c) (.slice A' m c') (.slice E p ec) (.slice C q qc) W3 := by rw [hW3]; exact LBx.new w _ _ _ _
  have hnb : n ≤ 2000000 := by have := hG.1; omega
  have HV3 := Lib.hid (spec_validLazy A A' E C n c m c' p ec q qc gs st W3 w.heap.size (by omega) hn hm hp hq (h.below hb3 (Nat.le_refl _)) (h'.below hb3 (Nat.le_refl _)) hG hE)
  rw [hW3] at HV3
  have HIC := Lib.hid fun (w' : World) (hB : w.heap.size ≤ w'.heap.size) (h : GS w' w.heap.size A gs) => spec_isCell A n c gs k w' w.heap.size hB hn h hnb
  have HCP := Lib.hid fun (w' : World) (hB : w.heap.size ≤ w'.heap.size) (h' : LS3 w' w.heap.size A' E C st) => spec_copyLazy A' E C m c' p ec q qc st w' w.heap.size hB hm hp hq h' hE
  have HG := Lib.hid h
  have HE := Lib.hid h'
  have HN := Lib.hid hn
  have HM := Lib.hid hm
  have HP := Lib.hid hp
  have HQ := Lib.hid hq
  have HW3 := Lib.hid hW3
  have HB3 := Lib.hid hb3
  have HX := Lib.hid hX
  have HS3 := Lib.hid hs3
  have hF : writeL gs st k x = if (validL gs st && (isC gs k && rng x 0 999)) = true then wlF st k.toNat x else ⟨[], [], []⟩ := rfl
  have hR : writeLB gs st k x = (validL gs st && (isC gs k && rng x 0 999)) := rfl
  rw [hF, hR]
  obtain ⟨v, hv⟩ : ∃ v, v = validL gs st := ⟨_, rfl⟩
  obtain ⟨u, hu⟩ : ∃ u, u = isC gs k := ⟨_, rfl⟩
  obtain ⟨t, ht⟩ : ∃ t, t = rng x 0 999 := ⟨_, rfl⟩
  have HR := Lib.hid fun w' : World => spec_inRange x 0 999 w'
  have HVV := Lib.hid hv
  have HUU := Lib.hid hu
  have HTT := Lib.hid ht
  have HRL : Hid (∀ j, (st.rs.getD j []).length ≤ 2000000) := fun j => by have := hE.2.1.2 j; omega
  rw [← hv, ← hu, ← ht]
  rw [← hv] at HV3
  rw [← hu] at HIC
  rw [← ht] at HR
  clear hW3 hb3 hs3 hX h h' h4 hn hm hp hq hnc hG hE hF hR hv hu ht
  cases v
  · simp only [Bool.false_and, Bool.false_eq_true, if_false]
    go_enter Tryz.func10, Tryz.ntmps10
    go_wp2_with fail
    refine HV3.out.mono ?_
    rw [← HW3.out]
    rintro e w4 ⟨rfl, hb⟩
    have HX4 := Lib.hid (HX.out.step hb)
    have hs4 : w.heap.size + 3 ≤ w4.heap.size := by have := hb.size; have := HS3.out; omega
    have HB4 := Lib.hid (HB3.out.trans (hb.mono (by have := HS3.out; omega)))
    clear hb
    have Y := HX4.out
    have r1 := Y.c2.c 0 _ rfl
    have r2 := Y.c2.c 1 _ rfl
    have r3 := Y.c2.c 2 _ rfl
    have g1 := Y.c2.f 0
    have g2 := Y.c2.f 1
    have g3 := Y.c2.f 2
    clear Y
    go_wp2
    refine bodyPost_ret (v := .tuple #[.agg #[.slice none 0 0, .slice none 0 0, .slice none 0 0], .bool false]) (by simp [results, Tryz.results10, go_sem, r1, r2, r3]) rfl ?_
    exact RetLB.nil (((HB4.out.setCell (by simp; omega) _).setCell (by simp; omega) _).setCell (by simp; omega) _)
  · cases u
    · simp only [Bool.false_and, Bool.and_false, Bool.false_eq_true, if_false]
      go_enter Tryz.func10, Tryz.ntmps10
      go_wp2_with fail
      refine HV3.out.mono ?_
      rw [← HW3.out]
      rintro e w4 ⟨rfl, hb⟩
      have HX4 := Lib.hid (HX.out.step hb)
      have hs4 : w.heap.size + 3 ≤ w4.heap.size := by have := hb.size; have := HS3.out; omega
      have HB4 := Lib.hid (HB3.out.trans (hb.mono (by have := HS3.out; omega)))
      clear hb
      have p0 := HX4.out.c0.c 0 _ rfl
      go_wp2_with fail
      refine (HIC.out _ (by omega) (HG.out.below HB4.out (Nat.le_refl _))).mono ?_
      rintro e w5 ⟨rfl, hb⟩
      have HX5 := Lib.hid (HX4.out.step hb)
      have hs5 : w.heap.size + 3 ≤ w5.heap.size := by have := hb.size; omega
      have HB5 := Lib.hid (HB4.out.trans (hb.mono (by omega)))
      clear hb p0 HX4 HB4
      have Y := HX5.out
      have r1 := Y.c2.c 0 _ rfl
      have r2 := Y.c2.c 1 _ rfl
      have r3 := Y.c2.c 2 _ rfl
      have g1 := Y.c2.f 0
      have g2 := Y.c2.f 1
      have g3 := Y.c2.f 2
      clear Y
      go_wp2
      refine bodyPost_ret (v := .tuple #[.agg #[.slice none 0 0, .slice none 0 0, .slice none 0 0], .bool false]) (by simp [results, Tryz.results10, go_sem, r1, r2, r3]) rfl ?_
      exact RetLB.nil (((HB5.out.setCell (by simp; omega) _).setCell (by simp; omega) _).setCell (by simp; omega) _)
    · cases t
      · simp only [Bool.and_false, Bool.false_eq_true, if_false]
        go_enter Tryz.func10, Tryz.ntmps10
        go_wp2_with fail
        refine HV3.out.mono ?_
        rw [← HW3.out]
        rintro e w4 ⟨rfl, hb⟩
        have HX4 := Lib.hid (HX.out.step hb)
        have hs4 : w.heap.size + 3 ≤ w4.heap.size := by have := hb.size; have := HS3.out; omega
        have HB4 := Lib.hid (HB3.out.trans (hb.mono (by have := HS3.out; omega)))
        clear hb
        have p0 := HX4.out.c0.c 0 _ rfl
        go_wp2_with fail
        refine (HIC.out _ (by omega) (HG.out.below HB4.out (Nat.le_refl _))).mono ?_
        rintro e w5 ⟨rfl, hb⟩
        have HX5 := Lib.hid (HX4.out.step hb)
        have hs5 : w.heap.size + 3 ≤ w5.heap.size := by have := hb.size; omega
        have HB5 := Lib.hid (HB4.out.trans (hb.mono (by omega)))
        clear hb p0 HX4 HB4
        go_wp2_with fail
        refine (HR.out w5).mono ?_
        rintro e w5' ⟨rfl, rfl⟩
        have Y := HX5.out
        have r1 := Y.c2.c 0 _ rfl
        have r2 := Y.c2.c 1 _ rfl
        have r3 := Y.c2.c 2 _ rfl
        have g1 := Y.c2.f 0
        have g2 := Y.c2.f 1
        have g3 := Y.c2.f 2
        clear Y
        go_wp2
        refine bodyPost_ret (v := .tuple #[.agg #[.slice none 0 0, .slice none 0 0, .slice none 0 0], .bool false]) (by simp [results, Tryz.results10, go_sem, r1, r2, r3]) rfl ?_
        exact RetLB.nil (((HB5.out.setCell (by simp; omega) _).setCell (by simp; omega) _).setCell (by simp; omega) _)
      · simp only [Bool.and_true, Bool.and_self, if_true]
        obtain ⟨hvg, hvl, hrl, hcl, -, -, -⟩ := validL_parts gs st HVV.out.symm
        have hn10 : n ≤ 10 := by have := (validG_parts gs hvg).1; have := HN.out; omega
        have hmn : m = n := by have := HM.out; have := HN.out; omega
        have hpn : p = n := by have := HP.out; have := HN.out; omega
        have hqn : q = n := by have := HQ.out; have := HN.out; omega
        obtain ⟨kk, rfl, hkk, -⟩ := isC_at HUU.out.symm
        have hkn : kk < n := by have := HN.out; omega
        rw [Int.toNat_natCast]
        have HVL : Hid (st.vs.length = n) := by have := HN.out; show st.vs.length = n; omega
        have HCL : Hid (st.cs.length = n) := by have := HN.out; show st.cs.length = n; omega
        have HCC : Hid (∀ i, 0 ≤ st.cs.getD i 0 ∧ st.cs.getD i 0 ≤ 2) := vl_cols HVV.out.symm
        clear hvg hvl hrl hcl hkk
        subst hmn
        subst hpn
        subst hqn
        go_enter Tryz.func10, Tryz.ntmps10
        go_wp2_with fail
        refine HV3.out.mono ?_
        rw [← HW3.out]
        rintro e w4 ⟨rfl, hb⟩
        have HX4 := Lib.hid (HX.out.step hb)
        have hs4 : w.heap.size + 3 ≤ w4.heap.size := by have := hb.size; have := HS3.out; omega
        have HB4 := Lib.hid (HB3.out.trans (hb.mono (by have := HS3.out; omega)))
        clear hb
        have p0 := HX4.out.c0.c 0 _ rfl
        go_wp2_with fail
        refine (HIC.out _ (by omega) (HG.out.below HB4.out (Nat.le_refl _))).mono ?_
        rintro e w5 ⟨rfl, hb⟩
        have HX5 := Lib.hid (HX4.out.step hb)
        have hs5 : w.heap.size + 3 ≤ w5.heap.size := by have := hb.size; omega
        have HB5 := Lib.hid (HB4.out.trans (hb.mono (by omega)))
        clear hb p0 HX4 HB4
        go_wp2_with fail
        refine (HR.out w5).mono ?_
        rintro e w5' ⟨rfl, rfl⟩
        have HBd := Lib.hid (HB5.out.drew)
        have s0 := HX5.out.c0.c 0 _ rfl
        have s1 := HX5.out.c1.c 0 _ rfl
        have s2 := HX5.out.c1.c 1 _ rfl
        have s3 := HX5.out.c1.c 2 _ rfl
        go_upto_region 3 with fail
        refine wp_region_held_drew (S := fun w' => w'.cell? ⟨w.heap.size, 0, none⟩ = some (.slice A q c) ∧ w'.cell? ⟨w.heap.size + 1, 0, none⟩ = some (.slice A' q c') ∧ w'.cell? ⟨w.heap.size + 1, 1, none⟩ = some (.slice E q ec) ∧ w'.cell? ⟨w.heap.size + 1, 2, none⟩ = some (.slice C q qc)) (by kernel_rfl) ⟨s0, s1, s2, s3⟩ (fun hHeld => ?_)
        refine wpAnyH_take (i := 0) (oi := ⟨some 26, _, _, _, _, _⟩) (v := ?_) rfl (by kernel_rfl) (by kernel_rfl) (by kernel_rfl) (fun _ _ _ h => h) (Or.inl ⟨by rfl, ?_⟩) (by assumption) ?_; rotate_left; (focus (intro w hSw; (try dsimp only at hSw); go_simp; (try with_reducible rfl))); (try simp only [Act.put, List.setIfInBounds_toArray]); (try dsimp only [List.set_cons_zero, List.set_cons_succ])
        refine wpAnyH_take (i := 1) (oi := ⟨some 27, _, _, _, _, _⟩) (v := ?_) rfl (by kernel_rfl) (by kernel_rfl) (by kernel_rfl) (fun _ _ _ h => h) (Or.inl ⟨by rfl, ?_⟩) (by assumption) ?_; rotate_left; (focus (intro w hSw; (try dsimp only at hSw); go_simp; (try with_reducible rfl))); (try simp only [Act.put, List.setIfInBounds_toArray]); (try dsimp only [List.set_cons_zero, List.set_cons_succ])
        refine wpAnyH_take (i := 3) (oi := ⟨some 29, _, _, _, _, _⟩) (v := ?_) rfl (by kernel_rfl) (by kernel_rfl) (by kernel_rfl) (fun _ _ _ h => h) (Or.inl ⟨by rfl, ?_⟩) (by assumption) ?_; rotate_left; (focus (intro w hSw; (try dsimp only at hSw); go_simp; (try with_reducible rfl))); (try simp only [Act.put, List.setIfInBounds_toArray]); (try dsimp only [List.set_cons_zero, List.set_cons_succ])
        refine wpAnyH_take (i := 4) (oi := ⟨some 30, _, _, _, _, _⟩) (v := ?_) rfl (by kernel_rfl) (by kernel_rfl) (by kernel_rfl) (fun _ _ _ h => h) (Or.inl ⟨by rfl, ?_⟩) (by assumption) ?_; rotate_left; (focus (intro w hSw; (try dsimp only at hSw); go_simp; (try with_reducible rfl))); (try simp only [Act.put, List.setIfInBounds_toArray]); (try dsimp only [List.set_cons_zero, List.set_cons_succ])
        refine wpAnyH_ready (rs := [2]) (by kernel_rfl) (by simp) ?_; refine AllReadyH.cons (o := ⟨some 28, _, _, _, _, _⟩) rfl (fun K hK => ?_) AllReadyH.nil; go_simp
        go_at_call 38
        refine (HCP.out w5.drew (by show w.heap.size ≤ w5.heap.size; omega) (HE.out.below HBd.out (Nat.le_refl _))).mono ?_
        rintro e w6 ⟨Ac, nc, cc, Ec, en, ecc, Cc, mc, dcc, rfl, ho, hb'⟩
        obtain rfl : nc = q := by have := ho.1; have := HM.out; omega
        obtain rfl : en = nc := by have := ho.2.1; have := HP.out; omega
        obtain rfl : mc = en := by have := ho.2.2.1; have := HQ.out; omega
        have hb6 : Below w5.heap.size w5 w6 := below_of_drew hb'
        have ho6 : OwL w5.heap.size w6.heap.size Ac mc cc Ec mc ecc Cc mc dcc st w6 := ho
        obtain ⟨U, hWF, hU0, hU1, -⟩ := WF.of_ownL ho6
        obtain ⟨gv, hAv⟩ : ∃ gv, Ac = some ⟨gv, 0, none⟩ := by obtain ⟨g, cap, e⟩ := row_form2 ho6.row0.1 (by omega); simp only [Value.slice.injEq] at e; exact ⟨g, e.1⟩
        obtain ⟨gc, hAc⟩ : ∃ gc, Cc = some ⟨gc, 0, none⟩ := by obtain ⟨g, cap, e⟩ := row_form2 ho6.rowC.1 (by omega); simp only [Value.slice.injEq] at e; exact ⟨g, e.1⟩
        obtain ⟨gr, hAr⟩ : ∃ gr, Ec = some ⟨gr, 0, none⟩ := by obtain ⟨g, cap, e⟩ := row_form2 hWF.top (by omega); simp only [Value.slice.injEq] at e; exact ⟨g, e.1⟩
        subst hAv hAc hAr
        have HX6 := Lib.hid (HX5.out.step hb6)
        have HB6 := Lib.hid (HB5.out.trans (hb6.mono (by omega)))
        have hs6 : w5.heap.size ≤ w6.heap.size := hb6.size
        have t0 := HX6.out.c0.c 0 _ rfl
        have t1 := HX6.out.c1.c 0 _ rfl
        have t2 := HX6.out.c1.c 1 _ rfl
        have t3 := HX6.out.c1.c 2 _ rfl
        have HU0 := Lib.hid hU0
        have HU1 := Lib.hid hU1
        have HWR := Lib.hid (spec_writeLazy A mc c gv cc gr ecc gc dcc gs U st [] kk x w6 w5.heap.size hs6 HN.out hn10 hWF hU0 hU1 HVL.out HCL.out hkn HCC.out HRL.out)
        clear ho ho6 hb' hb6 hWF hU0 hU1 s0 s1 s2 s3 HBd HX5 HB5
        refine hK.out _ _ ⟨t0, t1, t2, t3⟩ (fun hHeld => ?_); clear hK K; (try simp only [Act.put, List.setIfInBounds_toArray]); (try dsimp only [List.set_cons_zero, List.set_cons_succ])
        refine wpAnyH_ready (rs := [5]) (by kernel_rfl) (by simp) ?_; refine AllReadyH.cons (o := ⟨some 31, _, _, _, _, _⟩) rfl (fun K hK => ?_) AllReadyH.nil; go_simp
        go_at_call 37
        refine HWR.out.mono ?_
        rintro e w7 ⟨rfl, hWF7, hb7⟩
        have HX7 := Lib.hid (HX6.out.low hb7 (by omega))
        have HB7 := Lib.hid (HB6.out.trans (hb7.mono (by omega)))
        have HF7 := Lib.hid hWF7
        have hs7 : w6.heap.size ≤ w7.heap.size := hb7.size
        have q0 := HX7.out.c0.c 0 _ rfl
        have q1 := HX7.out.c1.c 0 _ rfl
        have q2 := HX7.out.c1.c 1 _ rfl
        have q3 := HX7.out.c1.c 2 _ rfl
        have u0 := HX7.out.c2.c 0 _ rfl
        have u1 := HX7.out.c2.c 1 _ rfl
        have u2 := HX7.out.c2.c 2 _ rfl
        have f0 := HX7.out.c2.f 0
        have f1 := HX7.out.c2.f 1
        have f2 := HX7.out.c2.f 2
        clear hWF7 hb7 HX6 HB6 t0 t1 t2 t3 HWR
        refine hK.out _ _ ⟨q0, q1, q2, q3⟩ (fun hHeld => ?_); clear hK K; (try simp only [Act.put, List.setIfInBounds_toArray]); (try dsimp only [List.set_cons_zero, List.set_cons_succ])
        refine wpAnyH_ready (rs := [6]) (by kernel_rfl) (by simp) ?_; refine AllReadyH.cons (o := ⟨none, _, _, _, _, _⟩) rfl (fun K hK => ?_) AllReadyH.nil; go_simp
        obtain ⟨W8, hW8⟩ : ∃ W, W = ((w7.setCell ⟨w.heap.size + 1 + 1, 0, none⟩ (.slice (some ⟨gv, 0, none⟩) mc cc)).setCell ⟨w.heap.size + 1 + 1, 1, none⟩ (.slice (some ⟨gr, 0, none⟩) mc ecc)).setCell ⟨w.heap.size + 1 + 1, 2, none⟩ (.slice (some ⟨gc, 0, none⟩) mc dcc) := ⟨_, rfl⟩
        have hfr8 : Frm (w.heap.size + 1 + 1) w7 W8 := by rw [hW8]; exact ((Frm.set _ _ _ _).trans (Frm.set _ _ _ _)).trans (Frm.set _ _ _ _)
        have R8 : Bx (w.heap.size + 1 + 1) [.slice (some ⟨gv, 0, none⟩) mc cc, .slice (some ⟨gr, 0, none⟩) mc ecc, .slice (some ⟨gc, 0, none⟩) mc dcc] W8 := by rw [hW8]; exact ((HX7.out.c2.set 0 (by simp) _).set 1 (by simp) _).set 2 (by simp) _
        have X8 := HX7.out.c0.frm hfr8 (by omega)
        have Y8 := HX7.out.c1.frm hfr8 (by omega)
        have HF8 := Lib.hid ((HF7.out.q.keep (w' := W8) fun q hq hq2 => hfr8.block q hq2 (by omega)).f hfr8.size)
        have HB8 := Lib.hid (HB7.out.trans (hfr8.below (B := w.heap.size) (by omega) (by omega)))
        have z0 := R8.c 0 _ rfl
        have z1 := R8.c 1 _ rfl
        have z2 := R8.c 2 _ rfl
        have hs8 := hfr8.size
        have l0 := X8.c 0 _ rfl
        have l1 := Y8.c 0 _ rfl
        have l2 := Y8.c 1 _ rfl
        have l3 := Y8.c 2 _ rfl
        rw [← hW8]
        clear hW8 hfr8 R8 X8 Y8 HX7 HF7 HB7 u0 u1 u2 f0 f1 f2 q0 q1 q2 q3
        refine hK.out _ _ ⟨l0, l1, l2, l3⟩ (fun hHeld => ?_); clear hK K; (try simp only [Act.put, List.setIfInBounds_toArray]); (try dsimp only [List.set_cons_zero, List.set_cons_succ])
        refine wpAnyH_ready (rs := [7]) (by kernel_rfl) (by simp) ?_; refine AllReadyH.cons (o := ⟨some 9, _, _, _, _, _⟩) rfl (fun K hK => ?_) AllReadyH.nil; go_simp
        refine hK.out _ _ ⟨l0, l1, l2, l3⟩ (fun hHeld => ?_); clear hK K; (try simp only [Act.put, List.setIfInBounds_toArray]); (try dsimp only [List.set_cons_zero, List.set_cons_succ])
        refine wpAnyH_done (by kernel_rfl) ?_ _
        go_wp2
        refine bodyPost_ret (v := .tuple #[.agg #[.slice (some ⟨gv, 0, none⟩) mc cc, .slice (some ⟨gr, 0, none⟩) mc ecc, .slice (some ⟨gc, 0, none⟩) mc dcc], .bool true]) (by simp [results, Tryz.results10, go_sem, z0, z1, z2]) rfl ?_
        refine ⟨_, _, _, _, _, _, _, _, _, rfl, (OwL.of_wf HF8.out ?_ HU0.out HU1.out).mono (by omega) (Nat.le_refl _), HB8.out⟩
        rw [wlF_len]
        exact HVL.out.symm
end Go.Proofs.YtlcpgbbpjnkihaaGreat
