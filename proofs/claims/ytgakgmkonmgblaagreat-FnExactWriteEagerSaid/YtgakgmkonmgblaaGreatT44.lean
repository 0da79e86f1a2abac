/- impl.WriteEager. -/
import Derived.Test.YtgakgmkonmgblaaGreatA8
import Derived.Test.YtgakgmkonmgblaaGreatT43
import Derived.Test.YtgakgmkonmgblaaGreatM45

namespace Go.Proofs.YtgakgmkonmgblaaGreat
set_option linter.unusedSimpArgs false
set_option linter.unusedVariables false
open Go.RowKit

set_option maxRecDepth 100000 in
set_option maxHeartbeats 12800000 in
theorem top_impl_WriteEager (gs : List Nd) (st : Eg) (xs ys : List Int) (hG : GB gs) (hE : EB st) (hL : xs.length ≤ 1048576) (hL2 : ys.length ≤ 1048576) : ∀ (A : Option Addr) (n c : Nat) (A' : Option Addr) (m c' : Nat) (E : Option Addr) (p ec : Nat) (A2 : Option Addr) (m2 c2 : Nat) (A3 : Option Addr) (m3 c3 : Nat) (w : World), n = gs.length → n ≤ c → GS w w.heap.size A gs → m = st.vs.length → p = st.rs.length → ES w w.heap.size A' E st → m2 = xs.length → m2 ≤ c2 → IS w w.heap.size A2 xs → m3 = ys.length → m3 ≤ c3 → IS w w.heap.size A3 ys →
    Calls Tryz.prog 6 #[.agg #[.slice A n c], .agg #[.slice A' m c', .slice E p ec], .slice A2 m2 c2, .slice A3 m3 c3] w fun e w' => RetEW w (writeF gs st xs ys) (writeR gs st xs ys) e w' := by
  intro A n c A' m c' E p ec A2 m2 c2 A3 m3 c3 w hn hnc h hm hp h' hm2 hmc2 h2 hm3 hmc3 h3
  obtain ⟨i0, hi, hz0, hz1, hz2⟩ := info_parts info_int
  obtain ⟨W3, hW3⟩ : ∃ W, W = ((w.alloc (.cells #[.slice A n c] 25)).alloc (.cells #[.slice A' m c', .slice E p ec] 29)).alloc (.cells #[.slice none 0 0, .slice none 0 0] 29) := ⟨_, rfl⟩
  have hb3 : Below w.heap.size w W3 := by rw [hW3]; exact (((Below.refl _ _).alloc (Nat.le_refl _) _).alloc (by simp) _).alloc (by simp; omega) _
  have hs3 : W3.heap.size = w.heap.size + 3 := by rw [hW3]; simp
  have hX : B3 w.heap.size (.slice A n c) (.slice A' m c') (.slice E p ec) W3 := by rw [hW3]; exact B3.new w _ _ _
  have HCW := Lib.hid (impl_canWrite A A' E A2 A3 n c m c' p ec m2 c2 m3 c3 gs st xs ys W3 hn hnc ((h.below hb3 (Nat.le_refl _)).more (by omega)) hm hp ((h'.below hb3 (Nat.le_refl _)).more (by omega)) hm2 ((h2.below hb3 (Nat.le_refl _)).more (by omega)) hm3 ((h3.below hb3 (Nat.le_refl _)).more (by omega)) hG hE hL hL2)
  rw [hW3] at HCW
  have hms : m ≤ 2000000 := by have := hE.1; omega
  have HCP := Lib.hid fun (w' : World) (hB : w.heap.size ≤ w'.heap.size) (h' : ES w' w.heap.size A' E st) => impl_copyEager A' E m c' p ec st.vs st.rs w' w.heap.size hB hm hp h'.1 h'.2 hE.2.1 hms
  have HG := Lib.hid h
  have HE := Lib.hid h'
  have H2 := Lib.hid h2
  have H3 := Lib.hid h3
  have HN := Lib.hid hn
  have HM := Lib.hid hm
  have HP := Lib.hid hp
  have HM2 := Lib.hid hm2
  have HM3 := Lib.hid hm3
  have HW3 := Lib.hid hW3
  have HB3 := Lib.hid hb3
  have HX := Lib.hid hX
  have HS3 := Lib.hid hs3
  have hF : writeF gs st xs ys = if wrtB gs st xs ys = true then wrtE gs st xs ys else ⟨[], []⟩ := rfl
  have hR : writeR gs st xs ys = if wrtB gs st xs ys = true then wrtR gs st xs ys else [] := rfl
  rw [hF, hR]
  have hvp : wrtB gs st xs ys = true → validE gs st = true ∧ gwB gs xs ys = true := fun h => by unfold wrtB at h; rwa [Bool.and_eq_true] at h
  have HVP := Lib.hid hvp
  generalize wrtB gs st xs ys = v at *
  clear hW3 hb3 hs3 hX h h' h2 h3 hn hm hp hm2 hm3 hmc2 hmc3 hG hE hL hL2 hvp hF hR hms
  cases v
  · simp only [Bool.false_eq_true, if_false]
    go_enter Tryz.func6, Tryz.ntmps6
    go_wp2_with fail
    refine HCW.out.mono ?_
    rw [← HW3.out]
    rintro e w4 ⟨rfl, hb⟩
    have Y := HX.out.step hb
    have r1 := Y.c2.c 0 _ rfl
    have r2 := Y.c2.c 1 _ rfl
    have g1 := Y.c2.f 0
    have g2 := Y.c2.f 1
    have hs4 : w.heap.size + 3 ≤ w4.heap.size := by have := hb.size; have := HS3.out; omega
    have HB4 := Lib.hid (HB3.out.trans (hb.mono (by have := HS3.out; omega)))
    clear hb Y
    go_wp2
    refine bodyPost_ret (v := .tuple #[.agg #[.slice none 0 0, .slice none 0 0], .slice none 0 0]) (by simp [results, Tryz.results6, go_sem, r1, r2]) rfl ?_
    exact RetEW.nil ((HB4.out.setCell (by simp; omega) _).setCell (by simp; omega) _)
  · simp only [if_true]
    obtain ⟨hv, hw⟩ := HVP.out (by first | rfl | trivial)
    obtain ⟨v1, v2, v3, v4, v5⟩ := validE_parts gs st hv
    obtain ⟨g1, g2, g3, g4, g5⟩ := gw_parts hw
    have hn10 : n ≤ 10 := by have := (validG_parts gs v1).1; have := HN.out; omega
    have hmn : m = n := by have := HM.out; have := HN.out; omega
    have hpn : p = n := by have := HP.out; have := HN.out; omega
    have hm32 : m3 = m2 := by have := HM2.out; have := HM3.out; omega
    have hm10 : m2 ≤ 10 := by have := HM2.out; omega
    have HV1 := Lib.hid v1
    have HV5 := Lib.hid hv
    have HGN := Lib.hid g4
    have HGC := Lib.hid g5
    have HOK := Lib.hid (wB_ok v1 (wS_ok hv hw))
    have HRR := Lib.hid (wA_rng (xs := xs) v4 g3)
    subst hmn
    subst hpn
    subst hm32
    clear hv hw v1 v2 v3 v4 v5 g1 g2 g3 g4 g5
    go_enter Tryz.func6, Tryz.ntmps6
    go_wp2_with fail
    refine HCW.out.mono ?_
    rw [← HW3.out]
    rintro e w4 ⟨rfl, hb⟩
    have HX4 := Lib.hid (HX.out.step hb)
    have hs4 : w.heap.size + 3 ≤ w4.heap.size := by have := hb.size; have := HS3.out; omega
    have HB4 := Lib.hid (HB3.out.trans (hb.mono (by have := HS3.out; omega)))
    have s1 := HX4.out.c1.c 0 _ rfl
    have s2 := HX4.out.c1.c 1 _ rfl
    clear hb HCW
    go_wp2_with fail
    refine (HCP.out w4 (by omega) (HE.out.below HB4.out (Nat.le_refl _))).mono ?_
    rintro e w5 ⟨gv, rfl, ho, hb⟩
    obtain ⟨gr, hgr⟩ : ∃ g, g = w4.heap.size + 2 := ⟨_, rfl⟩
    rw [← hgr] at ho ⊢
    have HX5 := Lib.hid (HX4.out.step hb)
    have HB5 := Lib.hid (HB4.out.trans (hb.mono (by omega)))
    have hs5 : w4.heap.size ≤ w5.heap.size := hb.size
    obtain ⟨U, hWF, hU0, -, hU2⟩ := WF.of_own (st := st) ho
    have hgvl : gv < w5.heap.size := by have := (ho.row0.2 _ rfl); exact this
    have hgrl : gr < w5.heap.size := by have := (hWF.top.lt _ rfl).2; exact this
    have hgr2 : w.heap.size + 2 < gr := by omega
    obtain ⟨A0, m0, c0, a1, -, a3⟩ := hWF.at_ 0 (by omega)
    rw [hU0] at a1
    cases a1
    have hgv2 : w.heap.size + 2 < gv := by have h9 : w4.heap.size ≤ gv := (a3.lt _ rfl).1; omega
    have HWF5 := Lib.hid hWF
    have HU : Hid (U[0]? = some (.slice (some ⟨gv, 0, none⟩) p p) ∧ U[2]? = some (.slice none 0 0)) := ⟨hU0, hU2⟩
    clear hb ho hWF hU0 hU2 s1 s2 HCP a3 HX4 HB4 hgr
    go_wp2
    obtain ⟨ob, hob⟩ : ∃ b, b = w5.heap.size := ⟨_, rfl⟩
    obtain ⟨W6, hW6⟩ : ∃ W, W = (w5.alloc (.cells #[.slice (some ⟨gv, 0, none⟩) p p, .slice (some ⟨gr, 0, none⟩) p p] 29)).alloc (.cells #[.bool false, .bool false, .bool false, .bool false, .bool false, .bool false, .bool false, .bool false, .bool false, .bool false] 65) := ⟨_, rfl⟩
    rw [← hW6, ← hob]
    have hb6 : Below w5.heap.size w5 W6 := by rw [hW6]; exact ((Below.refl _ _).alloc (Nat.le_refl _) _).alloc (by simp) _
    have HF6 := Lib.hid (HWF5.out.step hb6)
    have HX6 := Lib.hid (HX5.out.step hb6)
    have HB6 := Lib.hid (HB5.out.trans (hb6.mono (by omega)))
    have HO6 : Hid (Bx ob [.slice (some ⟨gv, 0, none⟩) p p, .slice (some ⟨gr, 0, none⟩) p p] W6 ∧ Tg ob 29 W6) := by
      rw [hW6, hob]
      have h1 := Bx.start w5 #[.slice (some ⟨gv, 0, none⟩) p p, .slice (some ⟨gr, 0, none⟩) p p] 29
      have h2 := Tg.new w5 #[.slice (some ⟨gv, 0, none⟩) p p, .slice (some ⟨gr, 0, none⟩) p p] 29 (0, 0)
      exact ⟨h1.alloc _, h2.below ((Below.refl _ _).alloc (Nat.le_refl _) _) h1.lt⟩
    have HA6 : Hid (AR (ob + 1) (fun j => decide ((j : Int) ∈ (wA st.vs xs ys 0).2)) W6) := by
      have h1 := AR.new (w5.alloc (.cells #[.slice (some ⟨gv, 0, none⟩) p p, .slice (some ⟨gr, 0, none⟩) p p] 29))
      rw [← hW6, World.size_alloc, ← hob] at h1
      exact ⟨h1.lt, fun j hj => by rw [h1.c j hj]; simp [wA], h1.z, h1.t⟩
    have hbl : w.heap.size + 3 ≤ ob := by omega
    have hw4b : w4.heap.size ≤ ob := by omega
    rw [← hob] at hgvl hgrl
    clear hW6 hb6 hob HWF5 HX5 HB5 hs5
    go_loopw [27] (fun u wr => ∃ k : Nat, k ≤ m3 ∧ u = .int .i64 k ∧ Hid (WF w4.heap.size (some ⟨gr, 0, none⟩) p p U (wA st.vs xs ys k).1 [] [] st.rs wr) ∧ Hid (B3 w.heap.size (.slice A p c) (.slice A' p c') (.slice E p ec) wr) ∧ Hid (Bx ob [.slice (some ⟨gv, 0, none⟩) p p, .slice (some ⟨gr, 0, none⟩) p p] wr ∧ Tg ob 29 wr) ∧ Hid (AR (ob + 1) (fun j => decide ((j : Int) ∈ (wA st.vs xs ys k).2)) wr) ∧ Hid (Below w.heap.size w wr)) (fun u _ => m3 - (intOf u).toNat)
    case atStart => exact ⟨0, Nat.zero_le _, rfl, HF6.out, HX6.out, HO6.out, HA6.out, HB6.out⟩
    case round =>
      obtain ⟨k, hk, rfl, HF, HX, HO, HA, HB⟩ := hrel
      have hwr : w.heap.size + 3 ≤ wr.heap.size := by have := HX.out.c2.lt; omega
      by_cases hlt : k < m3
      · have hkx : k < xs.length := by have := HM2.out; omega
        have hky : k < ys.length := by have := HM3.out; omega
        obtain ⟨b2, o2, rfl, hb2, e2⟩ := (H2.out.below HB.out (Nat.le_refl _)) (by omega)
        have x2 := e2 k hkx
        obtain ⟨b3, o3, rfl, hb3, e3⟩ := (H3.out.below HB.out (Nat.le_refl _)) (by omega)
        have y3 := e3 k hky
        obtain ⟨q, hqx, hqg, hqk⟩ := isC_at (HGC.out k hkx)
        have hqp : q < p := by have := HN.out; omega
        have hq10 : q < 10 := by omega
        have hq10i : (q : Int) < 10 := by omega
        have HS1 : Hid ((wA st.vs xs ys (k + 1)).1 = (wA st.vs xs ys k).1.set q (ys.getD k 0)) := by
          have := wA_step (vs := st.vs) (xs := xs) (ys := ys) k
          rw [hqx, Int.toNat_natCast] at this
          exact this
        have HS2 : Hid (∀ j : Nat, j < 10 → decide ((j : Int) ∈ (wA st.vs xs ys (k + 1)).2) = if j = q then !((wA st.vs xs ys k).1.getD q 0 == ys.getD k 0) else decide ((j : Int) ∈ (wA st.vs xs ys k).2)) := fun j hj => by
          have := wA_ch (vs := st.vs) (ys := ys) HGN.out k hkx (j : Int)
          rw [hqx, Int.toNat_natCast] at this
          rw [this]
          by_cases e : j = q
          · subst e; simp
          · rw [if_neg e, if_neg (by omega)]
        have hvl : (wA st.vs xs ys k).1.length = p := by rw [wA_len]; exact HM.out.symm
        rw [hqx] at x2
        obtain ⟨A0, m0, c0, a1, -, a3⟩ := HF.out.at_ 0 (by omega)
        rw [HU.out.1] at a1
        cases a1
        have hgvw : gv < wr.heap.size := (a3.lt _ rfl).2
        have z0 : wr.cell? ⟨gv, q, none⟩ = some (.int .i64 ((wA st.vs xs ys k).1.getD q 0)) := by
          rw [a3.cellAt q (by omega)]
          have hil : q < (wA st.vs xs ys k).1.length := by omega
          simp [rowOf, List.getD, hil]
        have f0 := a3.frozenAt q
        have HSV := Lib.hid (impl_setValue gv p p q (some ⟨gr, 0, none⟩) p p ((wA st.vs xs ys k).1.getD q 0) (ys.getD k 0) wr.drew hqp hgvw z0 f0)
        obtain ⟨z, hz⟩ : ∃ z, z = (wA st.vs xs ys k).1.getD q 0 := ⟨_, rfl⟩
        obtain ⟨y, hy⟩ : ∃ y, y = ys.getD k 0 := ⟨_, rfl⟩
        rw [← hz, ← hy] at HSV HS2
        rw [← hy] at HS1 y3
        have t0 := HO.out.1.c 0 _ rfl
        have t1 := HO.out.1.c 1 _ rfl
        have HFd := Lib.hid (HF.out.step ((Below.refl _ wr).drew))
        have HXd := Lib.hid (HX.out.step ((Below.refl _ wr).drew))
        have HOd : Hid (Bx ob [.slice (some ⟨gv, 0, none⟩) p p, .slice (some ⟨gr, 0, none⟩) p p] wr.drew ∧ Tg ob 29 wr.drew) := ⟨HO.out.1.drew, HO.out.2⟩
        have HAd := Lib.hid (HA.out.step ((Below.refl _ wr).drew))
        have HBd := Lib.hid (HB.out.drew)
        have hb2w : b2 < w.heap.size := hb2
        have hb3w : b3 < w.heap.size := hb3
        clear a3 z0 f0 hz hy hvl hqx hqg hqk e2 e3 HF HX HA HB hkx hky
        go_upto_region 8 with fail
        refine wp_region_held_drew (S := fun w' => w'.cell? ⟨ob, 0, none⟩ = some (.slice (some ⟨gv, 0, none⟩) p p) ∧ w'.cell? ⟨ob, 1, none⟩ = some (.slice (some ⟨gr, 0, none⟩) p p) ∧ w'.cell? ⟨b3, o3 + k, none⟩ = some (.int .i64 y)) (by kernel_rfl) ⟨t0, t1, y3⟩ (fun hHeld => ?_)
        refine wpAnyH_take (i := 0) (oi := ⟨some 32, _, _, _, _, _⟩) (v := ?_) rfl (by kernel_rfl) (by kernel_rfl) (by kernel_rfl) (fun _ _ _ h => h) (Or.inl ⟨by rfl, ?_⟩) (by assumption) ?_; rotate_left; (focus (intro w hSw; (try dsimp only at hSw); go_simp; (try with_reducible rfl))); (try simp only [Act.put, List.setIfInBounds_toArray, List.set_cons_zero, List.set_cons_succ])
        refine wpAnyH_take (i := 1) (oi := ⟨some 33, _, _, _, _, _⟩) (v := ?_) rfl (by kernel_rfl) (by kernel_rfl) (by kernel_rfl) (fun _ _ _ h => h) (Or.inl ⟨by rfl, ?_⟩) (by assumption) ?_; rotate_left; (focus (intro w hSw; (try dsimp only at hSw); go_simp; (try with_reducible rfl))); (try simp only [Act.put, List.setIfInBounds_toArray, List.set_cons_zero, List.set_cons_succ])
        refine wpAnyH_take (i := 2) (oi := ⟨some 34, _, _, _, _, _⟩) (v := ?_) rfl (by kernel_rfl) (by kernel_rfl) (by kernel_rfl) (fun _ _ _ h => h) (Or.inl ⟨by rfl, ?_⟩) (by assumption) ?_; rotate_left; (focus (intro w hSw; (try dsimp only at hSw); go_simp; (try with_reducible rfl))); (try simp only [Act.put, List.setIfInBounds_toArray, List.set_cons_zero, List.set_cons_succ])
        refine wpAnyH_take (i := 3) (oi := ⟨some 35, _, _, _, _, _⟩) (v := ?_) rfl (by kernel_rfl) (by kernel_rfl) (by kernel_rfl) (fun _ _ _ h => h) (Or.inl ⟨by rfl, ?_⟩) (by assumption) ?_; rotate_left; (focus (intro w hSw; (try dsimp only at hSw); go_simp; (try with_reducible rfl))); (try simp only [Act.put, List.setIfInBounds_toArray, List.set_cons_zero, List.set_cons_succ])
        refine wpAnyH_take (i := 4) (oi := ⟨some 36, _, _, _, _, _⟩) (v := ?_) rfl (by kernel_rfl) (by kernel_rfl) (by kernel_rfl) (fun _ _ _ h => h) (Or.inl ⟨by rfl, ?_⟩) (by assumption) ?_; rotate_left; (focus (intro w hSw; (try dsimp only at hSw); go_simp; (try with_reducible rfl))); (try simp only [Act.put, List.setIfInBounds_toArray, List.set_cons_zero, List.set_cons_succ])
        refine wpAnyH_take (i := 5) (oi := ⟨some 37, _, _, _, _, _⟩) (v := ?_) rfl (by kernel_rfl) (by kernel_rfl) (by kernel_rfl) (fun _ _ _ h => h) (Or.inl ⟨by rfl, ?_⟩) (by assumption) ?_; rotate_left; (focus (intro w hSw; (try dsimp only at hSw); go_simp; (try with_reducible rfl))); (try simp only [Act.put, List.setIfInBounds_toArray, List.set_cons_zero, List.set_cons_succ])
        refine wpAnyH_take (i := 6) (oi := ⟨some 38, _, _, _, _, _⟩) (v := ?_) rfl (by kernel_rfl) (by kernel_rfl) (by kernel_rfl) (fun _ _ _ h => h) (Or.inl ⟨by rfl, ?_⟩) (by assumption) ?_; rotate_left; (focus (intro w hSw; (try dsimp only at hSw); go_simp; (try with_reducible rfl))); (try simp only [Act.put, List.setIfInBounds_toArray, List.set_cons_zero, List.set_cons_succ])
        refine wpAnyH_ready (rs := [7]) (by kernel_rfl) (by simp) ?_; refine AllReadyH.cons (o := ⟨some 39, _, _, _, _, _⟩) rfl (fun K hK => ?_) AllReadyH.nil; go_simp
        go_at_call 35
        refine HSV.out.mono ?_
        rintro e w7 ⟨rfl, hw7⟩
        have hba : Below (wr.drew.setCell ⟨gv, q, none⟩ (.int .i64 y)).heap.size (wr.drew.setCell ⟨gv, q, none⟩ (.int .i64 y)) w7 := by rw [hw7]; exact (Below.refl _ _).alloc (Nat.le_refl _) _
        have HF7 := Lib.hid ((HFd.out.setV (q := q) (gv := gv) HU.out.1 y).step hba)
        have HX7 := Lib.hid ((HXd.out.set (p := ⟨gv, q, none⟩) (by show gv < w.heap.size ∨ w.heap.size + 2 < gv; omega) (.int .i64 y)).step hba)
        have HO7 : Hid (Bx ob [.slice (some ⟨gv, 0, none⟩) p p, .slice (some ⟨gr, 0, none⟩) p p] w7 ∧ Tg ob 29 w7) := by
          have h1 := HOd.out.1.other ⟨gv, q, none⟩ (by show ob ≠ gv; omega) (.int .i64 y)
          exact ⟨h1.step hba, (HOd.out.2.set _ _).below hba h1.lt⟩
        have HA7 := Lib.hid ((HAd.out.other (a := ⟨gv, q, none⟩) (by show gv ≠ ob + 1; omega) (.int .i64 y)).step hba)
        have HB7 := Lib.hid ((HBd.out.setCell (p := ⟨gv, q, none⟩) (by show w.heap.size ≤ gv; omega) (.int .i64 y)).trans (hba.mono (by simp [World.setCell]; omega)))
        have HF8 := Lib.hid (HF7.out.setT HA7.out.t (by decide) (by decide) q (.bool (!(z == y))))
        have HX8 := Lib.hid (HX7.out.set (p := ⟨ob + 1, q, none⟩) (by show ob + 1 < w.heap.size ∨ w.heap.size + 2 < ob + 1; omega) (.bool (!(z == y))))
        have HO8 : Hid (Bx ob [.slice (some ⟨gv, 0, none⟩) p p, .slice (some ⟨gr, 0, none⟩) p p] (w7.setCell ⟨ob + 1, q, none⟩ (.bool (!(z == y)))) ∧ Tg ob 29 (w7.setCell ⟨ob + 1, q, none⟩ (.bool (!(z == y))))) := ⟨HO7.out.1.other _ (by show ob ≠ ob + 1; omega) _, HO7.out.2.set _ _⟩
        have HA8 := Lib.hid (HA7.out.put hq10 (!(z == y)) HS2.out)
        have HB8 := Lib.hid (HB7.out.setCell (p := ⟨ob + 1, q, none⟩) (by show w.heap.size ≤ ob + 1; omega) (.bool (!(z == y))))
        have r0 := HO7.out.1.c 0 _ rfl
        have r1 := HO7.out.1.c 1 _ rfl
        have r3 : w7.cell? ⟨b3, o3 + k, none⟩ = some (.int .i64 y) := by
          have h1 := (hba.cell (p := ⟨b3, o3 + k, none⟩) (by show b3 < _; simp [World.setCell]; omega))
          rw [h1, World.cell?_setCell_other _ _ _ _ (by simp; try omega)]
          exact y3
        have u0 := HO8.out.1.c 0 _ rfl
        have u1 := HO8.out.1.c 1 _ rfl
        have u3 := (World.cell?_setCell_other w7 ⟨ob + 1, q, none⟩ ⟨b3, o3 + k, none⟩ (.bool (!(z == y))) (by simp; try omega)).trans r3
        have c9 := HA7.out.c q hq10
        have z9 := HA7.out.z q
        have hl9 : ob + 1 < w7.heap.size := HA7.out.lt
        clear hba hw7 t0 t1 y3
        refine hK.out _ _ ⟨r0, r1, r3⟩ (fun hHeld => ?_); clear hK K; (try simp only [Act.put, List.setIfInBounds_toArray, List.set_cons_zero, List.set_cons_succ])
        refine wpAnyH_take (i := 8) (oi := ⟨some 40, _, _, _, _, _⟩) (v := ?_) rfl (by kernel_rfl) (by kernel_rfl) (by kernel_rfl) (fun _ _ _ h => h) (Or.inl ⟨by rfl, ?_⟩) (by assumption) ?_; rotate_left; (focus (intro w hSw; (try dsimp only at hSw); go_simp; (try with_reducible rfl))); (try simp only [Act.put, List.setIfInBounds_toArray, List.set_cons_zero, List.set_cons_succ])
        refine wpAnyH_ready (rs := [9]) (by kernel_rfl) (by simp) ?_; refine AllReadyH.cons (o := ⟨none, _, _, _, _, _⟩) rfl (fun K hK => ?_) AllReadyH.nil; go_simp
        refine hK.out _ _ ⟨u0, u1, u3⟩ (fun hHeld => ?_); clear hK K; (try simp only [Act.put, List.setIfInBounds_toArray, List.set_cons_zero, List.set_cons_succ])
        refine wpAnyH_done (by kernel_rfl) ?_ _
        go_wp2
        go_roundw
        case rel => exact ⟨k + 1, by omega, by go_num, by rw [HS1.out]; exact HF8.out, HX8.out, HO8.out, HA8.out, HB8.out⟩
        case measure => simp [intOf]; omega
      · obtain rfl : k = m3 := by omega
        have HS0 : Hid (WF w4.heap.size (some ⟨gr, 0, none⟩) p p U (wB gs (wS gs st xs ys) 0).vs [] (wB gs (wS gs st xs ys) 0).rn (wB gs (wS gs st xs ys) 0).rs wr) := by
          have h9 := HF.out
          rw [HM2.out] at h9
          exact h9
        have HA0 : Hid (AR (ob + 1) (fun j => decide ((j : Int) ∈ (wB gs (wS gs st xs ys) 0).ch)) wr) := by
          have h9 := HA.out
          rw [HM2.out] at h9
          exact h9
        have HX0 := HX
        have HO0 := HO
        have HB0 := HB
        have p0 := HX.out.c0.c 0 _ rfl
        obtain ⟨S0, hS0⟩ : ∃ S, S = wS gs st xs ys := ⟨_, rfl⟩
        rw [← hS0] at HS0 HA0 HOK
        have HSS : Hid (wrtE gs st xs ys = ⟨(wB gs S0 gs.length).vs, (wB gs S0 gs.length).rs⟩ ∧ wrtR gs st xs ys = (wB gs S0 gs.length).rn) := by rw [hS0]; exact ⟨rfl, rfl⟩
        clear hS0 HF HA HX HO HB hlt
        go_wp2
        clear p0
        go_loopw [45, 14] (fun u v wr => ∃ (i : Nat) (U2 : List Value) (Rc : Option Addr) (rl rc : Nat), i ≤ p ∧ u = .int .i64 i ∧ v = .slice Rc rl rc ∧ Hid (WF w4.heap.size (some ⟨gr, 0, none⟩) p p U2 (wB gs S0 i).vs [] (wB gs S0 i).rn (wB gs S0 i).rs wr) ∧ Hid (U2[0]? = some (.slice (some ⟨gv, 0, none⟩) p p) ∧ U2[2]? = some (.slice Rc rl rc)) ∧ Hid (B3 w.heap.size (.slice A p c) (.slice A' p c') (.slice E p ec) wr) ∧ Hid (Bx ob [.slice (some ⟨gv, 0, none⟩) p p, .slice (some ⟨gr, 0, none⟩) p p] wr ∧ Tg ob 29 wr) ∧ Hid (AR (ob + 1) (fun j => decide ((j : Int) ∈ (wB gs S0 i).ch)) wr) ∧ Hid (Below w.heap.size w wr)) (fun u _ _ => p - (intOf u).toNat)
        case atStart => exact ⟨0, U, none, 0, 0, Nat.zero_le _, rfl, rfl, HS0.out, HU.out, HX0.out, HO0.out, HA0.out, HB0.out⟩
        case round =>
          clear HS0 HA0 HX0 HO0 HB0 HF6 HX6 HB6 HO6 HA6 hwr hk
          obtain ⟨i, U2, Rc, rl, rc, hi9, rfl, rfl, HF, HU2, HX, HO, HA, HB⟩ := hrel
          have hwr : w.heap.size + 3 ≤ wr.heap.size := by have := HX.out.c2.lt; omega
          have hobw : ob + 1 < wr.heap.size := HA.out.lt
          by_cases hlt : i < p
          · have hig : i < gs.length := by have := HN.out; omega
            have HWO := Lib.hid (HOK.out i (by omega))
            obtain ⟨s, hs⟩ : ∃ s, s = wB gs S0 i := ⟨_, rfl⟩
            have HSU : Hid (wB gs S0 (i + 1) = if wGo gs s i = true then wRun gs s i else s) := by rw [hs]; exact wB_succ gs S0 i
            rw [← hs] at HF HA HWO
            have hrs : s.rs.getD i [] = st.rs.getD i [] := HWO.out.same i (Nat.le_refl _)
            have hmem : ∀ x ∈ s.rs.getD i [], ∃ q : Nat, x = q ∧ q < 10 := fun x hx => by
              rw [hrs] at hx
              have h5 := (validE_parts gs st HV5.out).2.2.2.2 i hig
              unfold okE at h5
              rw [Bool.and_eq_true, decide_eq_true_eq] at h5
              rw [← h5.2] at hx
              obtain ⟨q, e, h6⟩ := dep_lt HV1.out i hig _ x hx
              exact ⟨q, e, by omega⟩
            obtain ⟨A8, m8, c8, z8, hm8, hI8⟩ := HF.out.reads i hlt
            have hl8 : (s.rs.getD i []).length ≤ 10 := HWO.out.rb i
            have HCF := Lib.hid (slices_ContainsFuncM 37 (.pointer (some ⟨ob + 1, 0, none⟩)) (fun q => decide (q ∈ s.ch)) A8 m8 c8 (s.rs.getD i []) (by omega) wr (fun q w => by kernel_rfl) (fun x hx => by
              obtain ⟨q, rfl, hq⟩ := hmem x hx
              exact impl_changedAt HA.out hq) hm8 wr.heap.size hI8)
            have hgo : wGo gs s i = (s.rs.getD i []).any (fun q => decide (q ∈ s.ch)) := by
              unfold wGo meetB
              cases hk0 : ((gs.getD i default).k == 0)
              · simp
              · have := cell_reads HV5.out i hig hk0
                rw [hrs, this]; rfl
            have HKC : Hid (wGo gs s i = true → ((gs.getD i default).k == 0) = false) := fun h => by
              unfold wGo at h
              rw [Bool.and_eq_true, Bool.not_eq_true'] at h
              exact h.1
            rw [← hgo] at HCF
            have t0 := HO.out.1.c 0 _ rfl
            have t1 := HO.out.1.c 1 _ rfl
            clear hgo hrs hmem hm8 hI8 hl8 hs
            generalize wGo gs s i = go at *
            cases go
            · have HS3 : Hid (wB gs S0 (i + 1) = s) := by rw [HSU.out]; simp [Hid]
              clear HSU
              go_wp2_with fail
              refine HCF.out.mono ?_
              rintro e w7 ⟨rfl, rfl⟩
              go_wp2
              go_roundw
              case rel => exact ⟨i + 1, U2, _, _, _, by omega, by go_num, rfl, by rw [HS3.out]; exact HF.out, HU2.out, HX.out, HO.out, by rw [HS3.out]; exact HA.out, HB.out⟩
              case measure => simp [intOf]; omega
            · have HS3 : Hid (wB gs S0 (i + 1) = wRun gs s i) := by rw [HSU.out]; simp [Hid]
              have hk0 := HKC.out (by first | rfl | trivial)
              have HCH : Hid (∀ j : Nat, j < 10 → decide ((j : Int) ∈ (wRun gs s i).ch) = if j = i then !(s.vs.getD i 0 == valE gs s.vs i) else decide ((j : Int) ∈ s.ch)) := fun j _ => by
                rw [wRun_ch HWO.out hk0]
                by_cases e : j = i
                · subst e; simp
                · rw [if_neg e, if_neg (by omega)]
              clear HSU HKC hk0
              go_wp2_with fail
              refine HCF.out.mono ?_
              rintro e w7 ⟨rfl, rfl⟩
              -- one more that ran
              obtain ⟨A7, m7, c7, a1, a2, a3⟩ := HF.out.at_ 2 (by omega)
              rw [HU2.out.2] at a1
              cases a1
              have HA7 := Lib.hid a2
              have hrl10 : rl ≤ 10 := by rw [a2]; have := HWO.out.rn; simp [lenOf]; omega
              have HRW := Lib.hid (own_below a3 ((Below.refl w7.heap.size w7).alloc (Nat.le_refl _) (.cells #[.int .i64 (i : Int)] 3)))
              have hwz : w4.heap.size ≤ w7.heap.size := by omega
              clear a2 a3 z8 t0 t1 HCF
              go_wp2_with (at_builtin; refine wpList_append_own_at _ rfl _ _ 26 rfl w4.heap.size 3 i0 (.int .i64 0) 1 8 Tryz.underlying26 hi hz0 hz1 hz2 rfl (by decide) _ _ _ rfl HRW.out ⟨w7.heap.size, 0, none⟩ 1 1 [.int .i64 (i : Int)] rfl rfl (cell_one_new w7 _ _) (by intro u hu; obtain rfl := List.mem_singleton.1 hu; rfl) (by unfold maxLen; omega) (by omega) (by simp; omega) ?_)
              intro v6 W6 hown6 hgr6 _ hbl6
              obtain ⟨R6, rc6, hv6⟩ := row_form' hown6
              subst hv6
              have hb5 : Below w7.heap.size w7 (w7.alloc (.cells #[.int .i64 (i : Int)] 3)) := (Below.refl _ _).alloc (Nat.le_refl _) _
              have HF6 := Lib.hid (HF.out.app (J := 2) (o := .cells #[.int .i64 (i : Int)] 3) (x := (i : Int)) (.inr ⟨rfl, rfl, rfl⟩) HU2.out.2 hown6 (by rw [← HA7.out]) hgr6 (by rw [World.size_alloc]; exact hbl6))
              have HX6 := Lib.hid ((HX.out.step hb5).grown hgr6 ⟨(HF.out.step hb5).tag (J := 2) (by omega) HU2.out.2 (HX.out.step hb5).t0 (by decide), (HF.out.step hb5).tag (J := 2) (by omega) HU2.out.2 (HX.out.step hb5).t1 (by decide), (HF.out.step hb5).tag (J := 2) (by omega) HU2.out.2 (HX.out.step hb5).t2 (by decide)⟩)
              have HO6 : Hid (Bx ob [.slice (some ⟨gv, 0, none⟩) p p, .slice (some ⟨gr, 0, none⟩) p p] W6 ∧ Tg ob 29 W6) := by
                have k1 := HO.out.1.step hb5
                have k2 : Tg ob 29 (w7.alloc (.cells #[.int .i64 (i : Int)] 3)) := HO.out.2.below hb5 HO.out.1.lt
                have k3 := (HF.out.step hb5).tag (J := 2) (by omega) HU2.out.2 k2 (by decide)
                have k4 := hgr6.block ob k1.lt (fun e => k3 e.symm)
                exact ⟨k1.keepB k4 hgr6.size, k2.keep k4⟩
              have HA6 := Lib.hid ((HA.out.step hb5).grown hgr6 ((HF.out.step hb5).tag (J := 2) (by omega) HU2.out.2 (HA.out.step hb5).t (by decide)))
              have hlt6 := HRW.out.lt
              have HB6 := Lib.hid ((HB.out.alloc (by omega) (.cells #[.int .i64 (i : Int)] 3)).grown hgr6 (by simp; omega) (fun r e => by have := (hlt6 r e).1; omega))
              have hs6 : ob + 1 < W6.heap.size := HA6.out.lt
              have HU6 : Hid ((U2.set 2 (.slice R6 (rl + 1) rc6))[0]? = some (.slice (some ⟨gv, 0, none⟩) p p) ∧ (U2.set 2 (.slice R6 (rl + 1) rc6))[2]? = some (.slice R6 (rl + 1) rc6)) := by
                have hul := HF.out.ul
                refine ⟨?_, ?_⟩
                · rw [List.getElem?_set, if_neg (by omega)]; exact HU2.out.1
                · rw [List.getElem?_set, if_pos rfl, if_pos (by omega)]
              generalize U2.set 2 (.slice R6 (rl + 1) rc6) = U6 at *
              have p0 := HX6.out.c0.c 0 _ rfl
              have q0 := HO6.out.1.c 0 _ rfl
              have q1 := HO6.out.1.c 1 _ rfl
              have HRN := Lib.hid (impl_runNode A p c gr gv p p gs U6 s.vs [] (s.rn ++ [(i : Int)]) s.rs i W6 w4.heap.size (by omega) HN.out ((HG.out.below HB6.out (Nat.le_refl _)).more (by omega)) HF6.out HU6.out.1 HV1.out HWO.out.vl HWO.out.vr hlt)
              have HWR : Hid ((wRun gs s i).vs = s.vs.set i (valE gs s.vs i) ∧ (wRun gs s i).rs = s.rs.set i (depF gs s.vs i) ∧ (wRun gs s i).rn = s.rn ++ [(i : Int)]) := ⟨rfl, rfl, rfl⟩
              obtain ⟨X, hX⟩ : ∃ X, X = valE gs s.vs i := ⟨_, rfl⟩
              obtain ⟨D, hD⟩ : ∃ D, D = depF gs s.vs i := ⟨_, rfl⟩
              obtain ⟨z, hz⟩ : ∃ z, z = s.vs.getD i 0 := ⟨_, rfl⟩
              rw [← hX, ← hD, ← hz] at HRN
              rw [← hX, ← hD] at HWR
              rw [← hX, ← hz] at HCH
              have hi10 : i < 10 := by omega
              have hi10i : (i : Int) < 10 := by omega
              clear hX hD hz hown6 hgr6 hbl6 hb5 hlt6 HRW HF HX HO HA HB HU2
              go_wp2_with fail
              refine HRN.out.mono ?_
              rintro e w8 ⟨w2, Ad, cd, o, rfl, hb2, hd2, hw8⟩
              have hs2 : W6.heap.size ≤ w2.heap.size := hb2.size
              have HFa := HF6.out.putR (i := i) hlt (by omega) hb2 hd2 rfl
              have hUa : (U6.set (i + 3) (.slice Ad D.length cd))[0]? = some (.slice (some ⟨gv, 0, none⟩) p p) := by rw [List.getElem?_set, if_neg (by omega)]; exact HU6.out.1
              have hUc : (U6.set (i + 3) (.slice Ad D.length cd))[2]? = some (.slice R6 (rl + 1) rc6) := by rw [List.getElem?_set, if_neg (by omega)]; exact HU6.out.2
              have hba : Below ((w2.setCell ⟨gr, i, none⟩ (.slice Ad D.length cd)).setCell ⟨gv, i, none⟩ (.int .i64 X)).heap.size ((w2.setCell ⟨gr, i, none⟩ (.slice Ad D.length cd)).setCell ⟨gv, i, none⟩ (.int .i64 X)) w8 := by rw [hw8]; exact (Below.refl _ _).alloc (Nat.le_refl _) _
              have HF8 := Lib.hid ((HFa.setV (q := i) (gv := gv) hUa X).step hba)
              have HX8 := Lib.hid ((((HX6.out.step hb2).set (p := ⟨gr, i, none⟩) (by show gr < w.heap.size ∨ w.heap.size + 2 < gr; omega) (.slice Ad D.length cd)).set (p := ⟨gv, i, none⟩) (by show gv < w.heap.size ∨ w.heap.size + 2 < gv; omega) (.int .i64 X)).step hba)
              have HO8 : Hid (Bx ob [.slice (some ⟨gv, 0, none⟩) p p, .slice (some ⟨gr, 0, none⟩) p p] w8 ∧ Tg ob 29 w8) := by
                have h1 := ((HO6.out.1.step hb2).other ⟨gr, i, none⟩ (by show ob ≠ gr; omega) (.slice Ad D.length cd)).other ⟨gv, i, none⟩ (by show ob ≠ gv; omega) (.int .i64 X)
                exact ⟨h1.step hba, (((HO6.out.2.below hb2 HO6.out.1.lt).set _ _).set _ _).below hba h1.lt⟩
              have HA8 := Lib.hid ((((HA6.out.step hb2).other (a := ⟨gr, i, none⟩) (by show gr ≠ ob + 1; omega) (.slice Ad D.length cd)).other (a := ⟨gv, i, none⟩) (by show gv ≠ ob + 1; omega) (.int .i64 X)).step hba)
              have HB8 := Lib.hid ((((HB6.out.trans (hb2.mono (by omega))).setCell (p := ⟨gr, i, none⟩) (by show w.heap.size ≤ gr; omega) (.slice Ad D.length cd)).setCell (p := ⟨gv, i, none⟩) (by show w.heap.size ≤ gv; omega) (.int .i64 X)).trans (hba.mono (by simp [World.setCell]; omega)))
              have c9 := HA8.out.c i hi10
              have z9 := HA8.out.z i
              have hl9 : ob + 1 < w8.heap.size := HA8.out.lt
              have HF9 := Lib.hid (HF8.out.setT HA8.out.t (by decide) (by decide) i (.bool (!(z == X))))
              have HX9 := Lib.hid (HX8.out.set (p := ⟨ob + 1, i, none⟩) (by show ob + 1 < w.heap.size ∨ w.heap.size + 2 < ob + 1; omega) (.bool (!(z == X))))
              have HO9 : Hid (Bx ob [.slice (some ⟨gv, 0, none⟩) p p, .slice (some ⟨gr, 0, none⟩) p p] (w8.setCell ⟨ob + 1, i, none⟩ (.bool (!(z == X)))) ∧ Tg ob 29 (w8.setCell ⟨ob + 1, i, none⟩ (.bool (!(z == X))))) := ⟨HO8.out.1.other _ (by show ob ≠ ob + 1; omega) _, HO8.out.2.set _ _⟩
              have HA9 := Lib.hid (HA8.out.put hi10 (!(z == X)) HCH.out)
              have HB9 := Lib.hid (HB8.out.setCell (p := ⟨ob + 1, i, none⟩) (by show w.heap.size ≤ ob + 1; omega) (.bool (!(z == X))))
              have HUN : Hid ((U6.set (i + 3) (.slice Ad D.length cd))[0]? = some (.slice (some ⟨gv, 0, none⟩) p p) ∧ (U6.set (i + 3) (.slice Ad D.length cd))[2]? = some (.slice R6 (rl + 1) rc6)) := ⟨hUa, hUc⟩
              clear hba hw8 hb2 hd2 HFa hUa hUc p0 q0 q1 HRN
              go_wp2
              go_roundw
              case rel => exact ⟨i + 1, _, _, _, _, by omega, by go_num, rfl, by rw [HS3.out, HWR.out.1, HWR.out.2.1, HWR.out.2.2]; exact HF9.out, HUN.out, HX9.out, HO9.out, by rw [HS3.out]; exact HA9.out, HB9.out⟩
              case measure => simp [intOf]; omega
          · obtain rfl : i = p := by omega
            have q0 := HO.out.1.c 0 _ rfl
            have q1 := HO.out.1.c 1 _ rfl
            have s3 := HX.out.c2.c 0 _ rfl
            have s4 := HX.out.c2.c 1 _ rfl
            have f3 := HX.out.c2.f 0
            have f4 := HX.out.c2.f 1
            have HFF := Lib.hid ((HF.out.setT HX.out.t2 (by decide) (by decide) 0 (.slice (some ⟨gv, 0, none⟩) i i)).setT (HX.out.t2.set ⟨w.heap.size + 2, 0, none⟩ (.slice (some ⟨gv, 0, none⟩) i i)) (by decide) (by decide) 1 (.slice (some ⟨gr, 0, none⟩) i i))
            have hvl9 : i = (wB gs S0 gs.length).vs.length := by rw [(HOK.out gs.length (Nat.le_refl _)).vl]; exact HN.out
            have HVL9 := Lib.hid hvl9
            have hz9 : w.heap.size + 2 < wr.heap.size := by omega
            clear hvl9 hlt
            go_wp2
            refine bodyPost_ret (v := .tuple #[.agg #[.slice (some ⟨gv, 0, none⟩) i i, .slice (some ⟨gr, 0, none⟩) i i], .slice Rc rl rc]) (by simp [results, Tryz.results6, go_sem, s3, s4]) rfl ?_
            rw [HSS.out.1, HSS.out.2, ← HN.out]
            exact ⟨_, _, _, _, _, _, _, _, U2, _, rfl, by have h9 := HVL9.out; rw [← HN.out] at h9; exact h9, HFF.out.mono (by omega), HU2.out.1, HU2.out.2, (HB.out.setCell (by simp; omega) _).setCell (by simp; omega) _⟩
end Go.Proofs.YtgakgmkonmgblaaGreat
