/- The standing contract of spec.ForgetNode. (Made by t48.py.) -/
import Derived.Test.YtlcpgbbpjnkihaaGreatT47
import Derived.Test.YtlcpgbbpjnkihaaGreatT46
import Derived.Test.YtlcpgbbpjnkihaaGreatT45
import Derived.Test.YtlcpgbbpjnkihaaGreatT26
import Derived.Test.YtlcpgbbpjnkihaaGreatM48
import Derived.Test.YtlcpgbbpjnkihaaGreatL5
import Derived.Maps.AppendAt
import Derived.Deep.RegionHeld3
import Derived.Deep.Cut

namespace Go.Proofs.YtlcpgbbpjnkihaaGreat
set_option linter.unusedSimpArgs false
set_option linter.unusedVariables false
open Go.RowKit

theorem set_nil_len (rs : List (List Int)) (k j : Nat) : ((rs.set k []).getD j []).length ≤ (rs.getD j []).length := by
  by_cases e : k = j
  · subst e
    by_cases h : k < rs.length
    · simp [List.getD, h]
    · rw [List.set_eq_of_length_le (by omega)]; exact Nat.le_refl _
  · have : (rs.set k []).getD j [] = rs.getD j [] := by simp [List.getD, List.getElem?_set, e]
    rw [this]; exact Nat.le_refl _
set_option maxRecDepth 100000 in
set_option maxHeartbeats 6400000 in
theorem top_spec_ForgetNode (gs : List Nd) (st : Lz) (k : Int) (hG : GB gs) (hE : LB st) : ∀ (A : Option Addr) (n c : Nat) (A' : Option Addr) (m c' : Nat) (E : Option Addr) (p ec : Nat) (C : Option Addr) (q qc : Nat) (w : World), n = gs.length → n ≤ c → GS w w.heap.size A gs → m = st.vs.length → p = st.rs.length → q = st.cs.length → LS4 w w.heap.size A' E C st →
    Calls Tryz.prog 19 #[.agg #[.slice A n c], .agg #[.slice A' m c', .slice E p ec, .slice C q qc], .int .i64 k] w fun e w' => RetLB w (forgetL gs st k) (forgetLB gs st k) e w' := by
  intro A n c A' m c' E p ec C q qc w hn hnc h hm hp hq h4
  have h' := h4.1
  obtain ⟨i0, hi, hz0, hz1, hz2⟩ := info_parts info_int
  obtain ⟨W3, hW3⟩ : ∃ W, W = ((w.alloc (.cells #[.slice A n c] 36)).alloc (.cells #[.slice A' m c', .slice E p ec, .slice C q qc] 31)).alloc (.cells #[.slice none 0 0, .slice none 0 0, .slice none 0 0] 31) := ⟨_, rfl⟩
  have hb3 : Below w.heap.size w W3 := by rw [hW3]; exact (((Below.refl _ _).alloc (Nat.le_refl _) _).alloc (by simp) _).alloc (by simp; omega) _
  have hs3 : W3.heap.size = w.heap.size + 3 := by rw [hW3]; simp
  have hX : LBx w.heap.size (.slice A n c) (.slice A' m c') (.slice E p ec) (.slice C q qc) W3 := by rw [hW3]; exact LBx.new w _ _ _ _
  have hnb : n ≤ 2000000 := by have := hG.1; omega
  have HV3 := Lib.hid (spec_validLazy A A' E C n c m c' p ec q qc gs st W3 w.heap.size (by omega) hn hm hp hq (h.below hb3 (Nat.le_refl _)) (h'.below hb3 (Nat.le_refl _)) hG hE)
  rw [hW3] at HV3
  have HIC := Lib.hid fun (w' : World) (hB : w.heap.size ≤ w'.heap.size) (h : GS w' w.heap.size A gs) => spec_isCell A n c gs k w' w.heap.size hB hn h hnb
  have HCP := Lib.hid fun (w' : World) (hB : w.heap.size ≤ w'.heap.size) (h' : LS3 w' w.heap.size A' E C st) => spec_copyLazy A' E C m c' p ec q qc st w' w.heap.size hB hm hp hq h' hE
  have HG := Lib.hid h
  have HE := Lib.hid h'
  have HN := Lib.hid hn
  have HM := Lib.hid hm
  have HP := Lib.hid hp
  have HQ := Lib.hid hq
  have HW3 := Lib.hid hW3
  have HB3 := Lib.hid hb3
  have HX := Lib.hid hX
  have HS3 := Lib.hid hs3
  have hF : forgetL gs st k = if (validL gs st && (hasN gs k && !(isC gs k))) = true then fgF st k.toNat else ⟨[], [], []⟩ := rfl
  have hR : forgetLB gs st k = (validL gs st && (hasN gs k && !(isC gs k))) := rfl
  rw [hF, hR]
  obtain ⟨v, hv⟩ : ∃ v, v = validL gs st := ⟨_, rfl⟩
  obtain ⟨u, hu⟩ : ∃ u, u = isC gs k := ⟨_, rfl⟩
  obtain ⟨t, ht⟩ : ∃ t, t = hasN gs k := ⟨_, rfl⟩
  have HR := Lib.hid fun w' : World => spec_inRange k 0 ((n : Int) - 1) w'
  have HVV := Lib.hid hv
  have HUU := Lib.hid hu
  have HTT := Lib.hid ht
  have HRL : Hid (∀ j, (st.rs.getD j []).length ≤ 2000000) := fun j => by have := hE.2.1.2 j; omega
  rw [← hv, ← hu, ← ht]
  rw [← hv] at HV3
  rw [← hu] at HIC
  have hrn : rng k 0 ((n : Int) - 1) = t := by rw [ht]; unfold hasN; rw [hn]
  rw [hrn] at HR
  clear hW3 hb3 hs3 hX h h' h4 hn hm hp hq hnc hG hE hF hR hv hu ht hrn
  cases v
  · simp only [Bool.false_and, Bool.false_eq_true, if_false]
    go_enter Tryz.func19, Tryz.ntmps19
    go_wp2_with fail
    refine HV3.out.mono ?_
    rw [← HW3.out]
    rintro e w4 ⟨rfl, hb⟩
    have HX4 := Lib.hid (HX.out.step hb)
    have hs4 : w.heap.size + 3 ≤ w4.heap.size := by have := hb.size; have := HS3.out; omega
    have HB4 := Lib.hid (HB3.out.trans (hb.mono (by have := HS3.out; omega)))
    clear hb
    have Y := HX4.out
    have r1 := Y.c2.c 0 _ rfl
    have r2 := Y.c2.c 1 _ rfl
    have r3 := Y.c2.c 2 _ rfl
    have g1 := Y.c2.f 0
    have g2 := Y.c2.f 1
    have g3 := Y.c2.f 2
    clear Y
    go_wp2
    refine bodyPost_ret (v := .tuple #[.agg #[.slice none 0 0, .slice none 0 0, .slice none 0 0], .bool false]) (by simp [results, Tryz.results19, go_sem, r1, r2, r3]) rfl ?_
    exact RetLB.nil (((HB4.out.setCell (by simp; omega) _).setCell (by simp; omega) _).setCell (by simp; omega) _)
  · cases t
    · simp only [Bool.false_and, Bool.and_false, Bool.false_eq_true, if_false]
      go_enter Tryz.func19, Tryz.ntmps19
      go_wp2_with fail
      refine HV3.out.mono ?_
      rw [← HW3.out]
      rintro e w4 ⟨rfl, hb⟩
      have HX4 := Lib.hid (HX.out.step hb)
      have hs4 : w.heap.size + 3 ≤ w4.heap.size := by have := hb.size; have := HS3.out; omega
      have HB4 := Lib.hid (HB3.out.trans (hb.mono (by have := HS3.out; omega)))
      clear hb
      have p0 := HX4.out.c0.c 0 _ rfl
      go_wp2_with fail
      refine (HR.out w4).mono ?_
      rintro e w4' ⟨rfl, rfl⟩
      have Y := HX4.out
      have r1 := Y.c2.c 0 _ rfl
      have r2 := Y.c2.c 1 _ rfl
      have r3 := Y.c2.c 2 _ rfl
      have g1 := Y.c2.f 0
      have g2 := Y.c2.f 1
      have g3 := Y.c2.f 2
      clear Y
      go_wp2
      refine bodyPost_ret (v := .tuple #[.agg #[.slice none 0 0, .slice none 0 0, .slice none 0 0], .bool false]) (by simp [results, Tryz.results19, go_sem, r1, r2, r3]) rfl ?_
      exact RetLB.nil (((HB4.out.setCell (by simp; omega) _).setCell (by simp; omega) _).setCell (by simp; omega) _)
    · cases u
      case true =>
        simp only [Bool.and_false, Bool.not_true, Bool.false_eq_true, if_false]
        go_enter Tryz.func19, Tryz.ntmps19
        go_wp2_with fail
        refine HV3.out.mono ?_
        rw [← HW3.out]
        rintro e w4 ⟨rfl, hb⟩
        have HX4 := Lib.hid (HX.out.step hb)
        have hs4 : w.heap.size + 3 ≤ w4.heap.size := by have := hb.size; have := HS3.out; omega
        have HB4 := Lib.hid (HB3.out.trans (hb.mono (by have := HS3.out; omega)))
        clear hb
        have p0 := HX4.out.c0.c 0 _ rfl
        go_wp2_with fail
        refine (HR.out w4).mono ?_
        rintro e w4' ⟨rfl, rfl⟩
        go_wp2_with fail
        refine (HIC.out _ (by omega) (HG.out.below HB4.out (Nat.le_refl _))).mono ?_
        rintro e w5 ⟨rfl, hb⟩
        have HX5 := Lib.hid (HX4.out.step hb)
        have hs5 : w.heap.size + 3 ≤ w5.heap.size := by have := hb.size; omega
        have HB5 := Lib.hid (HB4.out.trans (hb.mono (by omega)))
        clear hb p0 HX4 HB4
        have Y := HX5.out
        have r1 := Y.c2.c 0 _ rfl
        have r2 := Y.c2.c 1 _ rfl
        have r3 := Y.c2.c 2 _ rfl
        have g1 := Y.c2.f 0
        have g2 := Y.c2.f 1
        have g3 := Y.c2.f 2
        clear Y
        go_wp2
        refine bodyPost_ret (v := .tuple #[.agg #[.slice none 0 0, .slice none 0 0, .slice none 0 0], .bool false]) (by simp [results, Tryz.results19, go_sem, r1, r2, r3]) rfl ?_
        exact RetLB.nil (((HB5.out.setCell (by simp; omega) _).setCell (by simp; omega) _).setCell (by simp; omega) _)
      simp only [Bool.and_true, Bool.not_false, Bool.and_self, if_true]
      obtain ⟨hvg, hvl, hrl, hcl, -, -, -⟩ := validL_parts gs st HVV.out.symm
      have hn10 : n ≤ 10 := by have := (validG_parts gs hvg).1; have := HN.out; omega
      have hmn : m = n := by have := HM.out; have := HN.out; omega
      have hpn : p = n := by have := HP.out; have := HN.out; omega
      have hqn : q = n := by have := HQ.out; have := HN.out; omega
      obtain ⟨kk, rfl, hkk⟩ : ∃ kk : Nat, k = kk ∧ kk < gs.length := by
        have h := HTT.out.symm
        unfold hasN rng at h
        have h := of_decide_eq_true h
        exact ⟨k.toNat, by omega, by omega⟩
      have hkn : kk < n := by have := HN.out; omega
      rw [Int.toNat_natCast]
      have HVL : Hid (st.vs.length = n) := by have := HN.out; show st.vs.length = n; omega
      have HCL : Hid (st.cs.length = n) := by have := HN.out; show st.cs.length = n; omega
      clear hvg hvl hrl hcl hkk
      subst hmn
      subst hpn
      subst hqn
      obtain ⟨rs, hrs⟩ : ∃ r, r = st.rs.set kk [] := ⟨_, rfl⟩
      obtain ⟨cs, hcs⟩ : ∃ r, r = st.cs.set kk 2 := ⟨_, rfl⟩
      have hfg : fgF st kk = ⟨st.vs, rs, spoF rs cs kk 1⟩ := by rw [hrs, hcs]; rfl
      rw [hfg]
      have HRS := Lib.hid hrs
      have HCS := Lib.hid hcs
      clear hfg hrs hcs
      go_enter Tryz.func19, Tryz.ntmps19
      go_wp2_with fail
      refine HV3.out.mono ?_
      rw [← HW3.out]
      rintro e w4 ⟨rfl, hb⟩
      have HX4 := Lib.hid (HX.out.step hb)
      have hs4 : w.heap.size + 3 ≤ w4.heap.size := by have := hb.size; have := HS3.out; omega
      have HB4 := Lib.hid (HB3.out.trans (hb.mono (by have := HS3.out; omega)))
      clear hb
      have p0 := HX4.out.c0.c 0 _ rfl
      go_wp2_with fail
      refine (HR.out w4).mono ?_
      rintro e w4' ⟨rfl, rfl⟩
      go_wp2_with fail
      refine (HIC.out _ (by omega) (HG.out.below HB4.out (Nat.le_refl _))).mono ?_
      rintro e w5 ⟨rfl, hb⟩
      have HX5 := Lib.hid (HX4.out.step hb)
      have hs5 : w.heap.size + 3 ≤ w5.heap.size := by have := hb.size; omega
      have HB5 := Lib.hid (HB4.out.trans (hb.mono (by omega)))
      clear hb p0 HX4 HB4
      have s1 := HX5.out.c1.c 0 _ rfl
      have s2 := HX5.out.c1.c 1 _ rfl
      have s3 := HX5.out.c1.c 2 _ rfl
      go_wp2_with fail
      refine (HCP.out w5 (by omega) (HE.out.below HB5.out (Nat.le_refl _))).mono ?_
      rintro e w6 ⟨Ac, nc, cc, Ec, en, ecc, Cc, mc, dcc, rfl, ho6, hb6⟩
      obtain rfl : nc = q := by have := ho6.1; have := HM.out; omega
      obtain rfl : en = nc := by have := ho6.2.1; have := HP.out; omega
      obtain rfl : mc = en := by have := ho6.2.2.1; have := HQ.out; omega
      obtain ⟨U, hWF, hU0, hU1, -⟩ := WF.of_ownL ho6
      obtain ⟨gv, hAv⟩ : ∃ gv, Ac = some ⟨gv, 0, none⟩ := by obtain ⟨g, cap, e⟩ := row_form2 ho6.row0.1 (by omega); simp only [Value.slice.injEq] at e; exact ⟨g, e.1⟩
      obtain ⟨gc, hAc⟩ : ∃ gc, Cc = some ⟨gc, 0, none⟩ := by obtain ⟨g, cap, e⟩ := row_form2 ho6.rowC.1 (by omega); simp only [Value.slice.injEq] at e; exact ⟨g, e.1⟩
      obtain ⟨gr, hAr⟩ : ∃ gr, Ec = some ⟨gr, 0, none⟩ := by obtain ⟨g, cap, e⟩ := row_form2 hWF.top (by omega); simp only [Value.slice.injEq] at e; exact ⟨g, e.1⟩
      subst hAv hAc hAr
      have hgc := ho6.rowC.1.lt gc rfl
      have hgr := hWF.top.lt gr rfl
      have hgne : gc ≠ gr := fun h => by
        obtain ⟨A0, m0, c0, a1, a2, a3⟩ := hWF.at_ 1 (by omega)
        rw [hU1] at a1
        cases a1
        exact (blocks_ne hWF.top a3 ints_ne_int.symm).elim (fun h1 => by simp [Value.ownBlock] at h1) fun h1 => h1 (by rw [h]; rfl)
      have hs6 : w5.heap.size ≤ w6.heap.size := hb6.size
      -- the state's copy in a box of its own
      obtain ⟨w7, hw7⟩ : ∃ W, W = w6.alloc (.cells #[.slice (some ⟨gv, 0, none⟩) mc cc, .slice (some ⟨gr, 0, none⟩) mc ecc, .slice (some ⟨gc, 0, none⟩) mc dcc] 31) := ⟨_, rfl⟩
      have hb7 : Below w6.heap.size w6 w7 := by rw [hw7]; exact (Below.refl _ _).alloc (Nat.le_refl _) _
      have hs7 : w7.heap.size = w6.heap.size + 1 := by rw [hw7]; simp
      have Z7 : Bx w6.heap.size [.slice (some ⟨gv, 0, none⟩) mc cc, .slice (some ⟨gr, 0, none⟩) mc ecc, .slice (some ⟨gc, 0, none⟩) mc dcc] w7 := by rw [hw7]; exact Bx.start w6 #[.slice (some ⟨gv, 0, none⟩) mc cc, .slice (some ⟨gr, 0, none⟩) mc ecc, .slice (some ⟨gc, 0, none⟩) mc dcc] _
      have HX7 := (HX5.out.step hb6).step hb7
      have HB7 := (HB5.out.trans (hb6.mono (by omega))).trans (hb7.mono (by omega))
      have hWF7 := hWF.step hb7
      -- the node reads nothing
      have hlit := World.ownsRow_lit (e := 3) (size := 1) (base := w7.heap.size) w7 #[] 0 (Nat.le_refl _) (by unfold maxLen; omega) (by simp)
      obtain ⟨w8, hw8⟩ : ∃ W, W = (w7.alloc (.cells #[] 3)).setCell ⟨gr, kk, none⟩ (.slice (some ⟨w7.heap.size, 0, none⟩) 0 0) := ⟨_, rfl⟩
      have hb8a : Below w7.heap.size w7 (w7.alloc (.cells #[] 3)) := (Below.refl _ _).alloc (Nat.le_refl _) _
      have hWF8 : WF w5.heap.size (some ⟨gr, 0, none⟩) ecc mc (U.set (kk + 3) (.slice (some ⟨w7.heap.size, 0, none⟩) 0 0)) st.vs st.cs [] rs w8 := by rw [hw8, HRS.out]; exact hWF7.putR hkn (by omega) hb8a (by simpa using hlit) rfl
      have hfr8 : Frm gr w7 w8 := by rw [hw8]; exact (Frm.of_below hb8a (Nat.le_refl _)).trans (Frm.set _ _ _ _)
      have hs8 : w8.heap.size = w7.heap.size + 1 := by rw [hw8]; simp [World.setCell]
      have hul := hWF.ul
      have hU0' : (U.set (kk + 3) (.slice (some ⟨w7.heap.size, 0, none⟩) 0 0))[0]? = some (.slice (some ⟨gv, 0, none⟩) mc cc) := by rw [List.getElem?_set, if_neg (by omega)]; exact hU0
      have hU1' : (U.set (kk + 3) (.slice (some ⟨w7.heap.size, 0, none⟩) 0 0))[1]? = some (.slice (some ⟨gc, 0, none⟩) mc dcc) := by rw [List.getElem?_set, if_neg (by omega)]; exact hU1
      generalize U.set (kk + 3) (.slice (some ⟨w7.heap.size, 0, none⟩) 0 0) = U8 at *
      -- its colour
      obtain ⟨w9, hw9⟩ : ∃ W, W = w8.setCell ⟨gc, kk, none⟩ (.int .i64 2) := ⟨_, rfl⟩
      have hWF9 : WF w5.heap.size (some ⟨gr, 0, none⟩) ecc mc U8 st.vs cs [] rs w9 := by rw [hw9, HCS.out]; exact hWF8.setC hU1' 2
      have hfr9 : Frm gc w8 w9 := by rw [hw9]; exact Frm.set _ _ _ _
      have hs9 : w9.heap.size = w8.heap.size := by rw [hw9]; simp [World.setCell]
      have Z8 := Z7.frm hfr8 (by omega)
      have HZ9 := Lib.hid (Z8.frm hfr9 (by omega))
      have HX9 : Hid (LBx w.heap.size (.slice A mc c) (.slice A' mc c') (.slice E mc ec) (.slice C mc qc) w9) := ⟨(HX7.c0.frm hfr8 (by omega)).frm hfr9 (by omega), (HX7.c1.frm hfr8 (by omega)).frm hfr9 (by omega), (HX7.c2.frm hfr8 (by omega)).frm hfr9 (by omega)⟩
      have HB9 := Lib.hid ((HB7.trans (hfr8.below (B := w.heap.size) (by omega) (by omega))).trans (hfr9.below (B := w.heap.size) (by omega) (by omega)))
      have HQ9 := Lib.hid hWF9.q
      have HU0 := Lib.hid hU0'
      have HU1 := Lib.hid hU1'
      have cc9 : w8.frozen? ⟨gc, kk, none⟩ = false ∧ ∃ z, w8.cell? ⟨gc, kk, none⟩ = some z := by
        obtain ⟨A0, m0, c0, a1, a2, a3⟩ := hWF8.at_ 1 (by omega)
        rw [hU1'] at a1
        cases a1
        refine ⟨a3.frozenAt kk, ?_⟩
        rw [a3.cellAt kk (by omega)]
        have hil : kk < st.cs.length := by rw [HCL.out]; exact hkn
        exact ⟨.int .i64 (st.cs.getD kk 0), by simp [rowOf, List.getD, hil]⟩
      have cr7 := hWF7.cell kk hkn
      obtain ⟨z9, f9, c9⟩ : ∃ z, w8.frozen? ⟨gc, kk, none⟩ = false ∧ w8.cell? ⟨gc, kk, none⟩ = some z := ⟨_, cc9.1, cc9.2.choose_spec⟩
      have hgr7 : gr < w7.heap.size := by omega
      have z8 := Z8.c 2 _ rfl
      have z7 := Z7.c 1 _ rfl
      have cr8 := cr7.1
      have fr8 := cr7.2
      obtain ⟨xr, hxr⟩ : ∃ x, U[kk + 3]? = some x := ⟨U[kk + 3], by rw [List.getElem?_eq_getElem (by omega)]⟩
      rw [hxr] at cr8
      have hs7a : w6.heap.size + 1 ≤ w7.heap.size := by omega
      have hs8a : w7.heap.size + 1 ≤ w8.heap.size := by omega
      have hs9a : w8.heap.size ≤ w9.heap.size := by omega
      have hs9b : w9.heap.size ≤ w8.heap.size := by omega
      rw [World.setCell_alloc_past _ _ _ _ (by show gr < w7.heap.size; omega)] at hw8
      have hs9c : w6.heap.size + 1 < w9.heap.size := by omega
      have hgcw : gc < w6.heap.size := by omega
      have hgrw : gr < w6.heap.size := by omega
      have hgcB : w5.heap.size ≤ gc := by omega
      have HRL9 : Hid (∀ j, (rs.getD j []).length ≤ 2000000) := fun j => by rw [HRS.out]; have := set_nil_len st.rs kk j; have := HRL.out j; omega
      have HCL9 : Hid (cs.length = mc) := by show cs.length = mc; rw [HCS.out, List.length_set]; exact HCL.out
      have hrn9 : mc = rs.length := hWF9.rl
      have HRN9 := Lib.hid hrn9
      clear hrn9 ho6 hb6 hWF hU0 hU1 hb7 HX7 HB7 hWF7 hlit hb8a hWF8 hfr8 hU0' hU1' hWF9 hfr9 cc9 cr7 hul hxr HX5 HB5 s1 s2 s3 hgc hgr hs7 hs8 hs9 hgne
      go_upto_region 4 with fail
      rw [← hw7]
      clear hw7
      go_upto_region 5 with fail
      rw [← hw8]
      clear hw8 cr8 fr8 z7
      go_upto_region 6 with fail
      rw [← hw9]
      clear hw9 f9 c9 z8 Z7 Z8
      go_wp2
      go_loopw [9, 10] (fun mv iv wr => ∃ j : Nat, kk + 1 + j ≤ mc ∧ iv = .int .i64 ((kk + 1 + j : Nat) : Int) ∧ Hid (OwnI wr w9.heap.size mv (metTo rs kk j)) ∧ Hid (WQ w5.heap.size w9.heap.size (some ⟨gr, 0, none⟩) ecc mc U8 st.vs (spoT rs cs kk 1 j) [] rs wr) ∧ Hid (Frm gc w9 wr)) (fun _ iv _ => mc - (intOf iv).toNat)
      case atStart =>
        have hb3 : Below w9.heap.size w9 (w9.alloc (.cells #[.int .i64 kk] 3)) := (Below.refl _ _).alloc (Nat.le_refl _) _
        refine ⟨0, by omega, by go_num, ?_, HQ9.out.keep fun q _ hq => hb3.block q (by omega), Frm.of_below hb3 (Nat.le_refl _)⟩
        have := World.ownsRow_lit (e := 3) (size := 1) (base := w9.heap.size) w9 #[.int .i64 kk] 1 (Nat.le_refl _) (by unfold maxLen; omega) (by simp)
        simpa [OwnI, Hid, metTo] using this
      case round =>
        obtain ⟨j, hjj0, rfl, HM, HF, HFR⟩ := hrel
        have hwr : w9.heap.size ≤ wr.heap.size := HFR.out.size
        have x0 := (HX9.out.c0.frm HFR.out (by omega)).c 0 _ rfl
        have y1 := (HZ9.out.frm HFR.out (by omega)).c 1 _ rfl
        have y2 := (HZ9.out.frm HFR.out (by omega)).c 2 _ rfl
        by_cases hlt : kk + 1 + j < mc
        · have HST : Hid (spoT rs cs kk 1 (j + 1) = if meetB (rs.getD (kk + 1 + j) []) (metTo rs kk j) then (spoT rs cs kk 1 j).set (kk + 1 + j) (max (cs.getD (kk + 1 + j) 0) 1) else spoT rs cs kk 1 j) := spoT_one j
          have HMT : Hid (metTo rs kk (j + 1) = if meetB (rs.getD (kk + 1 + j) []) (metTo rs kk j) then metTo rs kk j ++ [((kk + 1 + j : Nat) : Int)] else metTo rs kk j) := rfl
          have hml := metTo_len (rs := rs) (n := kk) j
          have hsg := spoT_get (rs := rs) (cs := cs) (n := kk) (col := 1) j (kk + 1 + j) (Nat.le_refl _)
          have hll := HRL9.out (kk + 1 + j)
          have hF := HF.out.f (by omega)
          obtain ⟨A1, m1, c1, r0, hm1, hI1⟩ := hF.reads (kk + 1 + j) (by omega)
          obtain ⟨A2, m2, c2, a1, a2, a3⟩ := hF.at_ 1 (by omega)
          rw [HU1.out] at a1
          cases a1
          have z0 : wr.cell? ⟨gc, kk + 1 + j, none⟩ = some (.int .i64 (cs.getD (kk + 1 + j) 0)) := by
            rw [a3.cellAt (kk + 1 + j) (by omega), ← hsg]
            have hil : kk + 1 + j < (spoT rs cs kk 1 j).length := by rw [spoT_len, HCL9.out]; exact hlt
            simp [rowOf, List.getD, hil]
          have f0 := a3.frozenAt (kk + 1 + j)
          have hdj : mc - (kk + 1 + (j + 1)) < mc - (kk + 1 + j) := by omega
          have hj1 : kk + 1 + (j + 1) ≤ mc := by omega
          generalize hie : kk + 1 + j = i at *
          have HIE := Lib.hid hie
          clear hie
          have HM1 := Lib.hid hm1
          have HI1 := Lib.hid hI1
          obtain ⟨A4, c4, hv4, hI4⟩ := HM.out.form
          subst hv4
          have HMR := HM.out
          unfold OwnI at HMR
          generalize rs.getD i [] = L at *
          generalize cs.getD i 0 = z at *
          generalize metTo rs kk j = M at *
          generalize spoT rs cs kk 1 j = CT at *
          generalize hmm : M.length = mm at *
          have HMM := Lib.hid hmm
          have HI4 := Lib.hid hI4
          have HMR := Lib.hid HMR
          have HME := Lib.hid (spec_meets A1 A4 m1 mm c1 c4 L M wr wr.heap.size (Nat.le_refl _) HM1.out HMM.out.symm HI1.out HI4.out (by have := HM1.out; omega) (by omega))
          clear hm1 hI1 a2 a3 hF hmm hI4 hsg
          generalize meetB L M = mb at *
          go_wp2_with fail
          refine HME.out.mono ?_
          rintro e w4 ⟨rfl, hb4⟩
          have hw4 : w9.heap.size ≤ w4.heap.size := by have := hb4.size; omega
          have HQ4 := Lib.hid (HF.out.keep (w' := w4) fun q _ hq => hb4.block q (by omega))
          have HF4 : Hid (Frm gc w9 w4) := HFR.out.trans (Frm.of_below hb4 (Nat.le_refl _))
          have HM4 := Lib.hid (own_below HMR.out hb4)
          have hgc4 : gc < wr.heap.size := by omega
          have z4 := (hb4.cell (p := ⟨gc, i, none⟩) hgc4).trans z0
          have f4 := (hb4.frozen (p := ⟨gc, i, none⟩) hgc4).trans f0
          have y4 := (hb4.cell (p := ⟨w6.heap.size, 2, none⟩) (by show w6.heap.size < wr.heap.size; omega)).trans y2
          clear hb4 HME HF HFR HM HMR x0 y1 y2 z0 f0 r0
          cases mb
          · have HSTE : Hid (spoT rs cs kk 1 (j + 1) = CT) := HST.out
            have HMTE : Hid (metTo rs kk (j + 1) = M) := HMT.out
            go_wp2
            go_roundw
            case rel => exact ⟨j + 1, hj1, by have := HIE.out; rw [show ((kk + 1 + (j + 1) : Nat) : Int) = (i : Int) + 1 by omega]; (try go_num), by rw [HMTE.out]; unfold OwnI Hid; rw [HMM.out]; exact HM4.out, by rw [HSTE.out]; exact HQ4.out, HF4.out⟩
            case measure => have := HIE.out; simp [intOf]; omega
          · have HSTE : Hid (spoT rs cs kk 1 (j + 1) = CT.set i (max z 1)) := HST.out
            have HMTE : Hid (metTo rs kk (j + 1) = M ++ [(i : Int)]) := HMT.out
            go_upto_region 11 with fail
            go_region
            obtain ⟨mz, hmz⟩ : ∃ m, m = max z 1 := ⟨_, rfl⟩
            have hmx : (if z < 1 then 1 else z) = mz := by rw [hmz]; split <;> omega
            rw [hmx]
            rw [← hmz] at HSTE
            obtain ⟨W5, hW5⟩ : ∃ W, W = (w4.setCell ⟨gc, i, none⟩ (.int .i64 mz)).drew := ⟨_, rfl⟩
            rw [← hW5]
            have hsz5 : W5.heap.size = w4.heap.size := by rw [hW5]; simp [World.setCell, World.drew]
            have hsz5a : w9.heap.size ≤ W5.heap.size := by omega
            have HST5 : Hid (w4.grownBy (w4.setCell ⟨gc, i, none⟩ (.int .i64 mz)) (some gc)) := by
              obtain ⟨A2, m2, c2, a1, a2, a3⟩ := (HQ4.out.f (by omega)).at_ 1 (by omega)
              rw [HU1.out] at a1
              cases a1
              exact (a3.stored i (.int .i64 mz)).2
            have HR5 : Hid (W5.ownsRow w9.heap.size 3 1 (.slice A4 mm c4) mm (M.map (Value.int .i64))) := by rw [hW5]; exact own_below (HM4.out.kept HST5.out (.inr fun e => by have := (HM4.out.lt gc e).1; omega)) (Below.refl _ _).drew
            have HQ5 : Hid (WQ w5.heap.size w9.heap.size (some ⟨gr, 0, none⟩) ecc mc U8 st.vs (CT.set i mz) [] rs W5) := by rw [hW5]; exact (HQ4.out.setC (by omega) HU1.out mz).keep fun q _ hq => rfl
            have HF5 : Hid (Frm gc w9 W5) := by rw [hW5]; exact (HF4.out.trans (Frm.set _ _ _ _)).trans (Frm.of_below (Below.refl _ _).drew (Nat.le_refl _))
            clear HST HMT HST5 hsz5 HQ4 HF4 HM4 z4 f4 y4 hW5 hmx hmz
            have HR6 := Lib.hid (own_below HR5.out ((Below.refl W5.heap.size W5).alloc (Nat.le_refl _) (.cells #[.int .i64 (i : Int)] 3)))
            go_wp2_with (at_builtin; refine wpList_append_own_at _ rfl _ _ 25 rfl w9.heap.size 3 i0 (.int .i64 0) 1 8 Tryz.underlying25 hi hz0 hz1 hz2 rfl (by decide) _ _ _ rfl HR6.out ⟨W5.heap.size, 0, none⟩ 1 1 [.int .i64 (i : Int)] rfl rfl (cell_one_new W5 _ _) (by intro u hu; obtain rfl := List.mem_singleton.1 hu; rfl) (by unfold maxLen; omega) (by omega) (by simp; omega) ?_)
            intro v6 W6 hown6 hgr6 _ hbl6
            have hb5 : Below W5.heap.size W5 (W5.alloc (.cells #[.int .i64 (i : Int)] 3)) := (Below.refl _ _).alloc (Nat.le_refl _) _
            have hlt6 := HR6.out.lt
            have HF6 := Lib.hid ((HF5.out.trans (Frm.of_below hb5 (Nat.le_refl _))).grown hgr6 (fun r e => (hlt6 r e).1))
            have HQ6 : Hid (WQ w5.heap.size w9.heap.size (some ⟨gr, 0, none⟩) ecc mc U8 st.vs (spoT rs cs kk 1 (j + 1)) [] rs W6) := by
              rw [HSTE.out]
              refine (HQ5.out.keep (w' := W5.alloc (.cells #[.int .i64 (i : Int)] 3)) fun q _ hq => hb5.block q (by omega)).keep fun q _ hq => hgr6.block q (by simp; omega) (fun e => by have := (hlt6 q e.symm).1; omega)
            have HM6 : Hid (OwnI W6 w9.heap.size v6 (metTo rs kk (j + 1))) := by
              rw [HMTE.out]
              have h := hown6
              unfold OwnI Hid
              rw [List.length_append, HMM.out, List.map_append]
              exact h
            clear hown6 hgr6 hbl6 hlt6 hb5 HR5 HR6 HQ5 HF5
            go_wp2
            go_roundw
            case rel => exact ⟨j + 1, hj1, by have := HIE.out; rw [show ((kk + 1 + (j + 1) : Nat) : Int) = (i : Int) + 1 by omega]; (try go_num), HM6.out, HQ6.out, HF6.out⟩
            case measure => have := HIE.out; simp [intOf]; omega
        · have hjn : kk + 1 + j = mc := by omega
          have hjj : j = rs.length - (kk + 1) := by have := HRN9.out; omega
          have HQE : Hid (WQ w5.heap.size w9.heap.size (some ⟨gr, 0, none⟩) ecc mc U8 st.vs (spoF rs cs kk 1) [] rs wr) := by unfold spoF; rw [← hjj]; exact HF.out
          have HBE := Lib.hid (HB9.out.trans (HFR.out.below (B := w.heap.size) (by omega) (by omega)))
          have RE := Lib.hid (HX9.out.c2.frm HFR.out (by omega))
          have y0 := (HZ9.out.frm HFR.out (by omega)).c 0 _ rfl
          have u0 := RE.out.c 0 _ rfl
          have u1 := RE.out.c 1 _ rfl
          have u2 := RE.out.c 2 _ rfl
          have f0 := RE.out.f 0
          have f1 := RE.out.f 1
          have f2 := RE.out.f 2
          clear HF HM hjj HFR
          rw [hjn] at *
          go_wp2
          obtain ⟨W8, hW8⟩ : ∃ W, W = ((wr.setCell ⟨w.heap.size + 1 + 1, 0, none⟩ (.slice (some ⟨gv, 0, none⟩) mc cc)).setCell ⟨w.heap.size + 1 + 1, 1, none⟩ (.slice (some ⟨gr, 0, none⟩) mc ecc)).setCell ⟨w.heap.size + 1 + 1, 2, none⟩ (.slice (some ⟨gc, 0, none⟩) mc dcc) := ⟨_, rfl⟩
          have hfr8 : Frm (w.heap.size + 1 + 1) wr W8 := by rw [hW8]; exact ((Frm.set _ _ _ _).trans (Frm.set _ _ _ _)).trans (Frm.set _ _ _ _)
          have R8 : Bx (w.heap.size + 1 + 1) [.slice (some ⟨gv, 0, none⟩) mc cc, .slice (some ⟨gr, 0, none⟩) mc ecc, .slice (some ⟨gc, 0, none⟩) mc dcc] W8 := by rw [hW8]; exact ((RE.out.set 0 (by simp) _).set 1 (by simp) _).set 2 (by simp) _
          have HF8 := Lib.hid ((HQE.out.keep (w' := W8) fun q hq hq2 => hfr8.block q (by omega) (by omega)).f (by have := hfr8.size; omega))
          have HB8 := Lib.hid (HBE.out.trans (hfr8.below (B := w.heap.size) (by omega) (by omega)))
          have z0 := R8.c 0 _ rfl
          have z1 := R8.c 1 _ rfl
          have z2 := R8.c 2 _ rfl
          have hs8 := hfr8.size
          rw [← hW8]
          refine bodyPost_ret (v := .tuple #[.agg #[.slice (some ⟨gv, 0, none⟩) mc cc, .slice (some ⟨gr, 0, none⟩) mc ecc, .slice (some ⟨gc, 0, none⟩) mc dcc], .bool true]) (by simp [results, Tryz.results19, go_sem, z0, z1, z2]) rfl ?_
          exact ⟨_, _, _, _, _, _, _, _, _, rfl, (OwL.of_wf (st := ⟨st.vs, rs, spoF rs cs kk 1⟩) HF8.out HVL.out.symm HU0.out HU1.out).mono (by omega) (Nat.le_refl _), HB8.out⟩
end Go.Proofs.YtlcpgbbpjnkihaaGreat
