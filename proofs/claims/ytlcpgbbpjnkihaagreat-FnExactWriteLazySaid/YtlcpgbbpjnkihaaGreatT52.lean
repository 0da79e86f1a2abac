/- The standing contracts of impl.WriteLazy and impl.ForgetNode. (Made by t52.py.) -/
import Derived.Test.YtlcpgbbpjnkihaaGreatT51
import Derived.Test.YtlcpgbbpjnkihaaGreatT50
import Derived.Test.YtlcpgbbpjnkihaaGreatT49
import Derived.Test.YtlcpgbbpjnkihaaGreatT47
import Derived.Test.YtlcpgbbpjnkihaaGreatT46
import Derived.Test.YtlcpgbbpjnkihaaGreatT45
import Derived.Test.YtlcpgbbpjnkihaaGreatT26
import Derived.Test.YtlcpgbbpjnkihaaGreatM48
import Derived.Test.YtlcpgbbpjnkihaaGreatL9
import Derived.Deep.RegionHeld3
import Derived.Deep.Cut

namespace Go.Proofs.YtlcpgbbpjnkihaaGreat
set_option linter.unusedSimpArgs false
set_option linter.unusedVariables false
open Go.RowKit

theorem wrB_one (gs : List Nd) (k : Int) : wrB gs [k] = isC gs k := by
  cases h : isC gs k
  · exact wrB_cell_no gs [k] 0 (by simp) (by simpa [List.getD] using h)
  · refine wrB_yes gs [k] (fun j hj => ?_) (by simp)
    have : j = 0 := by simpa using hj
    subst this
    simpa [List.getD] using h
set_option maxRecDepth 100000 in
set_option maxHeartbeats 6400000 in
theorem top_impl_WriteLazy (gs : List Nd) (st : Lz) (k x : Int) (hG : GB gs) (hE : LB st) : ∀ (A : Option Addr) (n c : Nat) (A' : Option Addr) (m c' : Nat) (E : Option Addr) (p ec : Nat) (C : Option Addr) (q qc : Nat) (w : World), n = gs.length → n ≤ c → GS w w.heap.size A gs → m = st.vs.length → p = st.rs.length → q = st.cs.length → LS4 w w.heap.size A' E C st →
    Calls Tryz.prog 13 #[.agg #[.slice A n c], .agg #[.slice A' m c', .slice E p ec, .slice C q qc], .int .i64 k, .int .i64 x] w fun e w' => RetLB w (writeL gs st k x) (writeLB gs st k x) e w' := by
  intro A n c A' m c' E p ec C q qc w hn hnc h hm hp hq h4
  have h' := h4.1
  obtain ⟨W3, hW3⟩ : ∃ W, W = ((w.alloc (.cells #[.slice A n c] 36)).alloc (.cells #[.slice A' m c', .slice E p ec, .slice C q qc] 31)).alloc (.cells #[.slice none 0 0, .slice none 0 0, .slice none 0 0] 31) := ⟨_, rfl⟩
  have hb3 : Below w.heap.size w W3 := by rw [hW3]; exact (((Below.refl _ _).alloc (Nat.le_refl _) _).alloc (by simp) _).alloc (by simp; omega) _
  have hs3 : W3.heap.size = w.heap.size + 3 := by rw [hW3]; simp
  have hX : LBx w.heap.size (.slice A n c) (.slice A' m c') (.slice E p ec) (.slice C q qc) W3 := by rw [hW3]; exact LBx.new w _ _ _ _
  have hnb : n ≤ 2000000 := by have := hG.1; omega
  have HV3 := Lib.hid (impl_ValidLazy A A' E C n c m c' p ec q qc gs st W3 w.heap.size (by omega) hn hnc hm hp hq (h.below hb3 (Nat.le_refl _)) (h4.keep fun p hp => hb3.cell hp) hG hE)
  rw [hW3] at HV3
  have HIC := Lib.hid fun (h10 : n ≤ 10) (w' : World) (E1 : Option Addr) (h : GS w' w'.heap.size A gs) (h1 : IS w' w'.heap.size E1 [k]) => impl_areCells A E1 n c 1 1 gs [k] w' hn h10 rfl (by omega) h h1
  have HCP := Lib.hid fun (w' : World) (hB : w.heap.size ≤ w'.heap.size) (hm : n = st.vs.length) (hp : n = st.rs.length) (hq : n = st.cs.length) (h0 : 0 < n) (h10 : n ≤ 10) (h' : LS3 w' w.heap.size A' E C st) => impl_machineAt A A' E C n c n c' ec qc st w' w.heap.size hB hm hp hq h0 h10 h' hE
  have HG := Lib.hid h
  have HE := Lib.hid h'
  have HN := Lib.hid hn
  have HM := Lib.hid hm
  have HP := Lib.hid hp
  have HQ := Lib.hid hq
  have HW3 := Lib.hid hW3
  have HB3 := Lib.hid hb3
  have HX := Lib.hid hX
  have HS3 := Lib.hid hs3
  have hF : writeL gs st k x = if (validL gs st && (isC gs k && rng x 0 999)) = true then wlF st k.toNat x else ⟨[], [], []⟩ := rfl
  have hR : writeLB gs st k x = (validL gs st && (isC gs k && rng x 0 999)) := rfl
  rw [hF, hR]
  obtain ⟨v, hv⟩ : ∃ v, v = validL gs st := ⟨_, rfl⟩
  obtain ⟨u, hu⟩ : ∃ u, u = isC gs k := ⟨_, rfl⟩
  obtain ⟨t, ht⟩ : ∃ t, t = rng x 0 999 := ⟨_, rfl⟩
  have HR := Lib.hid fun w' : World => impl_inRange x 999 w'
  have HVV := Lib.hid hv
  have HUU := Lib.hid hu
  have HTT := Lib.hid ht
  have HRL : Hid (∀ j, (st.rs.getD j []).length ≤ 2000000) := fun j => by have := hE.2.1.2 j; omega
  rw [← hv, ← hu, ← ht]
  rw [← hv] at HV3
  rw [wrB_one, ← hu] at HIC
  rw [← ht] at HR
  clear hW3 hb3 hs3 hX h h' h4 hn hm hp hq hnc hG hE hF hR hv hu ht
  cases v
  · simp only [Bool.false_and, Bool.false_eq_true, if_false]
    go_enter Tryz.func13, Tryz.ntmps13
    go_wp2_with fail
    refine HV3.out.mono ?_
    rw [← HW3.out]
    rintro e w4 ⟨rfl, hb⟩
    have HX4 := Lib.hid (HX.out.step hb)
    have hs4 : w.heap.size + 3 ≤ w4.heap.size := by have := hb.size; have := HS3.out; omega
    have HB4 := Lib.hid (HB3.out.trans (hb.mono (by have := HS3.out; omega)))
    clear hb
    have Y := HX4.out
    have r1 := Y.c2.c 0 _ rfl
    have r2 := Y.c2.c 1 _ rfl
    have r3 := Y.c2.c 2 _ rfl
    have g1 := Y.c2.f 0
    have g2 := Y.c2.f 1
    have g3 := Y.c2.f 2
    clear Y
    go_wp2
    refine bodyPost_ret (v := .tuple #[.agg #[.slice none 0 0, .slice none 0 0, .slice none 0 0], .bool false]) (by simp [results, Tryz.results13, go_sem, r1, r2, r3]) rfl ?_
    exact RetLB.nil (((HB4.out.setCell (by simp; omega) _).setCell (by simp; omega) _).setCell (by simp; omega) _)
  · obtain ⟨hvg, hvl, hrl, hcl, -, -, -⟩ := validL_parts gs st HVV.out.symm
    have hn10 : n ≤ 10 := by have := (validG_parts gs hvg).1; have := HN.out; omega
    cases u
    · simp only [Bool.false_and, Bool.and_false, Bool.false_eq_true, if_false]
      clear hvg hvl hrl hcl
      go_enter Tryz.func13, Tryz.ntmps13
      go_wp2_with fail
      refine HV3.out.mono ?_
      rw [← HW3.out]
      rintro e w4 ⟨rfl, hb⟩
      have HX4 := Lib.hid (HX.out.step hb)
      have hs4 : w.heap.size + 3 ≤ w4.heap.size := by have := hb.size; have := HS3.out; omega
      have HB4 := Lib.hid (HB3.out.trans (hb.mono (by have := HS3.out; omega)))
      clear hb
      have p0 := HX4.out.c0.c 0 _ rfl
      have hb4 : Below w4.heap.size w4 (w4.alloc (.cells #[.int .i64 k] 3)) := (Below.refl _ _).alloc (Nat.le_refl _) _
      have HI4 := Lib.hid (HIC.out hn10 (w4.alloc (.cells #[.int .i64 k] 3)) (some ⟨w4.heap.size, 0, none⟩) (((HG.out.below HB4.out (Nat.le_refl _)).below hb4 (by omega)).more (by simp; omega)) (fun _ => ⟨w4.heap.size, 0, rfl, by simp, fun j hj => by
        have : j = 0 := by simpa using hj
        subst this
        go_simp⟩))
      have HX4' := Lib.hid (HX4.out.step hb4)
      have HB4' := Lib.hid (HB4.out.trans (hb4.mono (by omega)))
      clear hb4
      go_wp2_with fail
      refine HI4.out.mono ?_
      rintro e w5 ⟨rfl, hb⟩
      have HX5 := Lib.hid (HX4'.out.step hb)
      have hs5 : w.heap.size + 3 ≤ w5.heap.size := by have := hb.size; simp at this; omega
      have HB5 := Lib.hid (HB4'.out.trans (hb.mono (by simp; omega)))
      clear hb p0 HX4 HB4 HX4' HB4' HI4
      have Y := HX5.out
      have r1 := Y.c2.c 0 _ rfl
      have r2 := Y.c2.c 1 _ rfl
      have r3 := Y.c2.c 2 _ rfl
      have g1 := Y.c2.f 0
      have g2 := Y.c2.f 1
      have g3 := Y.c2.f 2
      clear Y
      go_wp2
      refine bodyPost_ret (v := .tuple #[.agg #[.slice none 0 0, .slice none 0 0, .slice none 0 0], .bool false]) (by simp [results, Tryz.results13, go_sem, r1, r2, r3]) rfl ?_
      exact RetLB.nil (((HB5.out.setCell (by simp; omega) _).setCell (by simp; omega) _).setCell (by simp; omega) _)
    · cases t
      · simp only [Bool.and_false, Bool.false_eq_true, if_false]
        clear hvg hvl hrl hcl
        go_enter Tryz.func13, Tryz.ntmps13
        go_wp2_with fail
        refine HV3.out.mono ?_
        rw [← HW3.out]
        rintro e w4 ⟨rfl, hb⟩
        have HX4 := Lib.hid (HX.out.step hb)
        have hs4 : w.heap.size + 3 ≤ w4.heap.size := by have := hb.size; have := HS3.out; omega
        have HB4 := Lib.hid (HB3.out.trans (hb.mono (by have := HS3.out; omega)))
        clear hb
        have p0 := HX4.out.c0.c 0 _ rfl
        have hb4 : Below w4.heap.size w4 (w4.alloc (.cells #[.int .i64 k] 3)) := (Below.refl _ _).alloc (Nat.le_refl _) _
        have HI4 := Lib.hid (HIC.out hn10 (w4.alloc (.cells #[.int .i64 k] 3)) (some ⟨w4.heap.size, 0, none⟩) (((HG.out.below HB4.out (Nat.le_refl _)).below hb4 (by omega)).more (by simp; omega)) (fun _ => ⟨w4.heap.size, 0, rfl, by simp, fun j hj => by
          have : j = 0 := by simpa using hj
          subst this
          go_simp⟩))
        have HX4' := Lib.hid (HX4.out.step hb4)
        have HB4' := Lib.hid (HB4.out.trans (hb4.mono (by omega)))
        clear hb4
        go_wp2_with fail
        refine HI4.out.mono ?_
        rintro e w5 ⟨rfl, hb⟩
        have HX5 := Lib.hid (HX4'.out.step hb)
        have hs5 : w.heap.size + 3 ≤ w5.heap.size := by have := hb.size; simp at this; omega
        have HB5 := Lib.hid (HB4'.out.trans (hb.mono (by simp; omega)))
        clear hb p0 HX4 HB4 HX4' HB4' HI4
        go_wp2_with fail
        refine (HR.out w5).mono ?_
        rintro e w5' ⟨rfl, rfl⟩
        have Y := HX5.out
        have r1 := Y.c2.c 0 _ rfl
        have r2 := Y.c2.c 1 _ rfl
        have r3 := Y.c2.c 2 _ rfl
        have g1 := Y.c2.f 0
        have g2 := Y.c2.f 1
        have g3 := Y.c2.f 2
        clear Y
        go_wp2
        refine bodyPost_ret (v := .tuple #[.agg #[.slice none 0 0, .slice none 0 0, .slice none 0 0], .bool false]) (by simp [results, Tryz.results13, go_sem, r1, r2, r3]) rfl ?_
        exact RetLB.nil (((HB5.out.setCell (by simp; omega) _).setCell (by simp; omega) _).setCell (by simp; omega) _)
      · simp only [Bool.and_true, Bool.and_self, if_true]
        have hmn : n = m := by have := HM.out; have := HN.out; omega
        have hpn : n = p := by have := HP.out; have := HN.out; omega
        have hqn : n = q := by have := HQ.out; have := HN.out; omega
        subst hmn
        subst hpn
        subst hqn
        have HVL : Hid (st.vs.length = n) := HM.out.symm
        have HCL : Hid (st.cs.length = n) := HQ.out.symm
        have HAH : Hid (∀ i, i < n → ∀ x ∈ st.rs.getD i [], 0 ≤ x ∧ x < i) := fun i hi => vl_ahead HVV.out.symm (by have := HN.out; omega)
        clear hvg hvl hrl hcl
        obtain ⟨kk, rfl, hkk, -⟩ := isC_at HUU.out.symm
        have hkn : kk < n := by have := HN.out; omega
        rw [Int.toNat_natCast]
        clear hkk
        go_enter Tryz.func13, Tryz.ntmps13
        go_wp2_with fail
        refine HV3.out.mono ?_
        rw [← HW3.out]
        rintro e w4 ⟨rfl, hb⟩
        have HX4 := Lib.hid (HX.out.step hb)
        have hs4 : w.heap.size + 3 ≤ w4.heap.size := by have := hb.size; have := HS3.out; omega
        have HB4 := Lib.hid (HB3.out.trans (hb.mono (by have := HS3.out; omega)))
        clear hb
        have p0 := HX4.out.c0.c 0 _ rfl
        have hb4 : Below w4.heap.size w4 (w4.alloc (.cells #[.int .i64 kk] 3)) := (Below.refl _ _).alloc (Nat.le_refl _) _
        have HI4 := Lib.hid (HIC.out hn10 (w4.alloc (.cells #[.int .i64 kk] 3)) (some ⟨w4.heap.size, 0, none⟩) (((HG.out.below HB4.out (Nat.le_refl _)).below hb4 (by omega)).more (by simp; omega)) (fun _ => ⟨w4.heap.size, 0, rfl, by simp, fun j hj => by
          have : j = 0 := by simpa using hj
          subst this
          go_simp⟩))
        have HX4' := Lib.hid (HX4.out.step hb4)
        have HB4' := Lib.hid (HB4.out.trans (hb4.mono (by omega)))
        clear hb4
        go_wp2_with fail
        refine HI4.out.mono ?_
        rintro e w5 ⟨rfl, hb⟩
        have HX5 := Lib.hid (HX4'.out.step hb)
        have hs5 : w.heap.size + 3 ≤ w5.heap.size := by have := hb.size; simp at this; omega
        have HB5 := Lib.hid (HB4'.out.trans (hb.mono (by simp; omega)))
        clear hb p0 HX4 HB4 HX4' HB4' HI4
        go_wp2_with fail
        refine (HR.out w5).mono ?_
        rintro e w5' ⟨rfl, rfl⟩
        have s0 := HX5.out.c0.c 0 _ rfl
        have s1 := HX5.out.c1.c 0 _ rfl
        have s2 := HX5.out.c1.c 1 _ rfl
        have s3 := HX5.out.c1.c 2 _ rfl
        have hBE := HE.out.below HB5.out (Nat.le_refl _)
        go_wp2_with fail
        refine (HCP.out w5 (by omega) HM.out HP.out HQ.out (by omega) hn10 hBE).mono ?_
        rintro e w6 ⟨mb, U, gv, gr, gc, rfl, hQ, hU0, hU1, hM, hb6⟩
        have hul := hQ.ul
        have hgvc : gv < mb ∧ gc < mb ∧ gr < mb ∧ w5.heap.size ≤ gv ∧ w5.heap.size ≤ gc ∧ w5.heap.size ≤ gr ∧ gc ≠ gr := by
          obtain ⟨A0, m0, c0, a1, -, a3⟩ := hQ.fam.row 0 (by omega)
          rw [hU0] at a1
          cases a1
          obtain ⟨A0, m0, c0, b1, -, b3⟩ := hQ.fam.row 1 (by omega)
          rw [hU1] at b1
          cases b1
          refine ⟨a3.2 _ rfl, b3.2 _ rfl, hQ.top.2 _ rfl, (a3.1.lt _ rfl).1, (b3.1.lt _ rfl).1, (hQ.top.1.lt _ rfl).1, fun h => ?_⟩
          exact (blocks_ne hQ.top.1 b3.1 ints_ne_int.symm).elim (fun h1 => by simp [Value.ownBlock] at h1) fun h1 => h1 (by rw [h]; try rfl)
        obtain ⟨l1, l2, l3, l4, l5, l6, l7⟩ := hgvc
        have hs6 : w5.heap.size ≤ w6.heap.size := hb6.size
        have hmbl : mb < w6.heap.size := hM.lt
        have hmb5 : w5.heap.size ≤ mb := by omega
        have HX6 := Lib.hid (HX5.out.step hb6)
        have HB6 := Lib.hid (HB5.out.trans (hb6.mono (by omega)))
        have HU0 := Lib.hid hU0
        have HU1 := Lib.hid hU1
        have HM6 := Lib.hid hM
        have HQ6 := Lib.hid hQ
        clear s0 s1 s2 s3 hBE HX5 HB5 hQ hU0 hU1 hM hb6
        go_wp2_with fail
        refine (impl_setValueL mb A none n c 0 0 n gv n gr gc n n U st [] kk x w6 w5.heap.size hs6 hn10 mb (by omega) HQ6.out HU0.out HU1.out HVL.out HCL.out hkn HAH.out HRL.out HM6.out (by omega) (by omega)).mono ?_
        rintro e w7 ⟨rfl, hq, hb, hs, hk⟩
        have HQ7 := Lib.hid hq
        have HM7 := Lib.hid (HM6.out.keepB (hk mb hmbl (by omega) (by omega)) hs)
        have HX7 := Lib.hid (HX6.out.low hb (by omega))
        have HB7 := Lib.hid (HB6.out.trans (hb.mono (by omega)))
        have hs7 := hs
        clear hq hb hs hk HQ6 HM6 HX6 HB6
        have m1 := HM7.out.c 1 _ rfl
        have m2 := HM7.out.c 2 _ rfl
        have m3 := HM7.out.c 3 _ rfl
        have u0 := HX7.out.c2.c 0 _ rfl
        have u1 := HX7.out.c2.c 1 _ rfl
        have u2 := HX7.out.c2.c 2 _ rfl
        have f0 := HX7.out.c2.f 0
        have f1 := HX7.out.c2.f 1
        have f2 := HX7.out.c2.f 2
        go_wp2
        obtain ⟨W8, hW8⟩ : ∃ W, W = ((w7.setCell ⟨w.heap.size + 1 + 1, 0, none⟩ (.slice (some ⟨gv, 0, none⟩) n n)).setCell ⟨w.heap.size + 1 + 1, 1, none⟩ (.slice (some ⟨gr, 0, none⟩) n n)).setCell ⟨w.heap.size + 1 + 1, 2, none⟩ (.slice (some ⟨gc, 0, none⟩) n n) := ⟨_, rfl⟩
        have hfr8 : Frm (w.heap.size + 1 + 1) w7 W8 := by rw [hW8]; exact ((Frm.set _ _ _ _).trans (Frm.set _ _ _ _)).trans (Frm.set _ _ _ _)
        have R8 : Bx (w.heap.size + 1 + 1) [.slice (some ⟨gv, 0, none⟩) n n, .slice (some ⟨gr, 0, none⟩) n n, .slice (some ⟨gc, 0, none⟩) n n] W8 := by rw [hW8]; exact ((HX7.out.c2.set 0 (by simp) _).set 1 (by simp) _).set 2 (by simp) _
        have HF8 := Lib.hid ((HQ7.out.keep (w' := W8) fun q hq hq2 => hfr8.block q (by omega) (by omega)).f (by have := hfr8.size; omega))
        have HB8 := Lib.hid (HB7.out.trans (hfr8.below (B := w.heap.size) (by omega) (by omega)))
        have z0 := R8.c 0 _ rfl
        have z1 := R8.c 1 _ rfl
        have z2 := R8.c 2 _ rfl
        have hs8 := hfr8.size
        rw [← hW8]
        refine bodyPost_ret (v := .tuple #[.agg #[.slice (some ⟨gv, 0, none⟩) n n, .slice (some ⟨gr, 0, none⟩) n n, .slice (some ⟨gc, 0, none⟩) n n], .bool true]) (by simp [results, Tryz.results13, go_sem, z0, z1, z2]) rfl ?_
        exact ⟨_, _, _, _, _, _, _, _, _, rfl, (OwL.of_wf HF8.out (by rw [wlF_len]; exact HVL.out.symm) HU0.out HU1.out).mono (by omega) (Nat.le_refl _), HB8.out⟩
end Go.Proofs.YtlcpgbbpjnkihaaGreat
