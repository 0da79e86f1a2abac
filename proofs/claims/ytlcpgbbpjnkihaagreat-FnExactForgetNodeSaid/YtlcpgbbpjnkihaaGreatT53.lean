/- The standing contract of impl.ForgetNode. (Made by t52.py.) -/
import Derived.Test.YtlcpgbbpjnkihaaGreatT51
import Derived.Test.YtlcpgbbpjnkihaaGreatT50
import Derived.Test.YtlcpgbbpjnkihaaGreatT49
import Derived.Test.YtlcpgbbpjnkihaaGreatT47
import Derived.Test.YtlcpgbbpjnkihaaGreatT48
import Derived.Test.YtlcpgbbpjnkihaaGreatT46
import Derived.Test.YtlcpgbbpjnkihaaGreatT45
import Derived.Test.YtlcpgbbpjnkihaaGreatT26
import Derived.Test.YtlcpgbbpjnkihaaGreatM48
import Derived.Test.YtlcpgbbpjnkihaaGreatLc
import Derived.Deep.RegionHeld3
import Derived.Deep.Cut

namespace Go.Proofs.YtlcpgbbpjnkihaaGreat
set_option linter.unusedSimpArgs false
set_option linter.unusedVariables false
open Go.RowKit

theorem WQ.putN {B h0 n cr gr i : Nat} {U : List Value} {vs ch rn : List Int} {rs : List (List Int)} {w : World} (h : WQ B h0 (some ⟨gr, 0, none⟩) cr n U vs ch rn rs w) (hh : h0 ≤ w.heap.size) (hB : B ≤ w.heap.size) (hi : i < n) : WQ B h0 (some ⟨gr, 0, none⟩) cr n (U.set (i + 3) (.slice none 0 0)) vs ch rn (rs.set i []) (w.setCell ⟨gr, i, none⟩ (.slice none 0 0)) := by
  have hul := h.ul
  have h2 := (h.f hh).putR (A := none) (m := 0) (c := 0) (D := []) hi hB (Below.refl _ _) (by simpa using World.ownsRow_nil _ _ _ _) rfl
  refine ⟨h2.ul, h2.rl, ⟨fun j hj => ?_, h2.fam.apart⟩, h2.top, h.top.2⟩
  obtain ⟨A, m, c, e1, e2, e3⟩ := h2.fam.row j hj
  refine ⟨A, m, c, e1, e2, e3.1, fun q hq => ?_⟩
  by_cases e : j = i + 3
  · subst e
    rw [List.getElem?_set, if_pos rfl, if_pos (by omega)] at e1
    cases e1
    simp [Value.ownBlock] at hq
  · rw [List.getElem?_set, if_neg (by omega)] at e1
    obtain ⟨A', m', c', r1, r2, r3⟩ := h.fam.row j (by rw [List.length_set] at hj; exact hj)
    rw [e1] at r1
    cases r1
    exact r3.2 q hq
set_option maxRecDepth 100000 in
set_option maxHeartbeats 6400000 in
theorem top_impl_ForgetNode (gs : List Nd) (st : Lz) (k : Int) (hG : GB gs) (hE : LB st) : ∀ (A : Option Addr) (n c : Nat) (A' : Option Addr) (m c' : Nat) (E : Option Addr) (p ec : Nat) (C : Option Addr) (q qc : Nat) (w : World), n = gs.length → n ≤ c → GS w w.heap.size A gs → m = st.vs.length → p = st.rs.length → q = st.cs.length → LS4 w w.heap.size A' E C st →
    Calls Tryz.prog 20 #[.agg #[.slice A n c], .agg #[.slice A' m c', .slice E p ec, .slice C q qc], .int .i64 k] w fun e w' => RetLB w (forgetL gs st k) (forgetLB gs st k) e w' := by
  intro A n c A' m c' E p ec C q qc w hn hnc h hm hp hq h4
  have h' := h4.1
  obtain ⟨W3, hW3⟩ : ∃ W, W = ((w.alloc (.cells #[.slice A n c] 36)).alloc (.cells #[.slice A' m c', .slice E p ec, .slice C q qc] 31)).alloc (.cells #[.slice none 0 0, .slice none 0 0, .slice none 0 0] 31) := ⟨_, rfl⟩
  have hb3 : Below w.heap.size w W3 := by rw [hW3]; exact (((Below.refl _ _).alloc (Nat.le_refl _) _).alloc (by simp) _).alloc (by simp; omega) _
  have hs3 : W3.heap.size = w.heap.size + 3 := by rw [hW3]; simp
  have hX : LBx w.heap.size (.slice A n c) (.slice A' m c') (.slice E p ec) (.slice C q qc) W3 := by rw [hW3]; exact LBx.new w _ _ _ _
  have hnb : n ≤ 2000000 := by have := hG.1; omega
  have HV3 := Lib.hid (impl_ValidLazy A A' E C n c m c' p ec q qc gs st W3 w.heap.size (by omega) hn hnc hm hp hq (h.below hb3 (Nat.le_refl _)) (h4.keep fun p hp => hb3.cell hp) hG hE)
  rw [hW3] at HV3
  have HCP := Lib.hid fun (w' : World) (hB : w.heap.size ≤ w'.heap.size) (hm : n = st.vs.length) (hp : n = st.rs.length) (hq : n = st.cs.length) (h0 : 0 < n) (h10 : n ≤ 10) (h' : LS3 w' w.heap.size A' E C st) => impl_machineAt A A' E C n c n c' ec qc st w' w.heap.size hB hm hp hq h0 h10 h' hE
  have HG := Lib.hid h
  have HE := Lib.hid h'
  have HN := Lib.hid hn
  have HM := Lib.hid hm
  have HP := Lib.hid hp
  have HQ := Lib.hid hq
  have HW3 := Lib.hid hW3
  have HB3 := Lib.hid hb3
  have HX := Lib.hid hX
  have HS3 := Lib.hid hs3
  have hF : forgetL gs st k = if (validL gs st && (hasN gs k && !(isC gs k))) = true then fgF st k.toNat else ⟨[], [], []⟩ := rfl
  have hR : forgetLB gs st k = (validL gs st && (hasN gs k && !(isC gs k))) := rfl
  rw [hF, hR]
  obtain ⟨v, hv⟩ : ∃ v, v = validL gs st := ⟨_, rfl⟩
  obtain ⟨u, hu⟩ : ∃ u, u = isC gs k := ⟨_, rfl⟩
  obtain ⟨t, ht⟩ : ∃ t, t = hasN gs k := ⟨_, rfl⟩
  have HR := Lib.hid fun (w' : World) (hB : w.heap.size ≤ w'.heap.size) (h : GS w' w.heap.size A gs) => impl_hasNode A n c gs k w' w.heap.size hB hn hnc h hG
  have HVV := Lib.hid hv
  have HUU := Lib.hid hu
  have HTT := Lib.hid ht
  have HRL : Hid (∀ j, (st.rs.getD j []).length ≤ 2000000) := fun j => by have := hE.2.1.2 j; omega
  rw [← hv, ← hu, ← ht]
  rw [← hv] at HV3
  rw [← ht] at HR
  clear hW3 hb3 hs3 hX h h' h4 hn hm hp hq hnc hG hE hF hR hv hu ht
  cases v
  · simp only [Bool.false_and, Bool.false_eq_true, if_false]
    go_enter Tryz.func20, Tryz.ntmps20
    go_wp2_with fail
    refine HV3.out.mono ?_
    rw [← HW3.out]
    rintro e w4 ⟨rfl, hb⟩
    have HX4 := Lib.hid (HX.out.step hb)
    have hs4 : w.heap.size + 3 ≤ w4.heap.size := by have := hb.size; have := HS3.out; omega
    have HB4 := Lib.hid (HB3.out.trans (hb.mono (by have := HS3.out; omega)))
    clear hb
    have Y := HX4.out
    have r1 := Y.c2.c 0 _ rfl
    have r2 := Y.c2.c 1 _ rfl
    have r3 := Y.c2.c 2 _ rfl
    have g1 := Y.c2.f 0
    have g2 := Y.c2.f 1
    have g3 := Y.c2.f 2
    clear Y
    go_wp2
    refine bodyPost_ret (v := .tuple #[.agg #[.slice none 0 0, .slice none 0 0, .slice none 0 0], .bool false]) (by simp [results, Tryz.results20, go_sem, r1, r2, r3]) rfl ?_
    exact RetLB.nil (((HB4.out.setCell (by simp; omega) _).setCell (by simp; omega) _).setCell (by simp; omega) _)
  · obtain ⟨hvg, hvl, hrl, hcl, -, -, -⟩ := validL_parts gs st HVV.out.symm
    have hn10 : n ≤ 10 := by have := (validG_parts gs hvg).1; have := HN.out; omega
    rw [hvg, Bool.true_and] at HR
    cases t
    · simp only [Bool.false_and, Bool.and_false, Bool.false_eq_true, if_false]
      clear hvg hvl hrl hcl
      go_enter Tryz.func20, Tryz.ntmps20
      go_wp2_with fail
      refine HV3.out.mono ?_
      rw [← HW3.out]
      rintro e w4 ⟨rfl, hb⟩
      have HX4 := Lib.hid (HX.out.step hb)
      have hs4 : w.heap.size + 3 ≤ w4.heap.size := by have := hb.size; have := HS3.out; omega
      have HB4 := Lib.hid (HB3.out.trans (hb.mono (by have := HS3.out; omega)))
      clear hb
      have p0 := HX4.out.c0.c 0 _ rfl
      go_wp2_with fail
      refine (HR.out w4 (by omega) (HG.out.below HB4.out (Nat.le_refl _))).mono ?_
      rintro e w5 ⟨rfl, hb⟩
      have HX5 := Lib.hid (HX4.out.step hb)
      have hs5 : w.heap.size + 3 ≤ w5.heap.size := by have := hb.size; omega
      have HB5 := Lib.hid (HB4.out.trans (hb.mono (by omega)))
      clear hb p0 HX4 HB4
      have Y := HX5.out
      have r1 := Y.c2.c 0 _ rfl
      have r2 := Y.c2.c 1 _ rfl
      have r3 := Y.c2.c 2 _ rfl
      have g1 := Y.c2.f 0
      have g2 := Y.c2.f 1
      have g3 := Y.c2.f 2
      clear Y
      go_wp2
      refine bodyPost_ret (v := .tuple #[.agg #[.slice none 0 0, .slice none 0 0, .slice none 0 0], .bool false]) (by simp [results, Tryz.results20, go_sem, r1, r2, r3]) rfl ?_
      exact RetLB.nil (((HB5.out.setCell (by simp; omega) _).setCell (by simp; omega) _).setCell (by simp; omega) _)
    · obtain ⟨kk, rfl, hkk⟩ : ∃ kk : Nat, k = kk ∧ kk < gs.length := by
        have h := HTT.out.symm
        unfold hasN rng at h
        have h := of_decide_eq_true h
        exact ⟨k.toNat, by omega, by omega⟩
      have hkn : kk < n := by have := HN.out; omega
      have hku : ((gs.getD kk default).k == 0) = u := by rw [HUU.out]; unfold isC; rw [← HTT.out, Int.toNat_natCast, Bool.true_and]
      cases u
      case true =>
        simp only [Bool.and_false, Bool.not_true, Bool.false_eq_true, if_false]
        clear hvg hvl hrl hcl
        go_enter Tryz.func20, Tryz.ntmps20
        go_wp2_with fail
        refine HV3.out.mono ?_
        rw [← HW3.out]
        rintro e w4 ⟨rfl, hb⟩
        have HX4 := Lib.hid (HX.out.step hb)
        have hs4 : w.heap.size + 3 ≤ w4.heap.size := by have := hb.size; have := HS3.out; omega
        have HB4 := Lib.hid (HB3.out.trans (hb.mono (by have := HS3.out; omega)))
        clear hb
        have p0 := HX4.out.c0.c 0 _ rfl
        go_wp2_with fail
        refine (HR.out w4 (by omega) (HG.out.below HB4.out (Nat.le_refl _))).mono ?_
        rintro e w5 ⟨rfl, hb⟩
        have HX5 := Lib.hid (HX4.out.step hb)
        have hs5 : w.heap.size + 3 ≤ w5.heap.size := by have := hb.size; omega
        have HB5 := Lib.hid (HB4.out.trans (hb.mono (by omega)))
        clear hb p0 HX4 HB4
        obtain ⟨bg, og, rfl, hbg, cg0, -⟩ := (HG.out.below HB5.out (Nat.le_refl _)).at_ kk (by omega)
        have g0 := HX5.out.c0.c 0 _ rfl
        have hkd := hku
        generalize (gs.getD kk default).k = kd at *
        have Y := HX5.out
        have r1 := Y.c2.c 0 _ rfl
        have r2 := Y.c2.c 1 _ rfl
        have r3 := Y.c2.c 2 _ rfl
        have g1 := Y.c2.f 0
        have g2 := Y.c2.f 1
        have g3 := Y.c2.f 2
        clear Y
        go_wp2
        refine bodyPost_ret (v := .tuple #[.agg #[.slice none 0 0, .slice none 0 0, .slice none 0 0], .bool false]) (by simp [results, Tryz.results20, go_sem, r1, r2, r3]) rfl ?_
        exact RetLB.nil (((HB5.out.setCell (by simp; omega) _).setCell (by simp; omega) _).setCell (by simp; omega) _)
      simp only [Bool.and_true, Bool.not_false, Bool.and_self, if_true]
      rw [Int.toNat_natCast]
      have hmn : n = m := by have := HM.out; have := HN.out; omega
      have hpn : n = p := by have := HP.out; have := HN.out; omega
      have hqn : n = q := by have := HQ.out; have := HN.out; omega
      subst hmn
      subst hpn
      subst hqn
      have HVL : Hid (st.vs.length = n) := HM.out.symm
      have HCL : Hid (st.cs.length = n) := HQ.out.symm
      have HAH : Hid (∀ i, i < n → ∀ x ∈ st.rs.getD i [], 0 ≤ x ∧ x < i) := fun i hi => vl_ahead HVV.out.symm (by have := HN.out; omega)
      clear hvg hvl hrl hcl
      obtain ⟨rs, hrs⟩ : ∃ r, r = st.rs.set kk [] := ⟨_, rfl⟩
      obtain ⟨cs, hcs⟩ : ∃ r, r = st.cs.set kk 2 := ⟨_, rfl⟩
      have hfg : fgF st kk = ⟨st.vs, rs, spoF rs cs kk 1⟩ := by rw [hrs, hcs]; rfl
      rw [hfg]
      have HRS := Lib.hid hrs
      have HCS := Lib.hid hcs
      clear hfg hrs hcs
      go_enter Tryz.func20, Tryz.ntmps20
      go_wp2_with fail
      refine HV3.out.mono ?_
      rw [← HW3.out]
      rintro e w4 ⟨rfl, hb⟩
      have HX4 := Lib.hid (HX.out.step hb)
      have hs4 : w.heap.size + 3 ≤ w4.heap.size := by have := hb.size; have := HS3.out; omega
      have HB4 := Lib.hid (HB3.out.trans (hb.mono (by have := HS3.out; omega)))
      clear hb
      have p0 := HX4.out.c0.c 0 _ rfl
      go_wp2_with fail
      refine (HR.out w4 (by omega) (HG.out.below HB4.out (Nat.le_refl _))).mono ?_
      rintro e w5 ⟨rfl, hb⟩
      have HX5 := Lib.hid (HX4.out.step hb)
      have hs5 : w.heap.size + 3 ≤ w5.heap.size := by have := hb.size; omega
      have HB5 := Lib.hid (HB4.out.trans (hb.mono (by omega)))
      clear hb p0 HX4 HB4
      obtain ⟨bg, og, rfl, hbg, cg0, -⟩ := (HG.out.below HB5.out (Nat.le_refl _)).at_ kk (by omega)
      have g0 := HX5.out.c0.c 0 _ rfl
      have hkd := hku
      generalize (gs.getD kk default).k = kd at *
      have s0 := HX5.out.c0.c 0 _ rfl
      have s1 := HX5.out.c1.c 0 _ rfl
      have s2 := HX5.out.c1.c 1 _ rfl
      have s3 := HX5.out.c1.c 2 _ rfl
      have hBE := HE.out.below HB5.out (Nat.le_refl _)
      go_wp2_with fail
      refine (HCP.out w5 (by omega) HM.out HP.out HQ.out (by omega) hn10 hBE).mono ?_
      rintro e w6 ⟨mb, U, gv, gr, gc, rfl, hQ, hU0, hU1, hM, hb6⟩
      have hul := hQ.ul
      have hgvc : gv < mb ∧ gc < mb ∧ gr < mb ∧ w5.heap.size ≤ gv ∧ w5.heap.size ≤ gc ∧ w5.heap.size ≤ gr ∧ gc ≠ gr := by
        obtain ⟨A0, m0, c0, a1, -, a3⟩ := hQ.fam.row 0 (by omega)
        rw [hU0] at a1
        cases a1
        obtain ⟨A0, m0, c0, b1, -, b3⟩ := hQ.fam.row 1 (by omega)
        rw [hU1] at b1
        cases b1
        refine ⟨a3.2 _ rfl, b3.2 _ rfl, hQ.top.2 _ rfl, (a3.1.lt _ rfl).1, (b3.1.lt _ rfl).1, (hQ.top.1.lt _ rfl).1, fun h => ?_⟩
        exact (blocks_ne hQ.top.1 b3.1 ints_ne_int.symm).elim (fun h1 => by simp [Value.ownBlock] at h1) fun h1 => h1 (by rw [h]; try rfl)
      obtain ⟨l1, l2, l3, l4, l5, l6, l7⟩ := hgvc
      have hs6 : w5.heap.size ≤ w6.heap.size := hb6.size
      have hmbl : mb < w6.heap.size := hM.lt
      have hmb5 : w5.heap.size ≤ mb := by omega
      have HX6 := Lib.hid (HX5.out.step hb6)
      have HB6 := Lib.hid (HB5.out.trans (hb6.mono (by omega)))
      have HU0 := Lib.hid hU0
      have HU1 := Lib.hid hU1
      have HM6 := Lib.hid hM
      have HQ6 := Lib.hid hQ
      clear s0 s1 s2 s3 hBE HX5 HB5 hQ hU0 hU1 hM hb6
      have hF6 := HQ6.out.f (by omega)
      have cr6 := hF6.cell kk hkn
      obtain ⟨xr, hxr⟩ : ∃ x, U[kk + 3]? = some x := ⟨U[kk + 3], by rw [List.getElem?_eq_getElem (by omega)]⟩
      have r6 := cr6.1.trans hxr
      have fr6 := cr6.2
      have m62 := HM6.out.c 2 _ rfl
      obtain ⟨w7, hw7⟩ : ∃ W, W = w6.setCell ⟨gr, kk, none⟩ (.slice none 0 0) := ⟨_, rfl⟩
      have hs7 : w7.heap.size = w6.heap.size := by rw [hw7]; simp [World.setCell]
      have Q7 : WQ w5.heap.size mb (some ⟨gr, 0, none⟩) n n (U.set (kk + 3) (.slice none 0 0)) st.vs st.cs [] rs w7 := by rw [hw7, HRS.out]; exact HQ6.out.putN (by omega) hs6 hkn
      have hU0' : (U.set (kk + 3) (.slice none 0 0))[0]? = some (.slice (some ⟨gv, 0, none⟩) n n) := by rw [List.getElem?_set, if_neg (by omega)]; exact HU0.out
      have hU1' : (U.set (kk + 3) (.slice none 0 0))[1]? = some (.slice (some ⟨gc, 0, none⟩) n n) := by rw [List.getElem?_set, if_neg (by omega)]; exact HU1.out
      have M7 := HM6.out.other ⟨gr, kk, none⟩ (by show mb ≠ gr; omega) (.slice none 0 0)
      rw [← hw7] at M7
      generalize U.set (kk + 3) (.slice none 0 0) = U7 at *
      obtain ⟨A0, m0, c0, a1, a2, a3⟩ := (Q7.f (by omega)).at_ 1 (by omega)
      rw [hU1'] at a1
      cases a1
      have z7 : w7.cell? ⟨gc, kk, none⟩ = some (.int .i64 (st.cs.getD kk 0)) := by
        rw [a3.cellAt kk (by omega)]
        have hil : kk < st.cs.length := by rw [HCL.out]; exact hkn
        simp [rowOf, List.getD, hil]
      have f7 := a3.frozenAt kk
      have m73 := M7.c 3 _ rfl
      obtain ⟨w8, hw8⟩ : ∃ W, W = w7.setCell ⟨gc, kk, none⟩ (.int .i64 2) := ⟨_, rfl⟩
      have hs8 : w8.heap.size = w7.heap.size := by rw [hw8]; simp [World.setCell]
      have Q8 := Lib.hid (Q7.setC (q := kk) (by omega) hU1' 2)
      rw [← hw8, ← HCS.out] at Q8
      have M8 := Lib.hid (M7.other ⟨gc, kk, none⟩ (by show mb ≠ gc; omega) (.int .i64 2))
      rw [← hw8] at M8
      have hb8 : Below w5.heap.size w6 w8 := by rw [hw8, hw7]; exact ((Below.refl _ _).setCell (by show w5.heap.size ≤ gr; omega) _).setCell (by show w5.heap.size ≤ gc; omega) _
      have HX8 := Lib.hid (HX6.out.low hb8 (by omega))
      have HB8' := Lib.hid (HB6.out.trans (hb8.mono (by omega)))
      have HCL8 : Hid (cs.length = n) := by show cs.length = n; rw [HCS.out, List.length_set]; exact HCL.out
      have HRL8 : Hid (∀ j, (rs.getD j []).length ≤ 2000000) := fun j => by rw [HRS.out]; have := set_nil_len st.rs kk j; have := HRL.out j; omega
      have HAH8 : Hid (∀ i, i < n → ∀ x ∈ rs.getD i [], 0 ≤ x ∧ x < i) := fun i hi x hx => by
        rw [HRS.out] at hx
        by_cases e : kk = i
        · subst e
          by_cases hl : kk < st.rs.length
          · simp [List.getD, hl] at hx
          · rw [List.set_eq_of_length_le (by omega)] at hx; exact HAH.out kk hi x hx
        · have e2 : (st.rs.set kk []).getD i [] = st.rs.getD i [] := by simp [List.getD, List.getElem?_set, e]
          rw [e2] at hx
          exact HAH.out i hi x hx
      have HU0 := Lib.hid hU0'
      have HU1 := Lib.hid hU1'
      have hs7a : w6.heap.size ≤ w7.heap.size := by omega
      have hs7b : w7.heap.size ≤ w6.heap.size := by omega
      have hs8a : w7.heap.size ≤ w8.heap.size := by omega
      have hs8b : w8.heap.size ≤ w7.heap.size := by omega
      clear hF6 cr6 hxr Q7 hU0' hU1' M7 a2 a3 hb8 HX6 HB6 HM6 HQ6 hs7 hs8 hul
      go_upto_region 5 with fail
      rw [← hw7]
      clear hw7 r6 fr6 m62
      go_upto_region 6 with fail
      rw [← hw8]
      clear hw8 z7 f7 m73
      go_wp2_with fail
      refine (impl_markBehind mb (some ⟨bg, og, none⟩) (some ⟨gv, 0, none⟩) none n c n n 0 0 n gr gc n n U7 st.vs cs [] rs kk 1 w8 w5.heap.size (by omega) hn10 mb (by omega) Q8.out HU1.out HCL8.out hkn HAH8.out HRL8.out M8.out (by omega)).mono ?_
      rintro e w9 ⟨rfl, hq, hfr⟩
      have HQ9 := Lib.hid hq
      have HM9 := Lib.hid (M8.out.frm hfr (by omega))
      have hb9 : Below w5.heap.size w8 w9 := hfr.below (by omega) (by omega)
      have HX9 := Lib.hid (HX8.out.low hb9 (by omega))
      have HB9 := Lib.hid (HB8'.out.trans (hb9.mono (by omega)))
      have hs9 := hfr.size
      clear hq hfr hb9 Q8 M8 HX8 HB8'
      have m1 := HM9.out.c 1 _ rfl
      have m2 := HM9.out.c 2 _ rfl
      have m3 := HM9.out.c 3 _ rfl
      have u0 := HX9.out.c2.c 0 _ rfl
      have u1 := HX9.out.c2.c 1 _ rfl
      have u2 := HX9.out.c2.c 2 _ rfl
      have f0 := HX9.out.c2.f 0
      have f1 := HX9.out.c2.f 1
      have f2 := HX9.out.c2.f 2
      go_wp2
      obtain ⟨W8, hW8⟩ : ∃ W, W = ((w9.setCell ⟨w.heap.size + 1 + 1, 0, none⟩ (.slice (some ⟨gv, 0, none⟩) n n)).setCell ⟨w.heap.size + 1 + 1, 1, none⟩ (.slice (some ⟨gr, 0, none⟩) n n)).setCell ⟨w.heap.size + 1 + 1, 2, none⟩ (.slice (some ⟨gc, 0, none⟩) n n) := ⟨_, rfl⟩
      have hfr8 : Frm (w.heap.size + 1 + 1) w9 W8 := by rw [hW8]; exact ((Frm.set _ _ _ _).trans (Frm.set _ _ _ _)).trans (Frm.set _ _ _ _)
      have R8 : Bx (w.heap.size + 1 + 1) [.slice (some ⟨gv, 0, none⟩) n n, .slice (some ⟨gr, 0, none⟩) n n, .slice (some ⟨gc, 0, none⟩) n n] W8 := by rw [hW8]; exact ((HX9.out.c2.set 0 (by simp) _).set 1 (by simp) _).set 2 (by simp) _
      have HF8 := Lib.hid ((HQ9.out.keep (w' := W8) fun q hq hq2 => hfr8.block q (by omega) (by omega)).f (by have := hfr8.size; omega))
      have HB8 := Lib.hid (HB9.out.trans (hfr8.below (B := w.heap.size) (by omega) (by omega)))
      have z0 := R8.c 0 _ rfl
      have z1 := R8.c 1 _ rfl
      have z2 := R8.c 2 _ rfl
      have hs8 := hfr8.size
      rw [← hW8]
      refine bodyPost_ret (v := .tuple #[.agg #[.slice (some ⟨gv, 0, none⟩) n n, .slice (some ⟨gr, 0, none⟩) n n, .slice (some ⟨gc, 0, none⟩) n n], .bool true]) (by simp [results, Tryz.results20, go_sem, z0, z1, z2]) rfl ?_
      exact ⟨_, _, _, _, _, _, _, _, _, rfl, (OwL.of_wf (st := ⟨st.vs, rs, spoF rs cs kk 1⟩) HF8.out HVL.out.symm HU0.out HU1.out).mono (by omega) (Nat.le_refl _), HB8.out⟩
end Go.Proofs.YtlcpgbbpjnkihaaGreat
