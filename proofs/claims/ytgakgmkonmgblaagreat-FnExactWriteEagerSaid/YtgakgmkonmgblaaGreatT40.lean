/- spec.copyEager, spec.writes and spec.WriteEager. (Made by t40.py.) -/
import Derived.Test.YtgakgmkonmgblaaGreatW2
import Derived.Test.YtgakgmkonmgblaaGreatA4
import Derived.Test.YtgakgmkonmgblaaGreatM44
import Derived.Maps.AppendAt
import Derived.Deep.RegionHeld3
import Derived.Deep.Cut

namespace Go.Proofs.YtgakgmkonmgblaaGreat
set_option linter.unusedSimpArgs false
set_option linter.unusedVariables false
open Go.RowKit

/-- A box beside the family is written. -/
theorem WF.setT {B n cr : Nat} {Er : Option Addr} {U : List Value} {vs ch rn : List Int} {rs : List (List Int)} {w : World} {b : Nat} {t : TypeId} (h : WF B Er cr n U vs ch rn rs w) (hb : Tg b t w) (h1 : (3 : TypeId) ≠ t) (h2 : (26 : TypeId) ≠ t) (j : Nat) (u : Value) : WF B Er cr n U vs ch rn rs (w.setCell ⟨b, j, none⟩ u) := by
  have hsz : (w.setCell ⟨b, j, none⟩ u).heap.size = w.heap.size := by simp [World.setCell]
  refine ⟨h.ul, h.rl, ⟨fun i hi => ?_, h.fam.apart⟩, own_setT h.top hb h2 j none u⟩
  obtain ⟨A, m, c, e1, e2, e3⟩ := h.fam.row i hi
  exact ⟨A, m, c, e1, e2, own_setT e3.1 hb h1 j none u, fun q hq => by rw [hsz]; exact e3.2 q hq⟩

set_option maxRecDepth 100000 in
set_option maxHeartbeats 3200000 in
theorem spec_copyEager (A E : Option Addr) (n c en ec : Nat) (st : Eg) (w : World) (B : Nat) (hB : B ≤ w.heap.size) (hn : n = st.vs.length) (hen : en = st.rs.length) (h : ES w B A E st) (hb : EB st) :
    Calls Tryz.prog 42 #[.agg #[.slice A n c, .slice E en ec]] w fun e w' => RetE w st e w' := by
  have HCV := Lib.hid fun (w' : World) (hB : B ≤ w'.heap.size) (h : IS w' B A st.vs) => spec_copyIntsA A n c st.vs w' B hB hn h (by have := hb.1; omega)
  have HCR := Lib.hid fun (w' : World) (hB : B ≤ w'.heap.size) (h : SS w' B E st.rs) => spec_copyLists E en ec st.rs w' B hB hen h hb.2.1
  have H := Lib.hid h
  have HN := Lib.hid hn
  have HE := Lib.hid hen
  clear hn hen h hb
  go_enter Tryz.func42, Tryz.ntmps42
  go_upto_region 1 with fail
  obtain ⟨W2, hW2⟩ : ∃ W, W = (w.alloc (.cells #[.slice A n c, .slice E en ec] 29)).alloc (.cells #[.slice none 0 0, .slice none 0 0] 29) := ⟨_, rfl⟩
  have hb2 : Below w.heap.size w W2 := by rw [hW2]; exact ((Below.refl _ _).alloc (Nat.le_refl _) _).alloc (by simp) _
  have hs2 : w.heap.size + 2 ≤ W2.heap.size := by rw [hW2]; simp
  have q0 : W2.cell? ⟨w.heap.size, 0, none⟩ = some (.slice A n c) := by rw [hW2]; go_simp
  have q1 : W2.cell? ⟨w.heap.size, 1, none⟩ = some (.slice E en ec) := by rw [hW2]; go_simp
  have p0 : W2.cell? ⟨w.heap.size + 1, 0, none⟩ = some (.slice none 0 0) := by rw [hW2]; go_simp
  have p1 : W2.cell? ⟨w.heap.size + 1, 1, none⟩ = some (.slice none 0 0) := by rw [hW2]; go_simp
  have f0 : W2.frozen? ⟨w.heap.size + 1, 0, none⟩ = false := by rw [hW2]; go_simp
  have f1 : W2.frozen? ⟨w.heap.size + 1, 1, none⟩ = false := by rw [hW2]; go_simp
  rw [← hW2]
  have HS2 := Lib.hid (H.out.below hb2 hB)
  have HB2 := Lib.hid hb2
  clear hW2 hb2
  refine wp_region_held_drew (S := fun w' => w'.cell? ⟨w.heap.size, 0, none⟩ = some (.slice A n c) ∧ w'.cell? ⟨w.heap.size, 1, none⟩ = some (.slice E en ec)) (by kernel_rfl) ⟨q0, q1⟩ (fun hHeld => ?_)
  refine wpAnyH_take (i := 0) (oi := ⟨some 3, _, _, _, _, _⟩) (v := ?_) rfl (by kernel_rfl) (by kernel_rfl) (by kernel_rfl) (fun _ _ _ h => h) (Or.inl ⟨by rfl, ?_⟩) (by assumption) ?_; rotate_left; (focus (intro w hSw; (try dsimp only at hSw); go_simp; (try with_reducible rfl))); (try simp only [Act.put, List.setIfInBounds_toArray, List.set_cons_zero, List.set_cons_succ])
  refine wpAnyH_take (i := 1) (oi := ⟨some 4, _, _, _, _, _⟩) (v := ?_) rfl (by kernel_rfl) (by kernel_rfl) (by kernel_rfl) (fun _ _ _ h => h) (Or.inl ⟨by rfl, ?_⟩) (by assumption) ?_; rotate_left; (focus (intro w hSw; (try dsimp only at hSw); go_simp; (try with_reducible rfl))); (try simp only [Act.put, List.setIfInBounds_toArray, List.set_cons_zero, List.set_cons_succ])
  refine wpAnyH_take (i := 3) (oi := ⟨some 6, _, _, _, _, _⟩) (v := ?_) rfl (by kernel_rfl) (by kernel_rfl) (by kernel_rfl) (fun _ _ _ h => h) (Or.inl ⟨by rfl, ?_⟩) (by assumption) ?_; rotate_left; (focus (intro w hSw; (try dsimp only at hSw); go_simp; (try with_reducible rfl))); (try simp only [Act.put, List.setIfInBounds_toArray, List.set_cons_zero, List.set_cons_succ])
  refine wpAnyH_take (i := 4) (oi := ⟨some 7, _, _, _, _, _⟩) (v := ?_) rfl (by kernel_rfl) (by kernel_rfl) (by kernel_rfl) (fun _ _ _ h => h) (Or.inl ⟨by rfl, ?_⟩) (by assumption) ?_; rotate_left; (focus (intro w hSw; (try dsimp only at hSw); go_simp; (try with_reducible rfl))); (try simp only [Act.put, List.setIfInBounds_toArray, List.set_cons_zero, List.set_cons_succ])
  refine wpAnyH_ready (rs := [2]) (by kernel_rfl) (by simp) ?_; refine AllReadyH.cons (o := ⟨some 5, _, _, _, _, _⟩) rfl (fun K hK => ?_) AllReadyH.nil; go_simp
  go_at_call 85
  refine (HCV.out W2.drew (by show B ≤ W2.heap.size; omega) HS2.out.1).mono ?_
  rintro e w3 ⟨g3, c3, rfl, ho', hb3'⟩
  have hb3 : Below W2.heap.size W2 w3 := below_of_drew hb3'
  have HO3 : Hid (w3.ownsRow W2.heap.size 3 1 (.slice (some ⟨g3, 0, none⟩) n c3) n (st.vs.map (Value.int .i64))) := ho'
  have r0 := (hb3.cell (p := ⟨w.heap.size, 0, none⟩) (by show w.heap.size < W2.heap.size; omega)).trans q0
  have r1 := (hb3.cell (p := ⟨w.heap.size, 1, none⟩) (by show w.heap.size < W2.heap.size; omega)).trans q1
  have t0 := (hb3.cell (p := ⟨w.heap.size + 1, 0, none⟩) (by show w.heap.size + 1 < W2.heap.size; omega)).trans p0
  have t1 := (hb3.cell (p := ⟨w.heap.size + 1, 1, none⟩) (by show w.heap.size + 1 < W2.heap.size; omega)).trans p1
  have g0 := (hb3.frozen (p := ⟨w.heap.size + 1, 0, none⟩) (by show w.heap.size + 1 < W2.heap.size; omega)).trans f0
  have g1 := (hb3.frozen (p := ⟨w.heap.size + 1, 1, none⟩) (by show w.heap.size + 1 < W2.heap.size; omega)).trans f1
  have hs3 := hb3.size
  have HB3 := Lib.hid (HB2.out.trans (hb3.mono (by omega)))
  have HS3 := Lib.hid (HS2.out.below hb3 (by omega))
  clear ho' hb3 hb3' q0 q1 p0 p1 f0 f1 HCV HB2 HS2 H
  refine hK.out _ _ ⟨r0, r1⟩ (fun hHeld => ?_); clear hK K; (try simp only [Act.put, List.setIfInBounds_toArray, List.set_cons_zero, List.set_cons_succ])
  refine wpAnyH_ready (rs := [5]) (by kernel_rfl) (by simp) ?_; refine AllReadyH.cons (o := ⟨some 8, _, _, _, _, _⟩) rfl (fun K hK => ?_) AllReadyH.nil; go_simp
  go_at_call 86
  refine (HCR.out w3 (by omega) HS3.out.2).mono ?_
  rintro e w4 ⟨v4, rfl, ho, hb4⟩
  rw [← HE.out] at ho
  obtain ⟨A4, c4, rfl⟩ := ho.form
  have s0 := (hb4.cell (p := ⟨w.heap.size, 0, none⟩) (by show w.heap.size < w3.heap.size; omega)).trans r0
  have s1 := (hb4.cell (p := ⟨w.heap.size, 1, none⟩) (by show w.heap.size < w3.heap.size; omega)).trans r1
  have u0 := (hb4.cell (p := ⟨w.heap.size + 1, 0, none⟩) (by show w.heap.size + 1 < w3.heap.size; omega)).trans t0
  have u1 := (hb4.cell (p := ⟨w.heap.size + 1, 1, none⟩) (by show w.heap.size + 1 < w3.heap.size; omega)).trans t1
  have v0 := (hb4.frozen (p := ⟨w.heap.size + 1, 0, none⟩) (by show w.heap.size + 1 < w3.heap.size; omega)).trans g0
  have v1 := (hb4.frozen (p := ⟨w.heap.size + 1, 1, none⟩) (by show w.heap.size + 1 < w3.heap.size; omega)).trans g1
  have hlt3 := (HO3.out.lt g3 rfl)
  have HOE : Hid (OwE (w.heap.size + 2) w4.heap.size (some ⟨g3, 0, none⟩) n c3 A4 en c4 st w4) := OwE.join (mid := w3.heap.size) ⟨own_mono (own_below HO3.out hb4) (by omega), fun q hq => by cases hq; exact hlt3.2⟩ HN.out (ho.mono (Nat.le_refl _) (Nat.le_refl _)) (by omega) hb4.size
  have HB4 := Lib.hid (HB3.out.trans (hb4.mono (by omega)))
  have hs4 := hb4.size
  clear ho hb4 HB3 HS3 HCR t0 t1 g0 g1 r0 r1 hlt3
  refine hK.out _ _ ⟨s0, s1⟩ (fun hHeld => ?_); clear hK K; (try simp only [Act.put, List.setIfInBounds_toArray, List.set_cons_zero, List.set_cons_succ])
  refine wpAnyH_take (i := 6) (oi := ⟨some 9, _, _, _, _, _⟩) (v := ?_) rfl (by kernel_rfl) (by kernel_rfl) (by kernel_rfl) (fun _ _ _ h => h) (Or.inl ⟨by rfl, ?_⟩) (by assumption) ?_; rotate_left; (focus (intro w hSw; (try dsimp only at hSw); go_simp; (try with_reducible rfl))); (try simp only [Act.put, List.setIfInBounds_toArray, List.set_cons_zero, List.set_cons_succ])
  refine wpAnyH_ready (rs := [7]) (by kernel_rfl) (by simp) ?_; refine AllReadyH.cons (o := ⟨none, _, _, _, _, _⟩) rfl (fun K hK => ?_) AllReadyH.nil; go_simp
  have e0 : ((w4.setCell ⟨w.heap.size + 1, 0, none⟩ (.slice (some ⟨g3, 0, none⟩) n c3)).setCell ⟨w.heap.size + 1, 1, none⟩ (.slice A4 en c4)).cell? ⟨w.heap.size, 0, none⟩ = some (.slice A n c) := by rw [World.cell?_setCell_other _ _ _ _ (by simp), World.cell?_setCell_other _ _ _ _ (by simp)]; exact s0
  have e1 : ((w4.setCell ⟨w.heap.size + 1, 0, none⟩ (.slice (some ⟨g3, 0, none⟩) n c3)).setCell ⟨w.heap.size + 1, 1, none⟩ (.slice A4 en c4)).cell? ⟨w.heap.size, 1, none⟩ = some (.slice E en ec) := by rw [World.cell?_setCell_other _ _ _ _ (by simp), World.cell?_setCell_other _ _ _ _ (by simp)]; exact s1
  refine hK.out _ _ ⟨e0, e1⟩ (fun hHeld => ?_); clear hK K; (try simp only [Act.put, List.setIfInBounds_toArray, List.set_cons_zero, List.set_cons_succ])
  refine wpAnyH_done (by kernel_rfl) ?_ _
  go_wp2
  refine bodyPost_ret (v := .agg #[.slice (some ⟨g3, 0, none⟩) n c3, .slice A4 en c4]) (by simp [results, Tryz.results42, go_sem, u0, u1]) rfl ?_
  have o1 := HOE.out.setCell (a := ⟨w.heap.size + 1, 0, none⟩) (by simp) (.slice (some ⟨g3, 0, none⟩) n c3)
  have o2 := o1.setCell (a := ⟨w.heap.size + 1, 1, none⟩) (by simp) (.slice A4 en c4)
  refine ⟨_, _, _, _, _, _, rfl, ?_, (HB4.out.setCell (by simp) _).setCell (by simp) _⟩
  have o5 := o2.mono (lo' := w.heap.size) (hi' := w4.heap.size) (by omega) (Nat.le_refl _)
  simpa [World.setCell] using o5

/-- Returns a state that was written, and what ran. -/
def RetW (B : Nat) (A : Option Addr) (n cv : Nat) (Er : Option Addr) (cr : Nat) (w : World) (s : Ew) (e : Ending) (w' : World) : Prop := ∃ U R r d, e = .returned (.tuple #[.agg #[.slice A n cv, .slice Er n cr], .slice R r d]) ∧ WF B Er cr n U s.vs s.ch s.rn s.rs w' ∧ U[0]? = some (.slice A n cv) ∧ U[2]? = some (.slice R r d) ∧ Below B w w'
set_option maxRecDepth 100000 in
set_option maxHeartbeats 12800000 in
theorem spec_writes (A1 E1 E2 Av Er : Option Addr) (n c1 m d1 d2 cv cr : Nat) (gs : List Nd) (st : Eg) (xs ys : List Int) (U : List Value) (w : World) (B : Nat) (hB : B ≤ w.heap.size) (hn : n = gs.length) (hm : m = xs.length) (hg : GS w B A1 gs) (h1 : IS w B E1 xs) (h2 : IS w B E2 ys) (hW : WF B Er cr n U st.vs [] [] st.rs w) (hU0 : U[0]? = some (.slice Av n cv)) (hv : validE gs st = true) (hw : gwB gs xs ys = true) :
    Calls Tryz.prog 41 #[.agg #[.slice A1 n c1], .agg #[.slice Av n cv, .slice Er n cr], .slice E1 m d1, .slice E2 m d2] w fun e w' => RetW B Av n cv Er cr w (wB gs (wS gs st xs ys) gs.length) e w' := by
  obtain ⟨v1, v2, v3, v4, v5⟩ := validE_parts gs st hv
  obtain ⟨g1, g2, g3, g4, g5⟩ := gw_parts hw
  have hn10 : n ≤ 10 := by rw [hn]; exact (validG_parts gs v1).1
  have hok := wB_ok v1 (wS_ok hv hw)
  obtain ⟨i0, hi, hz0, hz1, hz2⟩ := info_parts info_int
  have HN := Lib.hid hn
  have HM := Lib.hid hm
  have HG := Lib.hid hg
  have H1 := Lib.hid h1
  have H2 := Lib.hid h2
  have HW := Lib.hid hW
  have HV1 := Lib.hid v1
  have HV2 := Lib.hid v2
  have HG1 := Lib.hid g1
  have HG4 := Lib.hid g4
  have HG5 := Lib.hid g5
  have HOK := Lib.hid hok
  have HCL : Hid (∀ k, k ≤ xs.length → (wA st.vs xs ys k).2.length ≤ 10) := fun k hk => by
    have h9 := wA_sub st.vs xs ys k hk
    have h8 : ∀ j, (wA st.vs xs ys j).2.length ≤ j := by
      intro j
      induction j with
      | zero => simp [wA]
      | succ j ih =>
        rw [wA]
        split
        · omega
        · rw [List.length_append]; simp; omega
    have := h8 k
    omega
  have HU0 := Lib.hid hU0
  have hm10 : m ≤ 10 := by omega
  clear hn hm hg h1 h2 hW hU0 hv hw v1 v2 v3 v4 v5 g1 g2 g3 g4 g5 hok
  go_enter Tryz.func41, Tryz.ntmps41
  go_wp2
  obtain ⟨W3, hW3⟩ : ∃ W, W = ((w.alloc (.cells #[.slice A1 n c1] 25)).alloc (.cells #[.slice Av n cv, .slice Er n cr] 29)).alloc (.cells #[.slice none 0 0, .slice none 0 0] 29) := ⟨_, rfl⟩
  have hB3 : B3 w.heap.size (.slice A1 n c1) (.slice Av n cv) (.slice Er n cr) W3 := by rw [hW3]; exact B3.new w _ _ _
  have hb3 : Below w.heap.size w W3 := by rw [hW3]; exact (((Below.refl _ _).alloc (Nat.le_refl _) _).alloc (by simp) _).alloc (by simp; omega) _
  have hs3 : W3.heap.size = w.heap.size + 3 := by rw [hW3]; simp
  have hF3 := HW.out.step hb3
  have hF4 := hF3.lit (J := 1) (.inl ⟨rfl, rfl⟩) (by omega)
  have hb4 : Below W3.heap.size W3 (W3.alloc (.cells #[] 3)) := (Below.refl _ _).alloc (Nat.le_refl _) _
  have HF4 := Lib.hid hF4
  have HB4 := Lib.hid (hB3.step hb4)
  have HL4 : Hid (Below B w (W3.alloc (.cells #[] 3))) := (hb3.mono hB).trans (hb4.mono (by omega))
  have hz4 : (W3.alloc (.cells #[] 3)).heap.size = w.heap.size + 4 := by simp [hs3]
  rw [← hW3]
  have HZ3 := Lib.hid hs3
  have HZ4 := Lib.hid hz4
  clear hB3 hb3 hs3 hF3 hF4 hb4 hz4 hW3
  generalize W3.alloc (.cells #[] 3) = W4 at *
  have HUL := HW.out.ul
  go_loopw [10, 11] (fun v u wr => ∃ (k : Nat) (U' : List Value) (Ac : Option Addr) (l cc : Nat), k ≤ m ∧ u = .int .i64 k ∧ v = .slice Ac l cc ∧ Hid (U'[0]? = some (.slice Av n cv)) ∧ Hid (U'[1]? = some (.slice Ac l cc)) ∧ Hid (U'[2]? = U[2]?) ∧ Hid (WF B Er cr n U' (wA st.vs xs ys k).1 (wA st.vs xs ys k).2 [] st.rs wr) ∧ Hid (B3 w.heap.size (.slice A1 n c1) (.slice Av n cv) (.slice Er n cr) wr) ∧ Hid (Below B w wr) ∧ w.heap.size + 4 ≤ wr.heap.size) (fun _ u _ => m - (intOf u).toNat)
  case atStart =>
    refine ⟨0, _, _, _, _, Nat.zero_le _, rfl, rfl, ?_, ?_, ?_, HF4.out, HB4.out, HL4.out, by have := HZ4.out; omega⟩
    · show (U.set 1 _)[0]? = _; rw [List.getElem?_set, if_neg (by omega)]; exact HU0.out
    · show (U.set 1 _)[1]? = _; rw [List.getElem?_set, if_pos rfl, if_pos (by omega), HZ3.out]
    · show (U.set 1 _)[2]? = _; rw [List.getElem?_set, if_neg (by omega)]
  case round =>
    obtain ⟨k, U', Ac, l, cc, hk, rfl, rfl, K0, K1, K2, HF, HB, HL, hwr⟩ := hrel
    by_cases hlt : k < m
    · obtain ⟨q, hq, hqn, hqk⟩ := isC_at (HG5.out k (by have := HM.out; omega))
      obtain ⟨b1, o1, hE1, hb1, x1⟩ := H1.out (by have := HM.out; omega)
      obtain ⟨b2, o2, hE2, hb2, x2⟩ := H2.out (by have := HM.out; have := HG1.out; omega)
      subst hE1
      subst hE2
      have y1 := (HL.out.cell (p := ⟨b1, o1 + k, none⟩) hb1).trans (x1 k (by have := HM.out; omega))
      have y2 := (HL.out.cell (p := ⟨b2, o2 + k, none⟩) hb2).trans (x2 k (by have := HM.out; have := HG1.out; omega))
      rw [hq] at y1
      have hqn' : q < n := by have := HN.out; omega
      obtain ⟨A0, m0, c0, a1, a2, a3⟩ := HF.out.at_ 0 (by omega)
      rw [K0.out] at a1
      cases a1
      obtain ⟨gv, hAv⟩ : ∃ gv, Av = some ⟨gv, 0, none⟩ := by obtain ⟨g, cap, e⟩ := row_form2 a3 (by omega); simp only [Value.slice.injEq] at e; exact ⟨g, e.1⟩
      subst hAv
      have hvl : (wA st.vs xs ys k).1.length = n := by rw [wA_len, HV2.out]; exact HN.out.symm
      have hstep := wA_step (vs := st.vs) (xs := xs) (ys := ys) k
      have hcond : wA st.vs xs ys (k + 1) = if (wA st.vs xs ys k).1.getD q 0 = ys.getD k 0 then wA st.vs xs ys k else ((wA st.vs xs ys k).1.set q (ys.getD k 0), (wA st.vs xs ys k).2 ++ [(q : Int)]) := by
        have h9 : wA st.vs xs ys (k + 1) = if (wA st.vs xs ys k).1.getD (xs.getD k 0).toNat 0 = ys.getD k 0 then wA st.vs xs ys k else ((wA st.vs xs ys k).1.set (xs.getD k 0).toNat (ys.getD k 0), (wA st.vs xs ys k).2 ++ [xs.getD k 0]) := rfl
        rw [hq] at h9
        exact h9
      have hgv := a3.lt gv rfl
      have z0 : wr.cell? ⟨gv, q, none⟩ = some (.int .i64 ((wA st.vs xs ys k).1.getD q 0)) := by
        have := a3.cellAt q (by omega)
        rw [this]
        simp [rowOf, List.getD, show q < (wA st.vs xs ys k).1.length by omega]
      have zf := a3.frozenAt q
      have s0 := HB.out.c1.c 0 _ rfl
      have hcl10 := HCL.out k (by have := HM.out; omega)
      obtain ⟨z, hz⟩ : ∃ z, z = (wA st.vs xs ys k).1.getD q 0 := ⟨_, rfl⟩
      rw [← hz] at z0 hcond
      clear hz
      generalize wA st.vs xs ys k = S at *
      generalize ys.getD k 0 = y at *
      have HC := Lib.hid hcond
      have hbs : w.heap.size + 1 < wr.heap.size := by omega
      have hgB : gv ≠ w.heap.size ∧ gv ≠ w.heap.size + 1 ∧ gv ≠ w.heap.size + 2 := by
        have e0 := HF.out.tag (J := 0) (by omega) K0.out HB.out.t0 (by decide)
        have e1 := HF.out.tag (J := 0) (by omega) K0.out HB.out.t1 (by decide)
        have e2 := HF.out.tag (J := 0) (by omega) K0.out HB.out.t2 (by decide)
        simp [Value.ownBlock] at e0 e1 e2
        exact ⟨e0, e1, e2⟩
      have hki : (k : Int) < (m : Int) := by omega
      have hqi : (q : Int) < (n : Int) := by omega
      clear x1 x2 hstep hcond a2 a3 hq hqk hqn
      go_upto_region 5 with fail
      refine wp_region_held_drew (S := fun w' => w'.cell? ⟨w.heap.size + 1, 0, none⟩ = some (.slice (some ⟨gv, 0, none⟩) n cv) ∧ w'.cell? ⟨b1, o1 + k, none⟩ = some (.int .i64 (q : Int)) ∧ w'.cell? ⟨b2, o2 + k, none⟩ = some (.int .i64 y) ∧ w'.cell? ⟨gv, q, none⟩ = some (.int .i64 z)) (by kernel_rfl) ⟨s0, y1, y2, z0⟩ (fun hHeld => ?_)
      refine wpAnyH_take (i := 0) (oi := ⟨some 23, _, _, _, _, _⟩) (v := ?_) rfl (by kernel_rfl) (by kernel_rfl) (by kernel_rfl) (fun _ _ _ h => h) (Or.inl ⟨by rfl, ?_⟩) (by assumption) ?_; rotate_left; (focus (intro w hSw; (try dsimp only at hSw); go_simp; (try with_reducible rfl))); (try simp only [Act.put, List.setIfInBounds_toArray, List.set_cons_zero, List.set_cons_succ])
      refine wpAnyH_take (i := 1) (oi := ⟨some 24, _, _, _, _, _⟩) (v := ?_) rfl (by kernel_rfl) (by kernel_rfl) (by kernel_rfl) (fun _ _ _ h => h) (Or.inl ⟨by rfl, ?_⟩) (by assumption) ?_; rotate_left; (focus (intro w hSw; (try dsimp only at hSw); go_simp; (try with_reducible rfl))); (try simp only [Act.put, List.setIfInBounds_toArray, List.set_cons_zero, List.set_cons_succ])
      refine wpAnyH_take (i := 2) (oi := ⟨some 25, _, _, _, _, _⟩) (v := ?_) rfl (by kernel_rfl) (by kernel_rfl) (by kernel_rfl) (fun _ _ _ h => h) (Or.inl ⟨by rfl, ?_⟩) (by assumption) ?_; rotate_left; (focus (intro w hSw; (try dsimp only at hSw); go_simp; (try with_reducible rfl))); (try simp only [Act.put, List.setIfInBounds_toArray, List.set_cons_zero, List.set_cons_succ])
      refine wpAnyH_take (i := 3) (oi := ⟨some 26, _, _, _, _, _⟩) (v := ?_) rfl (by kernel_rfl) (by kernel_rfl) (by kernel_rfl) (fun _ _ _ h => h) (Or.inl ⟨by rfl, ?_⟩) (by assumption) ?_; rotate_left; (focus (intro w hSw; (try dsimp only at hSw); go_simp; (try with_reducible rfl))); (try simp only [Act.put, List.setIfInBounds_toArray, List.set_cons_zero, List.set_cons_succ])
      refine wpAnyH_take (i := 4) (oi := ⟨some 27, _, _, _, _, _⟩) (v := ?_) rfl (by kernel_rfl) (by kernel_rfl) (by kernel_rfl) (fun _ _ _ h => h) (Or.inl ⟨by rfl, ?_⟩) (by assumption) ?_; rotate_left; (focus (intro w hSw; (try dsimp only at hSw); go_simp; (try with_reducible rfl))); (try simp only [Act.put, List.setIfInBounds_toArray, List.set_cons_zero, List.set_cons_succ])
      refine wpAnyH_take (i := 5) (oi := ⟨some 28, _, _, _, _, _⟩) (v := ?_) rfl (by kernel_rfl) (by kernel_rfl) (by kernel_rfl) (fun _ _ _ h => h) (Or.inl ⟨by rfl, ?_⟩) (by assumption) ?_; rotate_left; (focus (intro w hSw; (try dsimp only at hSw); go_simp; (try with_reducible rfl))); (try simp only [Act.put, List.setIfInBounds_toArray, List.set_cons_zero, List.set_cons_succ])
      refine wpAnyH_take (i := 6) (oi := ⟨some 29, _, _, _, _, _⟩) (v := ?_) rfl (by kernel_rfl) (by kernel_rfl) (by kernel_rfl) (fun _ _ _ h => h) (Or.inl ⟨by rfl, ?_⟩) (by assumption) ?_; rotate_left; (focus (intro w hSw; (try dsimp only at hSw); go_simp; (try with_reducible rfl))); (try simp only [Act.put, List.setIfInBounds_toArray, List.set_cons_zero, List.set_cons_succ])
      refine wpAnyH_take (i := 7) (oi := ⟨some 30, _, _, _, _, _⟩) (v := ?_) rfl (by kernel_rfl) (by kernel_rfl) (by kernel_rfl) (fun _ _ _ h => h) (Or.inl ⟨by rfl, ?_⟩) (by assumption) ?_; rotate_left; (focus (intro w hSw; (try dsimp only at hSw); go_simp; (try with_reducible rfl))); (try simp only [Act.put, List.setIfInBounds_toArray, List.set_cons_zero, List.set_cons_succ])
      refine wpAnyH_take (i := 8) (oi := ⟨some 31, _, _, _, _, _⟩) (v := ?_) rfl (by kernel_rfl) (by kernel_rfl) (by kernel_rfl) (fun _ _ _ h => h) (Or.inl ⟨by rfl, ?_⟩) (by assumption) ?_; rotate_left; (focus (intro w hSw; (try dsimp only at hSw); go_simp; (try with_reducible rfl))); (try simp only [Act.put, List.setIfInBounds_toArray, List.set_cons_zero, List.set_cons_succ])
      refine wpAnyH_take (i := 9) (oi := ⟨some 32, _, _, _, _, _⟩) (v := ?_) rfl (by kernel_rfl) (by kernel_rfl) (by kernel_rfl) (fun _ _ _ h => h) (Or.inl ⟨by rfl, ?_⟩) (by assumption) ?_; rotate_left; (focus (intro w hSw; (try dsimp only at hSw); go_simp; (try with_reducible rfl))); (try simp only [Act.put, List.setIfInBounds_toArray, List.set_cons_zero, List.set_cons_succ])
      refine wpAnyH_take (i := 10) (oi := ⟨some 33, _, _, _, _, _⟩) (v := ?_) rfl (by kernel_rfl) (by kernel_rfl) (by kernel_rfl) (fun _ _ _ h => h) (Or.inl ⟨by rfl, ?_⟩) (by assumption) ?_; rotate_left; (focus (intro w hSw; (try dsimp only at hSw); go_simp; (try with_reducible rfl))); (try simp only [Act.put, List.setIfInBounds_toArray, List.set_cons_zero, List.set_cons_succ])
      refine wpAnyH_take (i := 11) (oi := ⟨some 34, _, _, _, _, _⟩) (v := ?_) rfl (by kernel_rfl) (by kernel_rfl) (by kernel_rfl) (fun _ _ _ h => h) (Or.inl ⟨by rfl, ?_⟩) (by assumption) ?_; rotate_left; (focus (intro w hSw; (try dsimp only at hSw); go_simp; (try with_reducible rfl))); (try simp only [Act.put, List.setIfInBounds_toArray, List.set_cons_zero, List.set_cons_succ])
      refine wpAnyH_take (i := 12) (oi := ⟨some 35, _, _, _, _, _⟩) (v := ?_) rfl (by kernel_rfl) (by kernel_rfl) (by kernel_rfl) (fun _ _ _ h => h) (Or.inl ⟨by rfl, ?_⟩) (by assumption) ?_; rotate_left; (focus (intro w hSw; (try dsimp only at hSw); go_simp; (try with_reducible rfl))); (try simp only [Act.put, List.setIfInBounds_toArray, List.set_cons_zero, List.set_cons_succ])
      refine wpAnyH_done (by kernel_rfl) ?_ _
      have HFd := Lib.hid (HF.out.step (Below.refl wr.heap.size wr).drew)
      have HBd := Lib.hid (HB.out.step (Below.refl wr.heap.size wr).drew)
      have HLd := Lib.hid (HL.out.drew)
      by_cases he : z = y
      · have hne : (z != y) = false := by rw [he]; simp
        rw [if_pos he] at HC
        clear he z0
        go_wp2
        go_roundw
        case rel => exact ⟨k + 1, U', Ac, l, cc, by omega, by go_num, rfl, K0.out, K1.out, K2.out, by rw [HC.out]; exact HFd.out, HBd.out, HLd.out, hwr⟩
        case measure => simp [intOf]; omega
      · have hne : (z != y) = true := by simpa using he
        rw [if_neg he] at HC
        clear he
        go_upto_region 6 with fail
        have z1 : wr.drew.cell? ⟨gv, q, none⟩ = some (.int .i64 z) := z0
        refine wp_region_held_drew (S := fun w' => w'.cell? ⟨w.heap.size + 1, 0, none⟩ = some (.slice (some ⟨gv, 0, none⟩) n cv) ∧ w'.cell? ⟨b1, o1 + k, none⟩ = some (.int .i64 (q : Int)) ∧ w'.cell? ⟨b2, o2 + k, none⟩ = some (.int .i64 y)) (by kernel_rfl) ⟨s0, y1, y2⟩ (fun hHeld => ?_)
        refine wpAnyH_take (i := 0) (oi := ⟨some 36, _, _, _, _, _⟩) (v := ?_) rfl (by kernel_rfl) (by kernel_rfl) (by kernel_rfl) (fun _ _ _ h => h) (Or.inl ⟨by rfl, ?_⟩) (by assumption) ?_; rotate_left; (focus (intro w hSw; (try dsimp only at hSw); go_simp; (try with_reducible rfl))); (try simp only [Act.put, List.setIfInBounds_toArray, List.set_cons_zero, List.set_cons_succ])
        refine wpAnyH_take (i := 1) (oi := ⟨some 37, _, _, _, _, _⟩) (v := ?_) rfl (by kernel_rfl) (by kernel_rfl) (by kernel_rfl) (fun _ _ _ h => h) (Or.inl ⟨by rfl, ?_⟩) (by assumption) ?_; rotate_left; (focus (intro w hSw; (try dsimp only at hSw); go_simp; (try with_reducible rfl))); (try simp only [Act.put, List.setIfInBounds_toArray, List.set_cons_zero, List.set_cons_succ])
        refine wpAnyH_take (i := 2) (oi := ⟨some 38, _, _, _, _, _⟩) (v := ?_) rfl (by kernel_rfl) (by kernel_rfl) (by kernel_rfl) (fun _ _ _ h => h) (Or.inl ⟨by rfl, ?_⟩) (by assumption) ?_; rotate_left; (focus (intro w hSw; (try dsimp only at hSw); go_simp; (try with_reducible rfl))); (try simp only [Act.put, List.setIfInBounds_toArray, List.set_cons_zero, List.set_cons_succ])
        refine wpAnyH_take (i := 3) (oi := ⟨some 39, _, _, _, _, _⟩) (v := ?_) rfl (by kernel_rfl) (by kernel_rfl) (by kernel_rfl) (fun _ _ _ h => h) (Or.inl ⟨by rfl, ?_⟩) (by assumption) ?_; rotate_left; (focus (intro w hSw; (try dsimp only at hSw); go_simp; (try with_reducible rfl))); (try simp only [Act.put, List.setIfInBounds_toArray, List.set_cons_zero, List.set_cons_succ])
        refine wpAnyH_take (i := 4) (oi := ⟨some 40, _, _, _, _, _⟩) (v := ?_) rfl (by kernel_rfl) (by kernel_rfl) (by kernel_rfl) (fun _ _ _ h => h) (Or.inl ⟨by rfl, ?_⟩) (by assumption) ?_; rotate_left; (focus (intro w hSw; (try dsimp only at hSw); go_simp; (try with_reducible rfl))); (try simp only [Act.put, List.setIfInBounds_toArray, List.set_cons_zero, List.set_cons_succ])
        refine wpAnyH_take (i := 5) (oi := ⟨some 41, _, _, _, _, _⟩) (v := ?_) rfl (by kernel_rfl) (by kernel_rfl) (by kernel_rfl) (fun _ _ _ h => h) (Or.inl ⟨by rfl, ?_⟩) (by assumption) ?_; rotate_left; (focus (intro w hSw; (try dsimp only at hSw); go_simp; (try with_reducible rfl))); (try simp only [Act.put, List.setIfInBounds_toArray, List.set_cons_zero, List.set_cons_succ])
        refine wpAnyH_take (i := 6) (oi := ⟨some 42, _, _, _, _, _⟩) (v := ?_) rfl (by kernel_rfl) (by kernel_rfl) (by kernel_rfl) (fun _ _ _ h => h) (Or.inl ⟨by rfl, ?_⟩) (by assumption) ?_; rotate_left; (focus (intro w hSw; (try dsimp only at hSw); go_simp; (try with_reducible rfl))); (try simp only [Act.put, List.setIfInBounds_toArray, List.set_cons_zero, List.set_cons_succ])
        refine wpAnyH_take (i := 7) (oi := ⟨some 43, _, _, _, _, _⟩) (v := ?_) rfl (by kernel_rfl) (by kernel_rfl) (by kernel_rfl) (fun _ _ _ h => h) (Or.inl ⟨by rfl, ?_⟩) (by assumption) ?_; rotate_left; (focus (intro w hSw; (try dsimp only at hSw); go_simp; (try with_reducible rfl))); (try simp only [Act.put, List.setIfInBounds_toArray, List.set_cons_zero, List.set_cons_succ])
        refine wpAnyH_take (i := 8) (oi := ⟨some 44, _, _, _, _, _⟩) (v := ?_) rfl (by kernel_rfl) (by kernel_rfl) (by kernel_rfl) (fun _ _ _ h => h) (Or.inl ⟨by rfl, ?_⟩) (by assumption) ?_; rotate_left; (focus (intro w hSw; (try dsimp only at hSw); go_simp; (try with_reducible rfl))); (try simp only [Act.put, List.setIfInBounds_toArray, List.set_cons_zero, List.set_cons_succ])
        refine wpAnyH_take (i := 9) (oi := ⟨some 45, _, _, _, _, _⟩) (v := ?_) rfl (by kernel_rfl) (by kernel_rfl) (by kernel_rfl) (fun _ _ _ h => h) (Or.inl ⟨by rfl, ?_⟩) (by assumption) ?_; rotate_left; (focus (intro w hSw; (try dsimp only at hSw); go_simp; (try with_reducible rfl))); (try simp only [Act.put, List.setIfInBounds_toArray, List.set_cons_zero, List.set_cons_succ])
        refine wpAnyH_take (i := 10) (oi := ⟨some 46, _, _, _, _, _⟩) (v := ?_) rfl (by kernel_rfl) (by kernel_rfl) (by kernel_rfl) (fun _ _ _ h => h) (Or.inl ⟨by rfl, ?_⟩) (by assumption) ?_; rotate_left; (focus (intro w hSw; (try dsimp only at hSw); go_simp; (try with_reducible rfl))); (try simp only [Act.put, List.setIfInBounds_toArray, List.set_cons_zero, List.set_cons_succ])
        refine wpAnyH_ready (rs := [11]) (by kernel_rfl) (by simp) ?_; refine AllReadyH.cons (o := ⟨none, _, _, _, _, _⟩) rfl (fun K hK => ?_) AllReadyH.nil; go_simp
        have HF5 := Lib.hid ((HFd.out.step (Below.refl wr.drew.heap.size wr.drew).drew).setV (q := q) (gv := gv) (by rw [K0.out]) y)
        have HB5 := Lib.hid ((HBd.out.step (Below.refl wr.drew.heap.size wr.drew).drew).set (p := ⟨gv, q, none⟩) (by show gv < w.heap.size ∨ w.heap.size + 2 < gv; omega) (.int .i64 y))
        have HL5 := Lib.hid ((HLd.out.drew).setCell (p := ⟨gv, q, none⟩) hgv.1 (.int .i64 y))
        have hz5 : (wr.drew.drew.setCell ⟨gv, q, none⟩ (.int .i64 y)).heap.size = wr.heap.size := by simp [World.setCell]
        have HZ5 := Lib.hid hz5
        have t0 : (wr.drew.drew.setCell ⟨gv, q, none⟩ (.int .i64 y)).cell? ⟨w.heap.size + 1, 0, none⟩ = some (.slice (some ⟨gv, 0, none⟩) n cv) := HB5.out.c1.c 0 _ rfl
        have t1 : (wr.drew.drew.setCell ⟨gv, q, none⟩ (.int .i64 y)).cell? ⟨b1, o1 + k, none⟩ = some (.int .i64 (q : Int)) := (World.cell?_setCell_other _ _ _ _ (by intro e; have := congrArg Addr.block e; dsimp only at this; omega)).trans y1
        have t2 : (wr.drew.drew.setCell ⟨gv, q, none⟩ (.int .i64 y)).cell? ⟨b2, o2 + k, none⟩ = some (.int .i64 y) := (World.cell?_setCell_other _ _ _ _ (by intro e; have := congrArg Addr.block e; dsimp only at this; omega)).trans y2
        clear hz5
        refine hK.out _ _ ⟨t0, t1, t2⟩ (fun hHeld => ?_); clear hK K; (try simp only [Act.put, List.setIfInBounds_toArray, List.set_cons_zero, List.set_cons_succ])
        refine wpAnyH_done (by kernel_rfl) ?_ _
        obtain ⟨W5, hW5⟩ : ∃ W, W = (wr.setCell ⟨gv, q, none⟩ (.int .i64 y)).drew.drew := ⟨_, rfl⟩
        rw [← hW5]
        have e5 : wr.drew.drew.setCell ⟨gv, q, none⟩ (.int .i64 y) = W5 := by rw [hW5]; rfl
        rw [e5] at HF5 HB5 HL5 HZ5 t0 t1 t2
        clear e5
        obtain ⟨A6, m6, c6, a1, a2, a3⟩ := HF5.out.at_ 1 (by omega)
        rw [K1.out] at a1
        cases a1
        have HA2 := Lib.hid a2
        have hsl : l ≤ 10 := by rw [a2]; simpa [lenOf] using hcl10
        have HRW := Lib.hid (own_below a3 ((Below.refl W5.heap.size W5).alloc (Nat.le_refl _) (.cells #[.int .i64 (q : Int)] 3)))
        have hwz : B ≤ W5.heap.size := by have := HZ5.out; omega
        clear hW5 a2 a3 y1 y2 z0 z1 zf hne HFd HBd HLd t0 t2 s0
        go_wp2_with (at_builtin; refine wpList_append_own_at _ rfl _ _ 26 rfl B 3 i0 (.int .i64 0) 1 8 Tryz.underlying26 hi hz0 hz1 hz2 rfl (by decide) _ _ _ rfl HRW.out ⟨W5.heap.size, 0, none⟩ 1 1 [.int .i64 (q : Int)] rfl rfl (cell_one_new W5 _ _) (by intro u hu; obtain rfl := List.mem_singleton.1 hu; rfl) (by unfold maxLen; omega) (by omega) (by simp; omega) ?_)
        intro v6 W6 hown6 hgr6 _ hbl6
        obtain ⟨A7, c7, hv6⟩ := row_form' hown6
        subst hv6
        have hb5 : Below W5.heap.size W5 (W5.alloc (.cells #[.int .i64 (q : Int)] 3)) := (Below.refl _ _).alloc (Nat.le_refl _) _
        have HF6 := Lib.hid (HF5.out.app (J := 1) (o := .cells #[.int .i64 (q : Int)] 3) (x := (q : Int)) (.inl ⟨rfl, rfl, rfl⟩) K1.out hown6 (by rw [← HA2.out]) hgr6 (by rw [World.size_alloc]; exact hbl6))
        have HB6 := Lib.hid ((HB5.out.step hb5).grown hgr6 ⟨(HF5.out.step hb5).tag (J := 1) (by omega) K1.out (HB5.out.step hb5).t0 (by decide), (HF5.out.step hb5).tag (J := 1) (by omega) K1.out (HB5.out.step hb5).t1 (by decide), (HF5.out.step hb5).tag (J := 1) (by omega) K1.out (HB5.out.step hb5).t2 (by decide)⟩)
        have hlt6 := HRW.out.lt
        have HL6 := Lib.hid ((HL5.out.alloc hwz (.cells #[.int .i64 (q : Int)] 3)).grown hgr6 (by simp; omega) (fun r e => (hlt6 r e).1))
        have hs6 : w.heap.size + 4 ≤ W6.heap.size := by have := hgr6.size; simp at this; have := HZ5.out; omega
        clear hown6 hgr6 hbl6 hb5 hlt6 HRW HF5 HB5 HL5
        go_wp2
        go_roundw
        case rel =>
          refine ⟨k + 1, _, _, _, _, by omega, by go_num, rfl, ?_, ?_, ?_, by rw [HC.out]; exact HF6.out, HB6.out, HL6.out, hs6⟩
          · show (U'.set 1 _)[0]? = _; rw [List.getElem?_set, if_neg (by omega)]; exact K0.out
          · show (U'.set 1 _)[1]? = _; rw [List.getElem?_set, if_pos rfl, if_pos (by have := HF.out.ul; omega)]
          · show (U'.set 1 _)[2]? = _; rw [List.getElem?_set, if_neg (by omega)]; exact K2.out
        case measure => simp [intOf]; omega
    · obtain rfl : k = m := by omega
      clear hlt
      obtain ⟨wo, rfl⟩ : ∃ wo : World, wo = wr := ⟨_, rfl⟩
      have HM2 : Hid (WF B Er cr n U' (wS gs st xs ys).vs (wS gs st xs ys).ch [] (wS gs st xs ys).rs wo) := by
        have h9 := HF.out
        rw [HM.out] at h9
        exact h9
      have hbA : Below wo.heap.size wo (wo.alloc (.cells #[] 3)) := (Below.refl _ _).alloc (Nat.le_refl _) _
      have HFA := Lib.hid (HM2.out.lit (J := 2) (.inr ⟨rfl, rfl⟩) (by omega))
      have HBA := Lib.hid (HB.out.step hbA)
      have HLA := Lib.hid (HL.out.trans (hbA.mono (by omega)))
      have hsA : wo.heap.size + 1 = (wo.alloc (.cells #[] 3)).heap.size := by simp
      have HSA := Lib.hid hsA
      have HUL' := Lib.hid HF.out.ul
      clear HM2 HF HB HL hbA hsA
      go_wp2
      obtain ⟨S0, hS0⟩ : ∃ S, S = wS gs st xs ys := ⟨_, rfl⟩
      rw [← hS0] at HFA HOK
      have HS0 := Lib.hid hS0
      clear hS0
      go_loopw [10, 12, 13] (fun v r u wr => ∃ (i : Nat) (U2 : List Value) (Ac : Option Addr) (l cc : Nat) (Rc : Option Addr) (rl rcap : Nat), i ≤ n ∧ u = .int .i64 i ∧ v = .slice Ac l cc ∧ r = .slice Rc rl rcap ∧ Hid (U2[0]? = some (.slice Av n cv)) ∧ Hid (U2[1]? = some (.slice Ac l cc)) ∧ Hid (U2[2]? = some (.slice Rc rl rcap)) ∧ Hid (WF B Er cr n U2 (wB gs S0 i).vs (wB gs S0 i).ch (wB gs S0 i).rn (wB gs S0 i).rs wr) ∧ Hid (B3 w.heap.size (.slice A1 n c1) (.slice Av n cv) (.slice Er n cr) wr) ∧ Hid (Below B w wr) ∧ w.heap.size + 4 ≤ wr.heap.size) (fun _ _ u _ => n - (intOf u).toNat)
      case atStart =>
        refine ⟨0, _, _, _, _, _, _, _, Nat.zero_le _, rfl, rfl, rfl, ?_, ?_, ?_, (by have h9 := HFA.out; have hrn : S0.rn = [] := by { rw [HS0.out]; rfl }; rw [← hrn] at h9; exact h9), HBA.out, HLA.out, by have := HSA.out; omega⟩
        · show (U'.set 2 _)[0]? = _; rw [List.getElem?_set, if_neg (by omega)]; exact K0.out
        · show (U'.set 2 _)[1]? = _; rw [List.getElem?_set, if_neg (by omega)]; exact K1.out
        · show (U'.set 2 _)[2]? = _; rw [List.getElem?_set, if_pos rfl, if_pos (by have := HUL'.out; omega)]
      case round =>
        obtain ⟨i, U2, Ac2, l2, cc2, Rc, rl, rcap, hi9, rfl, rfl, rfl, J0, J1, J2, HF, HB, HL, hwr⟩ := hrel
        have s0 := HB.out.c0.c 0 _ rfl
        by_cases hlt : i < n
        · have hin : i < gs.length := by have := HN.out; omega
          obtain ⟨b9, o9, hA1, hb9, hNd⟩ := HG.out.at_ i hin
          subst hA1
          obtain ⟨n0, Af, nf, cf, n1, hnf, hps⟩ := hNd
          have y0 := (HL.out.cell (p := ⟨b9, o9 + i * 2, none⟩) hb9).trans n0
          have y1 := (HL.out.cell (p := ⟨b9, o9 + i * 2 + 1, none⟩) hb9).trans n1
          have HPS := Lib.hid ((hps.below HL.out (Nat.le_refl _)).more (B' := wr.heap.size) (by omega))
          have HNF := Lib.hid hnf
          have HN1 := Lib.hid n1
          have HGF := Lib.hid fun (w' : World) (hb : Below B w w') => (hps.below hb (Nat.le_refl _)).more (B' := w'.heap.size) (by have := hb.size; omega)
          have hio : (i : Int) < (n : Int) := by omega
          have hsucc := wB_succ gs S0 i
          have hokI := HOK.out i (by omega)
          have hVal := fun (hk : ((gs.getD i default).k == 0) = false) => eager_canEv gs (wB gs S0 i).vs i HV1.out hokI.vl hokI.vr hin hk
          have HOKI := Lib.hid hokI
          generalize wB gs S0 i = s at *
          have HSU := Lib.hid hsucc
          have hbs : w.heap.size + 1 < wr.heap.size := by omega
          have s1 := HB.out.c1.c 1 _ rfl
          have s2 := HB.out.c1.c 0 _ rfl
          clear n0 n1 hps hnf hsucc hokI
          cases hk : ((gs.getD i default).k == 0)
          case true =>
            have HSX : Hid (wB gs S0 (i + 1) = s) := by
              have h9 := HSU.out
              have : wGo gs s i = false := by unfold wGo; rw [hk]; rfl
              rw [this] at h9
              exact h9
            generalize (gs.getD i default).k = kq at *
            clear hVal HSU hin s1 s2 y1
            go_wp2
            go_roundw
            case rel => exact ⟨i + 1, U2, _, _, _, _, _, _, by omega, by go_num, rfl, rfl, J0.out, J1.out, J2.out, by rw [HSX.out]; exact HF.out, HB.out, HL.out, hwr⟩
            case measure => simp [intOf]; omega
          case false =>
            have HVAL := Lib.hid (hVal hk)
            obtain ⟨gr, hEr⟩ : ∃ gr, Er = some ⟨gr, 0, none⟩ := by obtain ⟨g, cap, e⟩ := row_form2 HF.out.top (by omega); simp only [Value.slice.injEq] at e; exact ⟨g, e.1⟩
            subst hEr
            obtain ⟨A2, m2, c2, z1, hm2, hI2⟩ := HF.out.reads i hlt
            obtain ⟨A6, m6, c6, a1, a2, a3⟩ := HF.out.at_ 1 (by omega)
            rw [J1.out] at a1
            cases a1
            have hl2 : l2 = s.ch.length := by rw [a2]; simp [lenOf]
            have hIC : IS wr wr.heap.size Ac2 s.ch := ints_of_own hl2 (by simpa [rowOf] using a3)
            have hcl := HOKI.out.chl
            have hrb := HOKI.out.rb i
            have HMT := Lib.hid (spec_meets A2 Ac2 m2 l2 c2 cc2 (s.rs.getD i []) s.ch wr wr.heap.size (Nat.le_refl _) hm2 hl2 hI2 hIC (by omega) (by omega))
            have hgo : wGo gs s i = meetB (s.rs.getD i []) s.ch := by unfold wGo; rw [hk]; rfl
            rw [← hgo] at HMT
            have HHK := Lib.hid hk
            have hl210 : l2 ≤ 20 := by omega
            have HL2 := Lib.hid hl2
            generalize hkq : (gs.getD i default).k = kq at *
            have HKQ := Lib.hid hkq
            clear a2 a3 hl2 hIC hcl hrb hI2 hm2 hgo hVal
            cases hg : wGo gs s i
            · rw [hg] at HMT
              have HSX : Hid (wB gs S0 (i + 1) = s) := by
                have h9 := HSU.out
                rw [hg] at h9
                exact h9
              clear hg HSU hkq hin
              go_wp2_with fail
              refine HMT.out.mono ?_
              rintro e w5 ⟨rfl, hb5⟩
              have HF5 := Lib.hid (HF.out.step hb5)
              have HB5 := Lib.hid (HB.out.step hb5)
              have HL5 := Lib.hid (HL.out.trans (hb5.mono (by omega)))
              have hw5 : w.heap.size + 4 ≤ w5.heap.size := by have := hb5.size; omega
              clear hb5
              go_wp2
              go_roundw
              case rel => exact ⟨i + 1, U2, _, _, _, _, _, _, by omega, by go_num, rfl, rfl, J0.out, J1.out, J2.out, by rw [HSX.out]; exact HF5.out, HB5.out, HL5.out, hw5⟩
              case measure => simp [intOf]; omega
            · rw [hg] at HMT
              have hg9 := Lib.hid hg
              clear hg hkq
              go_wp2_with fail
              refine HMT.out.mono ?_
              rintro e w5 ⟨rfl, hb5⟩
              have HF5 := Lib.hid (HF.out.step hb5)
              have HB5 := Lib.hid (HB.out.step hb5)
              have HL5 := Lib.hid (HL.out.trans (hb5.mono (by omega)))
              have HPS5 := Lib.hid ((HPS.out.below hb5 (Nat.le_refl _)).more (B' := w5.heap.size) hb5.size)
              have hw5 : w.heap.size + 4 ≤ w5.heap.size := by have := hb5.size; omega
              have t0 := (hb5.cell (p := ⟨b9, o9 + i * 2, none⟩) (by show b9 < wr.heap.size; omega)).trans y0
              have t1 := (hb5.cell (p := ⟨b9, o9 + i * 2 + 1, none⟩) (by show b9 < wr.heap.size; omega)).trans y1
              clear hb5 HF HB HL HPS HMT y0 y1 z1 s0 s1 s2
              -- one more that ran
              obtain ⟨A7, m7, c7, a1, a2, a3⟩ := HF5.out.at_ 2 (by omega)
              rw [J2.out] at a1
              cases a1
              have HA7 := Lib.hid a2
              have hrl10 : rl ≤ 10 := by rw [a2]; have := HOKI.out.rn; simp [lenOf]; omega
              have HRW := Lib.hid (own_below a3 ((Below.refl w5.heap.size w5).alloc (Nat.le_refl _) (.cells #[.int .i64 (i : Int)] 3)))
              have hwz : B ≤ w5.heap.size := by omega
              clear a2 a3
              go_wp2_with (at_builtin; refine wpList_append_own_at _ rfl _ _ 26 rfl B 3 i0 (.int .i64 0) 1 8 Tryz.underlying26 hi hz0 hz1 hz2 rfl (by decide) _ _ _ rfl HRW.out ⟨w5.heap.size, 0, none⟩ 1 1 [.int .i64 (i : Int)] rfl rfl (cell_one_new w5 _ _) (by intro u hu; obtain rfl := List.mem_singleton.1 hu; rfl) (by unfold maxLen; omega) (by omega) (by simp; omega) ?_)
              intro v6 W6 hown6 hgr6 _ hbl6
              obtain ⟨R6, rc6, hv6⟩ := row_form' hown6
              subst hv6
              have hb5 : Below w5.heap.size w5 (w5.alloc (.cells #[.int .i64 (i : Int)] 3)) := (Below.refl _ _).alloc (Nat.le_refl _) _
              have HF6 := Lib.hid (HF5.out.app (J := 2) (o := .cells #[.int .i64 (i : Int)] 3) (x := (i : Int)) (.inr ⟨rfl, rfl, rfl⟩) J2.out hown6 (by rw [← HA7.out]) hgr6 (by rw [World.size_alloc]; exact hbl6))
              have HB6 := Lib.hid ((HB5.out.step hb5).grown hgr6 ⟨(HF5.out.step hb5).tag (J := 2) (by omega) J2.out (HB5.out.step hb5).t0 (by decide), (HF5.out.step hb5).tag (J := 2) (by omega) J2.out (HB5.out.step hb5).t1 (by decide), (HF5.out.step hb5).tag (J := 2) (by omega) J2.out (HB5.out.step hb5).t2 (by decide)⟩)
              have hlt6 := HRW.out.lt
              have HL6 := Lib.hid ((HL5.out.alloc hwz (.cells #[.int .i64 (i : Int)] 3)).grown hgr6 (by simp; omega) (fun r e => (hlt6 r e).1))
              have hs6 : w.heap.size + 4 ≤ W6.heap.size := by have := hgr6.size; simp at this; omega
              have HU6 : Hid ((U2.set 2 (.slice R6 (rl + 1) rc6))[0]? = some (.slice Av n cv) ∧ (U2.set 2 (.slice R6 (rl + 1) rc6))[1]? = some (.slice Ac2 l2 cc2) ∧ (U2.set 2 (.slice R6 (rl + 1) rc6))[2]? = some (.slice R6 (rl + 1) rc6)) := by
                have hul := HF5.out.ul
                refine ⟨?_, ?_, ?_⟩
                · rw [List.getElem?_set, if_neg (by omega)]; exact J0.out
                · rw [List.getElem?_set, if_neg (by omega)]; exact J1.out
                · rw [List.getElem?_set, if_pos rfl, if_pos (by omega)]
              have HPS6 := Lib.hid (HGF.out W6 HL6.out)
              have t2 := (HL6.out.cell (p := ⟨b9, o9 + i * 2 + 1, none⟩) hb9).trans HN1.out
              clear hown6 hgr6 hbl6 hb5 hlt6 HRW HF5 HB5 HL5 HPS5 t0 t1
              generalize U2.set 2 (.slice R6 (rl + 1) rc6) = U6 at *
              -- the node runs
              obtain ⟨A0, m0, c0, a1, a2, a3⟩ := HF6.out.at_ 0 (by omega)
              rw [HU6.out.1] at a1
              cases a1
              obtain ⟨gv, hAv⟩ : ∃ gv, Av = some ⟨gv, 0, none⟩ := by obtain ⟨g, cap, e⟩ := row_form2 a3 (by omega); simp only [Value.slice.injEq] at e; exact ⟨g, e.1⟩
              subst hAv
              have hvl : n = s.vs.length := by rw [HOKI.out.vl]; exact HN.out
              have hIV : IS W6 W6.heap.size (some ⟨gv, 0, none⟩) s.vs := ints_of_own hvl (by simpa [rowOf] using a3)
              obtain ⟨cp1, cp2, cp3, cp4⟩ := canEv_parts _ _ HVAL.out
              have hgd := validF_good _ cp1
              have HRUN := Lib.hid (spec_run Af (some ⟨gv, 0, none⟩) nf cf n cv (gs.getD i default).ps s.vs W6.heap.size HNF.out hvl hgd.1 (by rw [hvl]; exact cp4) cp2 (by have := HNF.out; omega) (by have := HNF.out; omega) (by omega) W6.drew (Nat.le_refl _) HPS6.out hIV)
              have hxv : valE gs s.vs i = (whole (gs.getD i default).ps).ev s.vs := by unfold valE; rw [HKQ.out, HHK.out]; rfl
              have hxd : depF gs s.vs i = firsts ((whole (gs.getD i default).ps).rds s.vs) := by unfold depF; rw [HKQ.out, HHK.out]; rfl
              rw [← hxv, ← hxd] at HRUN
              have hdl : (depF gs s.vs i).length ≤ 10 := eager_depF_bd gs s.vs HV1.out HOKI.out.vl i (by have := HN.out; omega)
              have HRC : Hid (wB gs S0 (i + 1) = wRun gs s i) := by
                have h9 := HSU.out
                rw [hg9.out] at h9
                exact h9
              have HRV : Hid (wRun gs s i = ⟨s.vs.set i (valE gs s.vs i), s.rs.set i (depF gs s.vs i), if valE gs s.vs i = s.vs.getD i 0 then s.ch else s.ch ++ [(i : Int)], s.rn ++ [(i : Int)]⟩) := rfl
              obtain ⟨X, hX⟩ : ∃ X, X = valE gs s.vs i := ⟨_, rfl⟩
              obtain ⟨D, hD⟩ : ∃ D, D = depF gs s.vs i := ⟨_, rfl⟩
              rw [← hX, ← hD] at HRUN HRV
              rw [← hD] at hdl
              have s0 := HB6.out.c0.c 0 _ rfl
              have s1 := HB6.out.c1.c 0 _ rfl
              have s2 := HB6.out.c1.c 1 _ rfl
              have HVL := Lib.hid hvl
              clear hxv hxd hX hD cp1 cp2 cp3 cp4 hgd hIV a2 a3 hvl HPS6 hin
              go_upto_region 14 with fail
              refine wp_region_held_drew (S := fun w' => w'.cell? ⟨w.heap.size, 0, none⟩ = some (.slice (some ⟨b9, o9, none⟩) n c1) ∧ w'.cell? ⟨b9, o9 + i * 2 + 1, none⟩ = some (.slice Af nf cf) ∧ w'.cell? ⟨w.heap.size + 1, 0, none⟩ = some (.slice (some ⟨gv, 0, none⟩) n cv)) (by kernel_rfl) ⟨s0, t2, s1⟩ (fun hHeld => ?_)
              refine wpAnyH_take (i := 0) (oi := ⟨some 84, _, _, _, _, _⟩) (v := ?_) rfl (by kernel_rfl) (by kernel_rfl) (by kernel_rfl) (fun _ _ _ h => h) (Or.inl ⟨by rfl, ?_⟩) (by assumption) ?_; rotate_left; (focus (intro w hSw; (try dsimp only at hSw); go_simp; (try with_reducible rfl))); (try simp only [Act.put, List.setIfInBounds_toArray, List.set_cons_zero, List.set_cons_succ])
              refine wpAnyH_take (i := 1) (oi := ⟨some 85, _, _, _, _, _⟩) (v := ?_) rfl (by kernel_rfl) (by kernel_rfl) (by kernel_rfl) (fun _ _ _ h => h) (Or.inl ⟨by rfl, ?_⟩) (by assumption) ?_; rotate_left; (focus (intro w hSw; (try dsimp only at hSw); go_simp; (try with_reducible rfl))); (try simp only [Act.put, List.setIfInBounds_toArray, List.set_cons_zero, List.set_cons_succ])
              refine wpAnyH_take (i := 2) (oi := ⟨some 86, _, _, _, _, _⟩) (v := ?_) rfl (by kernel_rfl) (by kernel_rfl) (by kernel_rfl) (fun _ _ _ h => h) (Or.inl ⟨by rfl, ?_⟩) (by assumption) ?_; rotate_left; (focus (intro w hSw; (try dsimp only at hSw); go_simp; (try with_reducible rfl))); (try simp only [Act.put, List.setIfInBounds_toArray, List.set_cons_zero, List.set_cons_succ])
              refine wpAnyH_take (i := 3) (oi := ⟨some 87, _, _, _, _, _⟩) (v := ?_) rfl (by kernel_rfl) (by kernel_rfl) (by kernel_rfl) (fun _ _ _ h => h) (Or.inl ⟨by rfl, ?_⟩) (by assumption) ?_; rotate_left; (focus (intro w hSw; (try dsimp only at hSw); go_simp; (try with_reducible rfl))); (try simp only [Act.put, List.setIfInBounds_toArray, List.set_cons_zero, List.set_cons_succ])
              refine wpAnyH_take (i := 4) (oi := ⟨some 88, _, _, _, _, _⟩) (v := ?_) rfl (by kernel_rfl) (by kernel_rfl) (by kernel_rfl) (fun _ _ _ h => h) (Or.inl ⟨by rfl, ?_⟩) (by assumption) ?_; rotate_left; (focus (intro w hSw; (try dsimp only at hSw); go_simp; (try with_reducible rfl))); (try simp only [Act.put, List.setIfInBounds_toArray, List.set_cons_zero, List.set_cons_succ])
              refine wpAnyH_take (i := 5) (oi := ⟨some 89, _, _, _, _, _⟩) (v := ?_) rfl (by kernel_rfl) (by kernel_rfl) (by kernel_rfl) (fun _ _ _ h => h) (Or.inl ⟨by rfl, ?_⟩) (by assumption) ?_; rotate_left; (focus (intro w hSw; (try dsimp only at hSw); go_simp; (try with_reducible rfl))); (try simp only [Act.put, List.setIfInBounds_toArray, List.set_cons_zero, List.set_cons_succ])
              refine wpAnyH_take (i := 6) (oi := ⟨some 90, _, _, _, _, _⟩) (v := ?_) rfl (by kernel_rfl) (by kernel_rfl) (by kernel_rfl) (fun _ _ _ h => h) (Or.inl ⟨by rfl, ?_⟩) (by assumption) ?_; rotate_left; (focus (intro w hSw; (try dsimp only at hSw); go_simp; (try with_reducible rfl))); (try simp only [Act.put, List.setIfInBounds_toArray, List.set_cons_zero, List.set_cons_succ])
              refine wpAnyH_take (i := 7) (oi := ⟨some 91, _, _, _, _, _⟩) (v := ?_) rfl (by kernel_rfl) (by kernel_rfl) (by kernel_rfl) (fun _ _ _ h => h) (Or.inl ⟨by rfl, ?_⟩) (by assumption) ?_; rotate_left; (focus (intro w hSw; (try dsimp only at hSw); go_simp; (try with_reducible rfl))); (try simp only [Act.put, List.setIfInBounds_toArray, List.set_cons_zero, List.set_cons_succ])
              refine wpAnyH_ready (rs := [8]) (by kernel_rfl) (by simp) ?_; refine AllReadyH.cons (o := ⟨some 92, _, _, _, _, _⟩) rfl (fun K hK => ?_) AllReadyH.nil; go_simp
              go_at_call 82
              refine HRUN.out.mono ?_
              rintro e w7 ⟨v7, rfl, ho7, hb7'⟩
              have hb7 : Below W6.heap.size W6 w7 := below_of_drew hb7'
              obtain ⟨g7, c7', rfl, hg7, -⟩ := ho7.form
              have hd7 : w7.ownsRow W6.heap.size 3 1 (.slice (some ⟨g7, 0, none⟩) D.length c7') D.length (D.map (Value.int .i64)) := ho7.1
              have hB7 := HB6.out.step hb7
              have r0 : w7.cell? ⟨w.heap.size, 0, none⟩ = some (.slice (some ⟨b9, o9, none⟩) n c1) := hB7.c0.c 0 _ rfl
              have r1 : w7.cell? ⟨w.heap.size + 1, 0, none⟩ = some (.slice (some ⟨gv, 0, none⟩) n cv) := hB7.c1.c 0 _ rfl
              have r2 : w7.cell? ⟨w.heap.size + 1, 1, none⟩ = some (.slice (some ⟨gr, 0, none⟩) n cr) := hB7.c1.c 1 _ rfl
              have r3 := (hb7.cell (p := ⟨b9, o9 + i * 2 + 1, none⟩) (by show b9 < W6.heap.size; have := HL6.out.size; omega)).trans t2
              obtain ⟨A8, m8, c8, z8, -, -⟩ := (HF6.out.step hb7).reads i hlt
              have zf8 := ((HF6.out.step hb7).cell i hlt).2
              have HF8 := Lib.hid (HF6.out.putR (i := i) hlt (by omega) hb7 hd7 rfl)
              have hgr8 := (HF6.out.step hb7).top.lt gr rfl
              have htg8 := own_tag (HF6.out.step hb7).top hB7.t0 (by decide)
              have htg9 := own_tag (HF6.out.step hb7).top hB7.t1 (by decide)
              have htg7 := own_tag (HF6.out.step hb7).top hB7.t2 (by decide)
              simp [Value.ownBlock] at htg8 htg9 htg7
              have HB8 := Lib.hid (hB7.set (p := ⟨gr, i, none⟩) (by show gr < w.heap.size ∨ w.heap.size + 2 < gr; omega) (.slice (some ⟨g7, 0, none⟩) D.length c7'))
              have HL8 := Lib.hid ((HL6.out.trans (hb7.mono (by omega))).setCell (p := ⟨gr, i, none⟩) hgr8.1 (.slice (some ⟨g7, 0, none⟩) D.length c7'))
              have hw8 : w.heap.size + 4 ≤ w7.heap.size := by have := hb7.size; omega
              have hz8 : (w7.setCell ⟨gr, i, none⟩ (.slice (some ⟨g7, 0, none⟩) D.length c7')).heap.size = w7.heap.size := by simp [World.setCell]
              have HZ8 := Lib.hid hz8
              have hgrw : gr < w7.heap.size := hgr8.2
              clear ho7 hb7' hd7 hb7 hB7 HF6 HB6 HL6 hz8 htg8 htg9 htg7 t2 s0 s1 s2 HRUN hg7
              refine hK.out _ _ ⟨r0, r3, r1⟩ (fun hHeld => ?_); clear hK K; (try simp only [Act.put, List.setIfInBounds_toArray, List.set_cons_zero, List.set_cons_succ])
              refine wpAnyH_take (i := 9) (oi := ⟨some 83, _, _, _, _, _⟩) (v := ?_) rfl (by kernel_rfl) (by kernel_rfl) (by kernel_rfl) (fun _ _ _ h => h) (Or.inl ⟨by rfl, ?_⟩) (by assumption) ?_; rotate_left; (focus (intro w hSw; (try dsimp only at hSw); go_simp; (try with_reducible rfl))); (try simp only [Act.put, List.setIfInBounds_toArray, List.set_cons_zero, List.set_cons_succ])
              refine wpAnyH_take (i := 10) (oi := ⟨some 93, _, _, _, _, _⟩) (v := ?_) rfl (by kernel_rfl) (by kernel_rfl) (by kernel_rfl) (fun _ _ _ h => h) (Or.inl ⟨by rfl, ?_⟩) (by assumption) ?_; rotate_left; (focus (intro w hSw; (try dsimp only at hSw); go_simp; (try with_reducible rfl))); (try simp only [Act.put, List.setIfInBounds_toArray, List.set_cons_zero, List.set_cons_succ])
              refine wpAnyH_take (i := 11) (oi := ⟨some 94, _, _, _, _, _⟩) (v := ?_) rfl (by kernel_rfl) (by kernel_rfl) (by kernel_rfl) (fun _ _ _ h => h) (Or.inl ⟨by rfl, ?_⟩) (by assumption) ?_; rotate_left; (focus (intro w hSw; (try dsimp only at hSw); go_simp; (try with_reducible rfl))); (try simp only [Act.put, List.setIfInBounds_toArray, List.set_cons_zero, List.set_cons_succ])
              refine wpAnyH_take (i := 12) (oi := ⟨some 14, _, _, _, _, _⟩) (v := ?_) rfl (by kernel_rfl) (by kernel_rfl) (by kernel_rfl) (fun _ _ _ h => h) (Or.inl ⟨by rfl, ?_⟩) (by assumption) ?_; rotate_left; (focus (intro w hSw; (try dsimp only at hSw); go_simp; (try with_reducible rfl))); (try simp only [Act.put, List.setIfInBounds_toArray, List.set_cons_zero, List.set_cons_succ])
              refine wpAnyH_take (i := 13) (oi := ⟨some 15, _, _, _, _, _⟩) (v := ?_) rfl (by kernel_rfl) (by kernel_rfl) (by kernel_rfl) (fun _ _ _ h => h) (Or.inl ⟨by rfl, ?_⟩) (by assumption) ?_; rotate_left; (focus (intro w hSw; (try dsimp only at hSw); go_simp; (try with_reducible rfl))); (try simp only [Act.put, List.setIfInBounds_toArray, List.set_cons_zero, List.set_cons_succ])
              refine wpAnyH_done (by kernel_rfl) ?_ _
              have hgrl : gr < w7.heap.size := hgrw
              go_upto_region 16 with fail
              obtain ⟨W8, hW8⟩ : ∃ W, W = w7.setCell ⟨gr, i, none⟩ (.slice (some ⟨g7, 0, none⟩) D.length c7') := ⟨_, rfl⟩
              rw [← hW8] at HF8 HB8 HL8 HZ8 ⊢
              clear hW8 z8 zf8 r0 r1 r2 r3
              obtain ⟨A0, m0, c0, a1, a2, a3⟩ := HF8.out.at_ 0 (by omega)
              rw [List.getElem?_set, if_neg (by omega), HU6.out.1] at a1
              cases a1
              obtain ⟨z, hz⟩ : ∃ z, z = s.vs.getD i 0 := ⟨_, rfl⟩
              have z0 : W8.cell? ⟨gv, i, none⟩ = some (.int .i64 z) := by
                have h9 := a3.cellAt i (by have := HVL.out; omega)
                rw [h9, hz]
                have hil : i < s.vs.length := by have := HVL.out; omega
                simp [rowOf, List.getD, hil]
              have zf := a3.frozenAt i
              have hgv := a3.lt gv rfl
              have s1 : W8.cell? ⟨w.heap.size + 1, 0, none⟩ = some (.slice (some ⟨gv, 0, none⟩) n cv) := HB8.out.c1.c 0 _ rfl
              have hw9 : w.heap.size + 4 ≤ W8.heap.size := by have := HZ8.out; omega
              have hbs8 : w.heap.size + 1 < W8.heap.size := by omega
              rw [← hz] at HRV
              have HVZ := Lib.hid hz
              have HUZ : Hid ((U6.set (i + 3) (.slice (some ⟨g7, 0, none⟩) D.length c7'))[0]? = some (.slice (some ⟨gv, 0, none⟩) n cv) ∧ (U6.set (i + 3) (.slice (some ⟨g7, 0, none⟩) D.length c7'))[1]? = some (.slice Ac2 l2 cc2) ∧ (U6.set (i + 3) (.slice (some ⟨g7, 0, none⟩) D.length c7'))[2]? = some (.slice R6 (rl + 1) rc6)) := by
                refine ⟨?_, ?_, ?_⟩
                · rw [List.getElem?_set, if_neg (by omega)]; exact HU6.out.1
                · rw [List.getElem?_set, if_neg (by omega)]; exact HU6.out.2.1
                · rw [List.getElem?_set, if_neg (by omega)]; exact HU6.out.2.2
              have hgB : gv ≠ w.heap.size ∧ gv ≠ w.heap.size + 1 ∧ gv ≠ w.heap.size + 2 := by
                have e0 := HF8.out.tag (J := 0) (by omega) HUZ.out.1 HB8.out.t0 (by decide)
                have e1 := HF8.out.tag (J := 0) (by omega) HUZ.out.1 HB8.out.t1 (by decide)
                have e2 := HF8.out.tag (J := 0) (by omega) HUZ.out.1 HB8.out.t2 (by decide)
                simp [Value.ownBlock] at e0 e1 e2
                exact ⟨e0, e1, e2⟩
              generalize U6.set (i + 3) (.slice (some ⟨g7, 0, none⟩) D.length c7') = U8 at *
              clear a2 a3 hz
              by_cases he : X = z
              · have hne : (X != z) = false := by rw [he]; simp
                have HFIN : Hid (wB gs S0 (i + 1) = ⟨s.vs, s.rs.set i D, s.ch, s.rn ++ [(i : Int)]⟩) := by
                  rw [HRC.out, HRV.out, if_pos he, ws_same _ _ _ (by rw [he]; exact HVZ.out.symm)]
                  exact Lib.hid rfl
                clear he HRC HRV HSU
                go_wp2
                go_roundw
                case rel => exact ⟨i + 1, U8, _, _, _, _, _, _, by omega, by go_num, rfl, rfl, HUZ.out.1, HUZ.out.2.1, HUZ.out.2.2, by rw [HFIN.out]; exact HF8.out, HB8.out, HL8.out, hw9⟩
                case measure => simp [intOf]; omega
              · have hne : (X != z) = true := by simpa using he
                have HFIN : Hid (wB gs S0 (i + 1) = ⟨s.vs.set i X, s.rs.set i D, s.ch ++ [(i : Int)], s.rn ++ [(i : Int)]⟩) := by
                  rw [HRC.out, HRV.out, if_neg he]
                  exact Lib.hid rfl
                have HFS := Lib.hid (HF8.out.setV (q := i) (gv := gv) HUZ.out.1 X)
                have HBS := Lib.hid (HB8.out.set (p := ⟨gv, i, none⟩) (by show gv < w.heap.size ∨ w.heap.size + 2 < gv; omega) (.int .i64 X))
                have HLS := Lib.hid (HL8.out.setCell (p := ⟨gv, i, none⟩) hgv.1 (.int .i64 X))
                have hz9 : (W8.setCell ⟨gv, i, none⟩ (.int .i64 X)).heap.size = W8.heap.size := by simp [World.setCell]
                have HZ9 := Lib.hid hz9
                clear he HRC HRV HSU hz9 HF8 HB8 HL8
                go_upto_region 18 with fail
                obtain ⟨W9, hW9⟩ : ∃ W, W = W8.setCell ⟨gv, i, none⟩ (.int .i64 X) := ⟨_, rfl⟩
                rw [← hW9] at HFS HBS HLS HZ9 ⊢
                clear hW9 z0 zf s1 hne
                obtain ⟨A6, m6, c6, a1, a2, a3⟩ := HFS.out.at_ 1 (by omega)
                rw [HUZ.out.2.1] at a1
                cases a1
                have HA2 := Lib.hid a2
                have HRW := Lib.hid (own_below a3 ((Below.refl W9.heap.size W9).alloc (Nat.le_refl _) (.cells #[.int .i64 (i : Int)] 3)))
                have hwz9 : B ≤ W9.heap.size := by have := HZ9.out; omega
                clear a2 a3
                go_wp2_with (at_builtin; refine wpList_append_own_at _ rfl _ _ 26 rfl B 3 i0 (.int .i64 0) 1 8 Tryz.underlying26 hi hz0 hz1 hz2 rfl (by decide) _ _ _ rfl HRW.out ⟨W9.heap.size, 0, none⟩ 1 1 [.int .i64 (i : Int)] rfl rfl (cell_one_new W9 _ _) (by intro u hu; obtain rfl := List.mem_singleton.1 hu; rfl) (by unfold maxLen; omega) (by omega) (by simp; omega) ?_)
                intro v10 W10 hown10 hgr10 _ hbl10
                obtain ⟨A10, c10, hv10⟩ := row_form' hown10
                subst hv10
                have hb9b : Below W9.heap.size W9 (W9.alloc (.cells #[.int .i64 (i : Int)] 3)) := (Below.refl _ _).alloc (Nat.le_refl _) _
                have HFT := Lib.hid (HFS.out.app (J := 1) (o := .cells #[.int .i64 (i : Int)] 3) (x := (i : Int)) (.inl ⟨rfl, rfl, rfl⟩) HUZ.out.2.1 hown10 (by rw [← HA2.out]) hgr10 (by rw [World.size_alloc]; exact hbl10))
                have HBT := Lib.hid ((HBS.out.step hb9b).grown hgr10 ⟨(HFS.out.step hb9b).tag (J := 1) (by omega) HUZ.out.2.1 (HBS.out.step hb9b).t0 (by decide), (HFS.out.step hb9b).tag (J := 1) (by omega) HUZ.out.2.1 (HBS.out.step hb9b).t1 (by decide), (HFS.out.step hb9b).tag (J := 1) (by omega) HUZ.out.2.1 (HBS.out.step hb9b).t2 (by decide)⟩)
                have hlt10 := HRW.out.lt
                have HLT := Lib.hid ((HLS.out.alloc hwz9 (.cells #[.int .i64 (i : Int)] 3)).grown hgr10 (by simp; omega) (fun r e => (hlt10 r e).1))
                have hs10 : w.heap.size + 4 ≤ W10.heap.size := by have := hgr10.size; simp at this; have := HZ9.out; omega
                have HUT : Hid ((U8.set 1 (.slice A10 (l2 + 1) c10))[0]? = some (.slice (some ⟨gv, 0, none⟩) n cv) ∧ (U8.set 1 (.slice A10 (l2 + 1) c10))[1]? = some (.slice A10 (l2 + 1) c10) ∧ (U8.set 1 (.slice A10 (l2 + 1) c10))[2]? = some (.slice R6 (rl + 1) rc6)) := by
                  have hul := HFS.out.ul
                  refine ⟨?_, ?_, ?_⟩
                  · rw [List.getElem?_set, if_neg (by omega)]; exact HUZ.out.1
                  · rw [List.getElem?_set, if_pos rfl, if_pos (by omega)]
                  · rw [List.getElem?_set, if_neg (by omega)]; exact HUZ.out.2.2
                clear hown10 hgr10 hbl10 hb9b hlt10 HRW HFS HBS HLS
                go_wp2
                go_roundw
                case rel => exact ⟨i + 1, _, _, _, _, _, _, _, by omega, by go_num, rfl, rfl, HUT.out.1, HUT.out.2.1, HUT.out.2.2, by rw [HFIN.out]; exact HFT.out, HBT.out, HLT.out, hs10⟩
                case measure => simp [intOf]; omega
        · obtain rfl : i = n := by omega
          clear hlt
          have s1 := HB.out.c1.c 0 _ rfl
          have s2 := HB.out.c1.c 1 _ rfl
          have s3 := HB.out.c2.c 0 _ rfl
          have s4 := HB.out.c2.c 1 _ rfl
          have f3 := HB.out.c2.f 0
          have f4 := HB.out.c2.f 1
          have hFF := (HF.out.setT HB.out.t2 (by decide) (by decide) 0 (.slice Av i cv)).setT (HB.out.t2.set ⟨w.heap.size + 2, 0, none⟩ (.slice Av i cv)) (by decide) (by decide) 1 (.slice Er i cr)
          have hLF := (HL.out.setCell (p := ⟨w.heap.size + 2, 0, none⟩) (by show B ≤ w.heap.size + 2; omega) (.slice Av i cv)).setCell (p := ⟨w.heap.size + 2, 1, none⟩) (by show B ≤ w.heap.size + 2; omega) (.slice Er i cr)
          have HFF := Lib.hid hFF
          have HLF := Lib.hid hLF
          have hz9 : w.heap.size + 2 < wr.heap.size := by omega
          have hz8 : w.heap.size + 1 < wr.heap.size := by omega
          clear hFF hLF HF HB HL
          go_wp2
          refine bodyPost_ret (v := .tuple #[.agg #[.slice Av i cv, .slice Er i cr], .slice Rc rl rcap]) (by simp [results, Tryz.results41, go_sem, s3, s4]) rfl ?_
          rw [← HN.out, ← HS0.out]
          exact ⟨U2, Rc, rl, rcap, rfl, HFF.out, J0.out, J2.out, HLF.out⟩
end Go.Proofs.YtgakgmkonmgblaaGreat
