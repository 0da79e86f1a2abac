/- spec.WriteEager: the standing contract. (Made by t41.py.) -/
import Derived.Test.YtgakgmkonmgblaaGreatA5
import Derived.Test.YtgakgmkonmgblaaGreatT40

namespace Go.Proofs.YtgakgmkonmgblaaGreat
set_option linter.unusedSimpArgs false
set_option linter.unusedVariables false
open Go.RowKit

theorem WF.mono {B B' n cr : Nat} {Er : Option Addr} {U : List Value} {vs ch rn : List Int} {rs : List (List Int)} {w : World} (h : WF B Er cr n U vs ch rn rs w) (hb : B' ≤ B) : WF B' Er cr n U vs ch rn rs w :=
  ⟨h.ul, h.rl, h.fam.mono hb (Nat.le_refl _), own_mono h.top hb⟩
theorem Bx.low {b C : Nat} {vs : List Value} {w w' : World} (h : Bx b vs w) (hb : Below C w w') (hC : b < C) : Bx b vs w' := h.below hb hC
theorem B3.low {h C : Nat} {g a b : Value} {w w' : World} (k : B3 h g a b w) (hb : Below C w w') (hC : h + 2 < C) : B3 h g a b w' :=
  ⟨k.c0.below hb (by omega), k.c1.below hb (by omega), k.c2.below hb hC, k.t0.below hb (by omega), k.t1.below hb (by omega), k.t2.below hb hC⟩
/-- Returns a state and numbers, in rows of one family. -/
def RetEW (w : World) (st : Eg) (ls : List Int) (e : Ending) (w' : World) : Prop := ∃ A n c E ec R r d U ch, e = .returned (.tuple #[.agg #[.slice A n c, .slice E n ec], .slice R r d]) ∧ n = st.vs.length ∧ WF w.heap.size E ec n U st.vs ch ls st.rs w' ∧ U[0]? = some (.slice A n c) ∧ U[2]? = some (.slice R r d) ∧ Below w.heap.size w w'
theorem RetEW.nil {w w' : World} (hb : Below w.heap.size w w') : RetEW w ⟨[], []⟩ [] (.returned (.tuple #[.agg #[.slice none 0 0, .slice none 0 0], .slice none 0 0])) w' :=
  ⟨_, _, _, _, _, _, _, _, [.slice none 0 0, .slice none 0 0, .slice none 0 0], [], rfl, rfl, ⟨rfl, rfl, ⟨fun j hj => by
    match j, hj with
    | 0, _ => exact ⟨none, 0, 0, rfl, by simp [lenOf], by simpa [rowOf] using OwR.nil _ _ _ _ _⟩
    | 1, _ => exact ⟨none, 0, 0, rfl, by simp [lenOf], by simpa [rowOf] using OwR.nil _ _ _ _ _⟩
    | 2, _ => exact ⟨none, 0, 0, rfl, by simp [lenOf], by simpa [rowOf] using OwR.nil _ _ _ _ _⟩, fun i j v u k _ h1 _ hv => by
    match i, h1 with
    | 0, h1 => simp at h1; subst h1; simp [Value.ownBlock] at hv
    | 1, h1 => simp at h1; subst h1; simp [Value.ownBlock] at hv
    | 2, h1 => simp at h1; subst h1; simp [Value.ownBlock] at hv⟩, World.ownsRow_nil _ _ _ _⟩, rfl, rfl, hb⟩

set_option maxRecDepth 100000 in
set_option maxHeartbeats 6400000 in
theorem top_spec_WriteEager (gs : List Nd) (st : Eg) (xs ys : List Int) (hG : GB gs) (hE : EB st) (hL : xs.length ≤ 1048576) (hL2 : ys.length ≤ 1048576) : ∀ (A : Option Addr) (n c : Nat) (A' : Option Addr) (m c' : Nat) (E : Option Addr) (p ec : Nat) (A2 : Option Addr) (m2 c2 : Nat) (A3 : Option Addr) (m3 c3 : Nat) (w : World), n = gs.length → n ≤ c → GS w w.heap.size A gs → m = st.vs.length → p = st.rs.length → ES w w.heap.size A' E st → m2 = xs.length → m2 ≤ c2 → IS w w.heap.size A2 xs → m3 = ys.length → m3 ≤ c3 → IS w w.heap.size A3 ys →
    Calls Tryz.prog 7 #[.agg #[.slice A n c], .agg #[.slice A' m c', .slice E p ec], .slice A2 m2 c2, .slice A3 m3 c3] w fun e w' => RetEW w (writeF gs st xs ys) (writeR gs st xs ys) e w' := by
  intro A n c A' m c' E p ec A2 m2 c2 A3 m3 c3 w hn hnc h hm hp h' hm2 hmc2 h2 hm3 hmc3 h3
  have HV := Lib.hid fun (w' : World) (hB : w.heap.size ≤ w'.heap.size) (h : GS w' w.heap.size A gs) (h' : ES w' w.heap.size A' E st) => spec_validEager A A' E n c m c' p ec gs st w' w.heap.size hB hn hm hp h h' hG hE
  have HGW := Lib.hid fun (w' : World) (h : GS w' w'.heap.size A gs) (h1 : IS w' w'.heap.size A2 xs) (h2 : IS w' w'.heap.size A3 ys) => spec_goodWrites A A2 A3 n c m2 c2 m3 c3 gs xs ys w' hn (by have := hG.1; omega) hm2 hmc2 hm3 (by omega) h h1 h2
  have HCP := Lib.hid fun (w' : World) (hB : w.heap.size ≤ w'.heap.size) (h' : ES w' w.heap.size A' E st) => spec_copyEager A' E m c' p ec st w' w.heap.size hB hm hp h' hE
  obtain ⟨W3, hW3⟩ : ∃ W, W = ((w.alloc (.cells #[.slice A n c] 25)).alloc (.cells #[.slice A' m c', .slice E p ec] 29)).alloc (.cells #[.slice none 0 0, .slice none 0 0] 29) := ⟨_, rfl⟩
  have hb3 : Below w.heap.size w W3 := by rw [hW3]; exact (((Below.refl _ _).alloc (Nat.le_refl _) _).alloc (by simp) _).alloc (by simp; omega) _
  have hs3 : W3.heap.size = w.heap.size + 3 := by rw [hW3]; simp
  have hX : B3 w.heap.size (.slice A n c) (.slice A' m c') (.slice E p ec) W3 := by rw [hW3]; exact B3.new w _ _ _
  have HG := Lib.hid h
  have HE := Lib.hid h'
  have H2 := Lib.hid h2
  have H3 := Lib.hid h3
  have HN := Lib.hid hn
  have HM := Lib.hid hm
  have HP := Lib.hid hp
  have HM2 := Lib.hid hm2
  have HM3 := Lib.hid hm3
  have HV3 := Lib.hid (HV.out W3 (by omega) (h.below hb3 (Nat.le_refl _)) (h'.below hb3 (Nat.le_refl _)))
  rw [hW3] at HV3
  have HW3 := Lib.hid hW3
  have HB3 := Lib.hid hb3
  have HX := Lib.hid hX
  have HS3 := Lib.hid hs3
  have hvp := fun (h : validE gs st = true) => validE_parts gs st h
  have hF : writeF gs st xs ys = if (validE gs st && gwB gs xs ys) = true then wrtE gs st xs ys else ⟨[], []⟩ := rfl
  have hR : writeR gs st xs ys = if (validE gs st && gwB gs xs ys) = true then wrtR gs st xs ys else [] := rfl
  rw [hF, hR]
  have HVP := Lib.hid hvp
  obtain ⟨v, hv⟩ : ∃ v, v = validE gs st := ⟨_, rfl⟩
  obtain ⟨u, hu⟩ : ∃ u, u = gwB gs xs ys := ⟨_, rfl⟩
  have HVV := Lib.hid hv
  have HUU := Lib.hid hu
  rw [← hv, ← hu]
  rw [← hv] at HV3
  rw [← hu] at HGW
  clear hW3 hb3 hs3 hX h h' h2 h3 hn hm hp hm2 hm3 hmc2 hmc3 hG hE hL hL2 hvp hF hR hv hu HV
  cases v
  · simp only [Bool.false_and, Bool.false_eq_true, if_false]
    go_enter Tryz.func7, Tryz.ntmps7
    go_wp2_with fail
    refine HV3.out.mono ?_
    rw [← HW3.out]
    rintro e w4 ⟨rfl, hb⟩
    have Y := HX.out.step hb
    have r1 := Y.c2.c 0 _ rfl
    have r2 := Y.c2.c 1 _ rfl
    have g1 := Y.c2.f 0
    have g2 := Y.c2.f 1
    have hs4 : w.heap.size + 3 ≤ w4.heap.size := by have := hb.size; have := HS3.out; omega
    have HB4 := Lib.hid (HB3.out.trans (hb.mono (by have := HS3.out; omega)))
    clear hb Y
    go_wp2
    refine bodyPost_ret (v := .tuple #[.agg #[.slice none 0 0, .slice none 0 0], .slice none 0 0]) (by simp [results, Tryz.results7, go_sem, r1, r2]) rfl ?_
    exact RetEW.nil ((HB4.out.setCell (by simp; omega) _).setCell (by simp; omega) _)
  · cases u
    · simp only [Bool.and_false, Bool.false_eq_true, if_false]
      go_enter Tryz.func7, Tryz.ntmps7
      go_wp2_with fail
      refine HV3.out.mono ?_
      rw [← HW3.out]
      rintro e w4 ⟨rfl, hb⟩
      have HX4 := Lib.hid (HX.out.step hb)
      have hs4 : w.heap.size + 3 ≤ w4.heap.size := by have := hb.size; have := HS3.out; omega
      have HB4 := Lib.hid (HB3.out.trans (hb.mono (by have := HS3.out; omega)))
      have p0 := HX4.out.c0.c 0 _ rfl
      clear hb
      go_wp2_with fail
      refine (HGW.out _ ((HG.out.below HB4.out (Nat.le_refl _)).more (by omega)) ((H2.out.below HB4.out (Nat.le_refl _)).more (by omega)) ((H3.out.below HB4.out (Nat.le_refl _)).more (by omega))).mono ?_
      rintro e w5 ⟨rfl, hb⟩
      have Y := HX4.out.step hb
      have r1 := Y.c2.c 0 _ rfl
      have r2 := Y.c2.c 1 _ rfl
      have g1 := Y.c2.f 0
      have g2 := Y.c2.f 1
      have hs5 : w.heap.size + 3 ≤ w5.heap.size := by have := hb.size; omega
      have HB5 := Lib.hid (HB4.out.trans (hb.mono (by omega)))
      clear hb Y p0
      go_wp2
      refine bodyPost_ret (v := .tuple #[.agg #[.slice none 0 0, .slice none 0 0], .slice none 0 0]) (by simp [results, Tryz.results7, go_sem, r1, r2]) rfl ?_
      exact RetEW.nil ((HB5.out.setCell (by simp; omega) _).setCell (by simp; omega) _)
    · simp only [Bool.and_true, if_true]
      obtain ⟨-, hvl, hrl, -, -⟩ := HVP.out HVV.out.symm
      have hmn : m = n := by have := HM.out; have := HN.out; omega
      have hpn : p = n := by have := HP.out; have := HN.out; omega
      subst hmn
      subst hpn
      go_enter Tryz.func7, Tryz.ntmps7
      go_wp2_with fail
      refine HV3.out.mono ?_
      rw [← HW3.out]
      rintro e w4 ⟨rfl, hb⟩
      have HX4 := Lib.hid (HX.out.step hb)
      have hs4 : w.heap.size + 3 ≤ w4.heap.size := by have := hb.size; have := HS3.out; omega
      have HB4 := Lib.hid (HB3.out.trans (hb.mono (by have := HS3.out; omega)))
      have p0 := HX4.out.c0.c 0 _ rfl
      clear hb hvl hrl
      go_wp2_with fail
      refine (HGW.out _ ((HG.out.below HB4.out (Nat.le_refl _)).more (by omega)) ((H2.out.below HB4.out (Nat.le_refl _)).more (by omega)) ((H3.out.below HB4.out (Nat.le_refl _)).more (by omega))).mono ?_
      rintro e w5 ⟨rfl, hb⟩
      have HX5 := Lib.hid (HX4.out.step hb)
      have hs5 : w.heap.size + 3 ≤ w5.heap.size := by have := hb.size; omega
      have HB5 := Lib.hid (HB4.out.trans (hb.mono (by omega)))
      have HBd := Lib.hid (HB5.out.drew)
      have s0 := HX5.out.c0.c 0 _ rfl
      have s1 := HX5.out.c1.c 0 _ rfl
      have s2 := HX5.out.c1.c 1 _ rfl
      clear hb p0 HB4 HX4
      go_upto_region 3 with fail
      refine wp_region_held_drew (S := fun w' => w'.cell? ⟨w.heap.size, 0, none⟩ = some (.slice A p c) ∧ w'.cell? ⟨w.heap.size + 1, 0, none⟩ = some (.slice A' p c') ∧ w'.cell? ⟨w.heap.size + 1, 1, none⟩ = some (.slice E p ec)) (by kernel_rfl) ⟨s0, s1, s2⟩ (fun hHeld => ?_)
      refine wpAnyH_take (i := 0) (oi := ⟨some 22, _, _, _, _, _⟩) (v := ?_) rfl (by kernel_rfl) (by kernel_rfl) (by kernel_rfl) (fun _ _ _ h => h) (Or.inl ⟨by rfl, ?_⟩) (by assumption) ?_; rotate_left; (focus (intro w hSw; (try dsimp only at hSw); go_simp; (try with_reducible rfl))); (try simp only [Act.put, List.setIfInBounds_toArray, List.set_cons_zero, List.set_cons_succ])
      refine wpAnyH_take (i := 1) (oi := ⟨some 23, _, _, _, _, _⟩) (v := ?_) rfl (by kernel_rfl) (by kernel_rfl) (by kernel_rfl) (fun _ _ _ h => h) (Or.inl ⟨by rfl, ?_⟩) (by assumption) ?_; rotate_left; (focus (intro w hSw; (try dsimp only at hSw); go_simp; (try with_reducible rfl))); (try simp only [Act.put, List.setIfInBounds_toArray, List.set_cons_zero, List.set_cons_succ])
      refine wpAnyH_take (i := 3) (oi := ⟨some 25, _, _, _, _, _⟩) (v := ?_) rfl (by kernel_rfl) (by kernel_rfl) (by kernel_rfl) (fun _ _ _ h => h) (Or.inl ⟨by rfl, ?_⟩) (by assumption) ?_; rotate_left; (focus (intro w hSw; (try dsimp only at hSw); go_simp; (try with_reducible rfl))); (try simp only [Act.put, List.setIfInBounds_toArray, List.set_cons_zero, List.set_cons_succ])
      refine wpAnyH_take (i := 4) (oi := ⟨some 26, _, _, _, _, _⟩) (v := ?_) rfl (by kernel_rfl) (by kernel_rfl) (by kernel_rfl) (fun _ _ _ h => h) (Or.inl ⟨by rfl, ?_⟩) (by assumption) ?_; rotate_left; (focus (intro w hSw; (try dsimp only at hSw); go_simp; (try with_reducible rfl))); (try simp only [Act.put, List.setIfInBounds_toArray, List.set_cons_zero, List.set_cons_succ])
      refine wpAnyH_ready (rs := [2]) (by kernel_rfl) (by simp) ?_; refine AllReadyH.cons (o := ⟨some 24, _, _, _, _, _⟩) rfl (fun K hK => ?_) AllReadyH.nil; go_simp
      go_at_call 42
      refine (HCP.out w5.drew (by show w.heap.size ≤ w5.heap.size; omega) (HE.out.below HBd.out (Nat.le_refl _))).mono ?_
      rintro e w6 ⟨Ac, nc, cc, Ec, en, ecc, rfl, ho, hb'⟩
      obtain rfl : nc = p := by have := ho.1; have := HM.out; omega
      obtain rfl : en = nc := by have := ho.2.1; have := HP.out; omega
      have hb6 : Below w5.heap.size w5 w6 := below_of_drew hb'
      have ho6 : OwE w5.heap.size w6.heap.size Ac en cc Ec en ecc st w6 := ho
      obtain ⟨U, hWF, hU0, -, -⟩ := WF.of_own ho6
      have HX6 := Lib.hid (HX5.out.step hb6)
      have HB6 := Lib.hid (HB5.out.trans (hb6.mono (by omega)))
      have t0 := HX6.out.c0.c 0 _ rfl
      have t1 := HX6.out.c1.c 0 _ rfl
      have t2 := HX6.out.c1.c 1 _ rfl
      have HWR := Lib.hid (spec_writes A A2 A3 Ac Ec en c m2 c2 c3 cc ecc gs st xs ys U w6 w5.heap.size hb6.size HN.out HM2.out ((HG.out.below HB6.out (Nat.le_refl _)).more (by omega)) ((H2.out.below HB6.out (Nat.le_refl _)).more (by omega)) ((H3.out.below HB6.out (Nat.le_refl _)).more (by omega)) hWF hU0 HVV.out.symm HUU.out.symm)
      have hm32 : m3 = m2 := by
        have := (gw_parts HUU.out.symm).1
        have := HM2.out
        have := HM3.out
        omega
      subst hm32
      clear ho ho6 hb' hb6 hWF hU0 s0 s1 s2 HBd
      refine hK.out _ _ ⟨t0, t1, t2⟩ (fun hHeld => ?_); clear hK K; (try simp only [Act.put, List.setIfInBounds_toArray, List.set_cons_zero, List.set_cons_succ])
      refine wpAnyH_ready (rs := [5]) (by kernel_rfl) (by simp) ?_; refine AllReadyH.cons (o := ⟨some 27, _, _, _, _, _⟩) rfl (fun K hK => ?_) AllReadyH.nil; go_simp
      go_at_call 41
      refine HWR.out.mono ?_
      rintro e w7 ⟨U7, R7, r7, d7, rfl, hWF7, hU70, hU72, hb7⟩
      have HX7 := Lib.hid (B3.low HX6.out hb7 (by omega))
      have HB7 := Lib.hid (HB6.out.trans (hb7.mono (by omega)))
      have q0 := HX7.out.c0.c 0 _ rfl
      have q1 := HX7.out.c1.c 0 _ rfl
      have q2 := HX7.out.c1.c 1 _ rfl
      have f0 := HX7.out.c2.f 0
      have f1 := HX7.out.c2.f 1
      have u0 := HX7.out.c2.c 0 _ rfl
      have u1 := HX7.out.c2.c 1 _ rfl
      have HWF7 := Lib.hid hWF7
      have HU7 : Hid (U7[0]? = some (.slice Ac en cc) ∧ U7[2]? = some (.slice R7 r7 d7)) := ⟨hU70, hU72⟩
      have hs7 : w.heap.size + 3 ≤ w7.heap.size := by have := HX7.out.c2.lt; omega
      clear hWF7 hU70 hU72 hb7 t0 t1 t2
      refine hK.out _ _ ⟨q0, q1, q2⟩ (fun hHeld => ?_); clear hK K; (try simp only [Act.put, List.setIfInBounds_toArray, List.set_cons_zero, List.set_cons_succ])
      refine wpAnyH_take (i := 6) (oi := ⟨some 28, _, _, _, _, _⟩) (v := ?_) rfl (by kernel_rfl) (by kernel_rfl) (by kernel_rfl) (fun _ _ _ h => h) (Or.inl ⟨by rfl, ?_⟩) (by assumption) ?_; rotate_left; (focus (intro w hSw; (try dsimp only at hSw); go_simp; (try with_reducible rfl))); (try simp only [Act.put, List.setIfInBounds_toArray, List.set_cons_zero, List.set_cons_succ])
      refine wpAnyH_take (i := 7) (oi := ⟨some 29, _, _, _, _, _⟩) (v := ?_) rfl (by kernel_rfl) (by kernel_rfl) (by kernel_rfl) (fun _ _ _ h => h) (Or.inl ⟨by rfl, ?_⟩) (by assumption) ?_; rotate_left; (focus (intro w hSw; (try dsimp only at hSw); go_simp; (try with_reducible rfl))); (try simp only [Act.put, List.setIfInBounds_toArray, List.set_cons_zero, List.set_cons_succ])
      refine wpAnyH_ready (rs := [8]) (by kernel_rfl) (by simp) ?_; refine AllReadyH.cons (o := ⟨none, _, _, _, _, _⟩) rfl (fun K hK => ?_) AllReadyH.nil; go_simp
      have e0 : ((w7.setCell ⟨w.heap.size + 2, 0, none⟩ (.slice Ac en cc)).setCell ⟨w.heap.size + 2, 1, none⟩ (.slice Ec en ecc)).cell? ⟨w.heap.size, 0, none⟩ = some (.slice A en c) := by rw [World.cell?_setCell_other _ _ _ _ (by simp), World.cell?_setCell_other _ _ _ _ (by simp)]; exact q0
      have e1 : ((w7.setCell ⟨w.heap.size + 2, 0, none⟩ (.slice Ac en cc)).setCell ⟨w.heap.size + 2, 1, none⟩ (.slice Ec en ecc)).cell? ⟨w.heap.size + 1, 0, none⟩ = some (.slice A' en c') := by rw [World.cell?_setCell_other _ _ _ _ (by simp), World.cell?_setCell_other _ _ _ _ (by simp)]; exact q1
      have e2 : ((w7.setCell ⟨w.heap.size + 2, 0, none⟩ (.slice Ac en cc)).setCell ⟨w.heap.size + 2, 1, none⟩ (.slice Ec en ecc)).cell? ⟨w.heap.size + 1, 1, none⟩ = some (.slice E en ec) := by rw [World.cell?_setCell_other _ _ _ _ (by simp), World.cell?_setCell_other _ _ _ _ (by simp)]; exact q2
      refine hK.out _ _ ⟨e0, e1, e2⟩ (fun hHeld => ?_); clear hK K; (try simp only [Act.put, List.setIfInBounds_toArray, List.set_cons_zero, List.set_cons_succ])
      refine wpAnyH_take (i := 9) (oi := ⟨some 9, _, _, _, _, _⟩) (v := ?_) rfl (by kernel_rfl) (by kernel_rfl) (by kernel_rfl) (fun _ _ _ h => h) (Or.inl ⟨by rfl, ?_⟩) (by assumption) ?_; rotate_left; (focus (intro w hSw; (try dsimp only at hSw); go_simp; (try with_reducible rfl))); (try simp only [Act.put, List.setIfInBounds_toArray, List.set_cons_zero, List.set_cons_succ])
      refine wpAnyH_done (by kernel_rfl) ?_ _
      go_wp2
      refine bodyPost_ret (v := .tuple #[.agg #[.slice Ac en cc, .slice Ec en ecc], .slice R7 r7 d7]) (by simp [results, Tryz.results7, go_sem, u0, u1]) rfl ?_
      have hFF := (HWF7.out.setT HX7.out.t2 (by decide) (by decide) 0 (.slice Ac en cc)).setT (HX7.out.t2.set ⟨w.heap.size + 2, 0, none⟩ (.slice Ac en cc)) (by decide) (by decide) 1 (.slice Ec en ecc)
      have hvl9 : en = (wrtE gs st xs ys).vs.length := by
        obtain ⟨k1, _, _, _, _⟩ := validE_parts gs st HVV.out.symm
        have := (wB_ok k1 (wS_ok HVV.out.symm HUU.out.symm) gs.length (Nat.le_refl _)).vl
        show en = (wB gs (wS gs st xs ys) gs.length).vs.length
        rw [this]; exact HN.out
      exact ⟨_, _, _, _, _, _, _, _, U7, _, rfl, hvl9, hFF.mono (by omega), HU7.out.1, HU7.out.2, (HB7.out.setCell (by simp; omega) _).setCell (by simp; omega) _⟩
end Go.Proofs.YtgakgmkonmgblaaGreat
