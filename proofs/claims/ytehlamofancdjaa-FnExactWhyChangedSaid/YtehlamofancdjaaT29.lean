/- The standing contract of WhyChanged: the model's. -/
import Derived.Test.YtehlamofancdjaaT28
import Derived.Test.YtehlamofancdjaaS2
import Derived.Maps.AppendAt

namespace Go.Proofs.Ytehlamofancdjaa
set_option linter.unusedSimpArgs false
set_option linter.unusedVariables false
open Go.RowKit

theorem row_head {w : World} {base n size : Nat} {e : TypeId} {v : Value} {xs : List Value} (h : w.ownsRow base e size v n xs) (hn : 0 < n) : ∃ g cap, v = .slice (some ⟨g, 0, none⟩) n cap := by
  rcases h.2 with ⟨hv, h0⟩ | ⟨g, cap, cur, hv, _⟩
  · omega
  · exact ⟨g, cap, hv⟩
theorem own_news {w : World} {base g n cap : Nat} {xs : List Int} (h : w.ownsRow base 3 1 (.slice (some ⟨g, 0, none⟩) n cap) n (xs.map (Value.int .i64))) : ∀ j u, (xs.map (Value.int .i64))[j]? = some u → w.cell? ((⟨g, 0, none⟩ : Addr).add j) = some u := h.cells (g := g) rfl
theorem whyF_not (gs : List Nd) (xs ys : List Int) (x : Int) (h : decide (x ∈ chgF gs xs ys) = false) : whyF gs xs ys x = [] := by
  unfold whyF
  rw [if_neg (of_decide_eq_false h)]
theorem whyF_in (gs : List Nd) (xs ys : List Int) (t : Nat) (h : decide ((t : Int) ∈ chgF gs xs ys) = true) : whyF gs xs ys t = wayF gs (mean gs xs) (chgF gs xs ys) 10 t := by
  unfold whyF
  rw [if_pos (of_decide_eq_true h)]; rfl
theorem whyF_out (gs : List Nd) (xs ys : List Int) (x : Int) (h : (chgB gs xs ys && rng x 0 ((gs.length : Int) - 1)) = false) : whyF gs xs ys x = [] := by
  apply whyF_not
  rw [decide_eq_false_iff_not]
  intro hx
  obtain ⟨hb, q, hq, rfl⟩ := chgF_bd gs xs ys x hx
  rw [hb] at h
  unfold rng at h
  simp at h
  omega

set_option maxRecDepth 100000 in
set_option maxHeartbeats 3200000 in
theorem top_spec_WhyChanged (gs : List Nd) (xs ys : List Int) (x : Int) (hG : GB gs) (hL : xs.length ≤ 1048576) (hL2 : ys.length ≤ 1048576) : ∀ (A : Option Addr) (n c : Nat) (A1 : Option Addr) (m1 c1 : Nat) (A2 : Option Addr) (m2 c2 : Nat) (w : World), n = gs.length → n ≤ c → GS w w.heap.size A gs → m1 = xs.length → IS w w.heap.size A1 xs → m2 = ys.length → IS w w.heap.size A2 ys →
    Calls Try.prog 6 #[.agg #[.slice A n c], .slice A1 m1 c1, .slice A2 m2 c2, .int .i64 x] w fun e w' => RetI w (whyF gs xs ys x) e w' := by
  intro A n c A1 m1 c1 A2 m2 c2 w hn hnc h hx h1 hy h2
  obtain ⟨i0, hi, hz0, hz1, hz2⟩ := info_parts info_int
  have hm1 : m1 ≤ 2000000 := by omega
  have hm2 : m2 ≤ 2000000 := by omega
  have hn1 : n ≤ 1048576 := by rw [hn]; exact hG.1
  have H := Lib.hid h
  have HX := Lib.hid h1
  have HY := Lib.hid h2
  have HN := Lib.hid hn
  have HC := Lib.hid fun (w' : World) (hB : w.heap.size ≤ w'.heap.size) (h : GS w' w.heap.size A gs) => spec_validGraph A n c gs w' w.heap.size hB hn h hG
  have HDX := Lib.hid fun (w' : World) (hB : w.heap.size ≤ w'.heap.size) (h : GS w' w.heap.size A gs) (h' : IS w' w.heap.size A1 xs) => spec_validCells A A1 n c m1 c1 gs xs w' w.heap.size hB hn hx h h' (by omega) hm1
  have HDY := Lib.hid fun (w' : World) (hB : w.heap.size ≤ w'.heap.size) (h : GS w' w.heap.size A gs) (h' : IS w' w.heap.size A2 ys) => spec_validCells A A2 n c m2 c2 gs ys w' w.heap.size hB hn hy h h' (by omega) hm2
  have hml1 := mean_len gs xs
  have hml2 := mean_len gs ys
  rw [← hn] at hml1 hml2
  have HMX := Lib.hid fun (hok : (validG gs && validC gs xs) = true) (w' : World) (hB : w.heap.size ≤ w'.heap.size) (h : GS w' w.heap.size A gs) (h' : IS w' w.heap.size A1 xs) => spec_meaning A A1 n c m1 c1 gs xs w' w.heap.size hB hn hx h h' hok
  have HMY := Lib.hid fun (hok : (validG gs && validC gs ys) = true) (w' : World) (hB : w.heap.size ≤ w'.heap.size) (h : GS w' w.heap.size A gs) (h' : IS w' w.heap.size A2 ys) => spec_meaning A A2 n c m2 c2 gs ys w' w.heap.size hB hn hy h h' hok
  have HDP := Lib.hid fun (hok : (validG gs && validC gs xs) = true) (A5 : Option Addr) (c5 i : Nat) (w' : World) (B : Nat) (hB : B ≤ w'.heap.size) (h : GS w' B A gs) (h' : IS w' B A5 (mean gs xs)) (hi : i < n) => spec_deps A A5 n c n c5 gs (mean gs xs) i w' B hB hn hml1.symm rfl h h' (okC_parts gs xs hok).1 (meanTo_VOK gs xs hok gs.length (Nat.le_refl _)) hi
  have HDB := Lib.hid fun (hok : (validG gs && validC gs xs) = true) (i : Nat) (hi : i < n) => depF_bd gs xs hok i (by omega)
  have HD10 := Lib.hid fun (hok : validG gs = true) => (validG_parts gs hok).1
  have hcf : chgB gs xs ys = true → chgF gs xs ys = diffTo (mean gs xs) (mean gs ys) n := fun h => by unfold chgF; rw [h, hn]; rfl
  have hcb : chgB gs xs ys = (validG gs && validC gs xs && validC gs ys) := rfl
  have hro : (validG gs && validC gs xs && validC gs ys && rng x 0 ((n : Int) - 1)) = false → whyF gs xs ys x = [] := fun h => whyF_out gs xs ys x (by rw [hcb, ← hn]; exact h)
  have hrn := whyF_not gs xs ys x
  have hri := fun (t : Nat) (e : x = (t : Int)) (h : decide ((t : Int) ∈ chgF gs xs ys) = true) => (by rw [e]; exact whyF_in gs xs ys t h : whyF gs xs ys x = wayF gs (mean gs xs) (chgF gs xs ys) 10 t)
  have hws := way_step gs (mean gs xs) (chgF gs xs ys) (step_why gs xs ys)
  have hwc := way_cell gs (mean gs xs) (chgF gs xs ys)
  have hsw := step_why gs xs ys
  have hcl := chgF_len gs xs ys
  rw [hcb] at hcf
  generalize whyF gs xs ys x = R at *
  generalize chgF gs xs ys = D at *
  have HGX : Hid (rng x 0 ((n : Int) - 1) = true → ∃ t : Nat, x = (t : Int) ∧ t < n) := fun h => by
    unfold rng at h
    simp only [decide_eq_true_eq] at h
    exact ⟨x.toNat, by omega, by omega⟩
  have HML1 := Lib.hid hml1
  have HML2 := Lib.hid hml2
  have HCF := Lib.hid hcf
  have HRO := Lib.hid hro
  have HRN := Lib.hid hrn
  have HRI := Lib.hid hri
  have HWS := Lib.hid hws
  have HWC := Lib.hid hwc
  have HSW := Lib.hid hsw
  have HCL := Lib.hid hcl
  clear h h1 h2 hn hx hy hG hml1 hml2 hcb hcf hro hrn hri hws hwc hsw hcl hL hL2
  generalize validG gs = b0 at *
  generalize validC gs xs = b1 at *
  generalize validC gs ys = b2 at *
  generalize hr3 : rng x 0 ((n : Int) - 1) = b3 at *
  generalize mean gs xs = MX at *
  generalize mean gs ys = MY at *
  cases b3
  · clear HGX
    go_enter Try.func6, Try.ntmps6
    go_wp2_with fail
    refine (HC.out _ (by simp) (H.out.alloc (Nat.le_refl _) _)).mono ?_
    rintro e w1 ⟨rfl, hb⟩
    have q1 : w1.cell? ⟨w.heap.size, 0, none⟩ = some (.slice A n c) := (hb.cell (p := ⟨w.heap.size, 0, none⟩) (by simp)).trans (by go_simp)
    have HG1 := Lib.hid ((H.out.alloc (Nat.le_refl _) (.cells #[.slice A n c] 30)).below hb (by simp))
    have HX1 := Lib.hid ((HX.out.alloc (Nat.le_refl _) (.cells #[.slice A n c] 30)).below hb (by simp))
    have HY1 := Lib.hid ((HY.out.alloc (Nat.le_refl _) (.cells #[.slice A n c] 30)).below hb (by simp))
    have hB1 : Below w.heap.size w w1 := ((Below.refl _ _).alloc (Nat.le_refl _) _).trans (hb.mono (by simp))
    have hl1 : w.heap.size < w1.heap.size := by have := hb.size; simp at this; omega
    clear hb
    cases b0
    · have HR0 := Lib.hid (HRO.out rfl)
      go_wp2
      go_ret
      rw [HR0.out]
      exact RetI.nil hB1
    have hn10 : n ≤ 10 := by have h1 := HD10.out rfl; have h2 := HN.out; omega
    go_wp2_with fail
    refine (HDX.out _ hB1.size HG1.out HX1.out).mono ?_
    rintro e w2 ⟨rfl, hb⟩
    have q2 := (hb.cell (p := ⟨w.heap.size, 0, none⟩) hl1).trans q1
    have HG2 := Lib.hid (HG1.out.below hb hB1.size)
    have HX2 := Lib.hid (HX1.out.below hb hB1.size)
    have HY2 := Lib.hid (HY1.out.below hb hB1.size)
    have hB2 := hB1.trans (hb.mono hB1.size)
    have hl2 : w.heap.size < w2.heap.size := Nat.lt_of_lt_of_le hl1 hb.size
    clear hb q1 HG1 HX1 HY1 hB1 hl1
    cases b1
    · have HR0 := Lib.hid (HRO.out rfl)
      go_wp2
      go_ret
      rw [HR0.out]
      exact RetI.nil hB2
    go_wp2_with fail
    refine (HDY.out _ hB2.size HG2.out HY2.out).mono ?_
    rintro e w3 ⟨rfl, hb⟩
    have q3 := (hb.cell (p := ⟨w.heap.size, 0, none⟩) hl2).trans q2
    have HG3 := Lib.hid (HG2.out.below hb hB2.size)
    have HX3 := Lib.hid (HX2.out.below hb hB2.size)
    have HY3 := Lib.hid (HY2.out.below hb hB2.size)
    have hB3 := hB2.trans (hb.mono hB2.size)
    have hl3 : w.heap.size < w3.heap.size := Nat.lt_of_lt_of_le hl2 hb.size
    clear hb q2 HG2 HX2 HY2 hB2 hl2
    cases b2
    · have HR0 := Lib.hid (HRO.out rfl)
      go_wp2
      go_ret
      rw [HR0.out]
      exact RetI.nil hB3
    go_wp2_with (go_at_call 26; refine (spec_inRange _ _ _ _).mono ?_; rintro e w' ⟨rfl, rfl⟩)
    go_ret
    rw [HRO.out rfl]
    exact RetI.nil hB3
  · obtain ⟨t, rfl, htn⟩ := HGX.out rfl
    have hpd := plc_lt D (t : Int)
    generalize hpm : decide ((t : Int) ∈ D) = pm at *
    have HPM := Lib.hid hpm
    generalize hdl : D.length = dl at *
    have HDL := Lib.hid hdl
    have hdl2 := HCL.out
    clear hpm hdl HGX HCL
    go_enter Try.func6, Try.ntmps6
    go_wp2_with fail
    refine (HC.out _ (by simp) (H.out.alloc (Nat.le_refl _) _)).mono ?_
    rintro e w1 ⟨rfl, hb⟩
    have q1 : w1.cell? ⟨w.heap.size, 0, none⟩ = some (.slice A n c) := (hb.cell (p := ⟨w.heap.size, 0, none⟩) (by simp)).trans (by go_simp)
    have HG1 := Lib.hid ((H.out.alloc (Nat.le_refl _) (.cells #[.slice A n c] 30)).below hb (by simp))
    have HX1 := Lib.hid ((HX.out.alloc (Nat.le_refl _) (.cells #[.slice A n c] 30)).below hb (by simp))
    have HY1 := Lib.hid ((HY.out.alloc (Nat.le_refl _) (.cells #[.slice A n c] 30)).below hb (by simp))
    have hB1 : Below w.heap.size w w1 := ((Below.refl _ _).alloc (Nat.le_refl _) _).trans (hb.mono (by simp))
    have hl1 : w.heap.size < w1.heap.size := by have := hb.size; simp at this; omega
    clear hb
    cases b0
    · have HR0 := Lib.hid (HRO.out rfl)
      go_wp2
      go_ret
      rw [HR0.out]
      exact RetI.nil hB1
    have hn10 : n ≤ 10 := by have h1 := HD10.out rfl; have h2 := HN.out; omega
    go_wp2_with fail
    refine (HDX.out _ hB1.size HG1.out HX1.out).mono ?_
    rintro e w2 ⟨rfl, hb⟩
    have q2 := (hb.cell (p := ⟨w.heap.size, 0, none⟩) hl1).trans q1
    have HG2 := Lib.hid (HG1.out.below hb hB1.size)
    have HX2 := Lib.hid (HX1.out.below hb hB1.size)
    have HY2 := Lib.hid (HY1.out.below hb hB1.size)
    have hB2 := hB1.trans (hb.mono hB1.size)
    have hl2 : w.heap.size < w2.heap.size := Nat.lt_of_lt_of_le hl1 hb.size
    clear hb q1 HG1 HX1 HY1 hB1 hl1
    cases b1
    · have HR0 := Lib.hid (HRO.out rfl)
      go_wp2
      go_ret
      rw [HR0.out]
      exact RetI.nil hB2
    go_wp2_with fail
    refine (HDY.out _ hB2.size HG2.out HY2.out).mono ?_
    rintro e w3 ⟨rfl, hb⟩
    have q3 := (hb.cell (p := ⟨w.heap.size, 0, none⟩) hl2).trans q2
    have HG3 := Lib.hid (HG2.out.below hb hB2.size)
    have HX3 := Lib.hid (HX2.out.below hb hB2.size)
    have HY3 := Lib.hid (HY2.out.below hb hB2.size)
    have hB3 := hB2.trans (hb.mono hB2.size)
    have hl3 : w.heap.size < w3.heap.size := Nat.lt_of_lt_of_le hl2 hb.size
    clear hb q2 HG2 HX2 HY2 hB2 hl2
    cases b2
    · have HR0 := Lib.hid (HRO.out rfl)
      go_wp2
      go_ret
      rw [HR0.out]
      exact RetI.nil hB3
    go_wp2_with (go_at_call 26; refine (spec_inRange _ _ _ _).mono ?_; rintro e w' ⟨rfl, rfl⟩)
    refine (HMX.out rfl _ hB3.size HG3.out HX3.out).mono ?_
    rintro e w4 ⟨v4, rfl, ho, hb⟩
    obtain ⟨A4, c4, rfl, hI4⟩ := OwnI.at_ ho HML1.out
    have q4 := (hb.cell (p := ⟨w.heap.size, 0, none⟩) hl3).trans q3
    have HI4 := Lib.hid hI4
    have HG4 := Lib.hid (HG3.out.below hb hB3.size)
    have HY4 := Lib.hid (HY3.out.below hb hB3.size)
    have hB4 := hB3.trans (hb.mono hB3.size)
    have hl4 : w.heap.size < w4.heap.size := Nat.lt_of_lt_of_le hl3 hb.size
    clear hb ho hI4 q3 HG3 HX3 HY3 hB3 hl3
    go_wp2_with fail
    refine (HMY.out rfl _ hB4.size HG4.out HY4.out).mono ?_
    rintro e w8 ⟨v8, rfl, ho, hb⟩
    obtain ⟨A8, c8, rfl, hI8⟩ := OwnI.at_ ho HML2.out
    have q8 := (hb.cell (p := ⟨w.heap.size, 0, none⟩) hl4).trans q4
    have HI8 := Lib.hid hI8
    have HM8 := Lib.hid ((HI4.out.below hb (Nat.le_refl _)).more (B' := w8.heap.size) hb.size)
    have HG8 := Lib.hid (HG4.out.below hb hB4.size)
    have hB8 := hB4.trans (hb.mono hB4.size)
    have hl8 : w.heap.size < w8.heap.size := Nat.lt_of_lt_of_le hl4 hb.size
    clear hb ho hI8 q4 HG4 HY4 hB4 hl4 HI4
    go_wp2_with fail
    refine (spec_differing A4 A8 n c4 c8 MX MY w8 w8.heap.size (Nat.le_refl _) HML1.out.symm HML2.out.symm HM8.out HI8.out (by omega)).mono ?_
    rw [← HCF.out rfl]
    rintro e w5 ⟨v5, rfl, ho, hb⟩
    obtain ⟨A5, c5, rfl, hI5⟩ := OwnI.at_ ho HDL.out
    have q5 := (hb.cell (p := ⟨w.heap.size, 0, none⟩) hl8).trans q8
    have HI5 := Lib.hid hI5
    have HM5 := Lib.hid ((HM8.out.below hb (Nat.le_refl _)).more (B' := w5.heap.size) hb.size)
    have HG5 := Lib.hid ((HG8.out.below hb hB8.size).more (B' := w5.heap.size) (Nat.le_trans hB8.size hb.size))
    have hB5 := hB8.trans (hb.mono hB8.size)
    have hl5 : w.heap.size < w5.heap.size := Nat.lt_of_lt_of_le hl8 hb.size
    have HRW := Lib.hid (World.ownsRow_lit (e := 3) (size := 1) (base := w5.heap.size) w5 #[] 0 (Nat.le_refl _) (by unfold maxLen; omega) rfl)
    clear hb ho hI5 q8 HG8 hB8 hl8 HM8 HI8
    go_wp2_with fail
    refine (spec_placeIn A5 dl c5 D (t : Int) _ w5.heap.size (by simp) HDL.out.symm (HI5.out.alloc (Nat.le_refl _) _) (by omega)).mono ?_
    rintro e w9 ⟨rfl, rfl⟩
    cases pm
    · have HR0 := Lib.hid (HRN.out rfl)
      simp only [Bool.not_false] at hpd
      go_wp2
      go_ret
      rw [HR0.out]
      exact retI_lit hB5 _ _ 0 rfl (Nat.zero_le _) rfl _ rfl
    have HRW2 := Lib.hid (HRI.out t rfl HPM.out)
    simp only [Bool.not_true] at hpd
    have htd : (t : Int) ∈ D := of_decide_eq_true HPM.out
    have HTD := Lib.hid htd
    clear htd
    go_wp2
    go_loopw [3, 11] (fun nv ov wr => ∃ (m l b cc : Nat) (L : List Int), nv = .int .i64 m ∧ ov = .slice (some ⟨b, 0, none⟩) l cc ∧ l + m ≤ 10 ∧ m < n ∧ Hid ((m : Int) ∈ D) ∧ Hid (l = L.length) ∧ Hid (wr.ownsRow w5.heap.size 3 1 (.slice (some ⟨b, 0, none⟩) l cc) l (L.map (Value.int .i64))) ∧ Hid (R = wayF gs MX D 10 m ++ L) ∧ Hid (Below w5.heap.size w5 wr) ∧ w5.heap.size ≤ wr.heap.size) (fun nv _ _ => (intOf nv).toNat)
    case atStart =>
      exact ⟨t, 0, w5.heap.size, 0, [], rfl, rfl, by omega, htn, HTD.out, rfl, HRW.out, by rw [List.append_nil]; exact HRW2.out, (Below.refl _ _).alloc (Nat.le_refl _) _, by simp⟩
    case round =>
      obtain ⟨m, l, b, cc, L, rfl, rfl, hlm, hmn, HMD, HLL, HO, HW, HB, hwr⟩ := hrel
      have q6 := (HB.out.cell (p := ⟨w.heap.size, 0, none⟩) hl5).trans q5
      have HGR := Lib.hid (HG5.out.below HB.out (Nat.le_refl _))
      have HIR := Lib.hid (HM5.out.below HB.out (Nat.le_refl _))
      have HI5R := Lib.hid (HI5.out.below HB.out (Nat.le_refl _))
      obtain ⟨bg, og, hA, hbg, c0, _⟩ := HGR.out.at_ m (by have := HN.out; omega)
      have hbgw : bg < wr.heap.size := by omega
      have HNEW : Hid ((wr.alloc (.cells #[.int .i64 m] 3)).ownsRow w5.heap.size 3 1 (.slice (some ⟨wr.heap.size, 0, none⟩) 1 1) 1 [.int .i64 m]) := World.ownsRow_lit (e := 3) (size := 1) (base := w5.heap.size) wr #[.int .i64 m] 1 hwr (by unfold maxLen; omega) rfl
      have HNS := Lib.hid (own_news (HO.out.alloc (.cells #[.int .i64 m] 3)))
      have HSM := Lib.hid ((HSW.out m HMD.out).2)
      have HWSM := Lib.hid (HWS.out (by have := HN.out; omega) m HMD.out)
      have HWCM := Lib.hid (HWC.out m 10)
      have HAN := Lib.hid hA
      generalize (gs.getD m default).k = kd at *
      cases hk : (kd == 0)
      · have hne : (kd != 0) = true := by simp [bne, hk]
        obtain ⟨hnx, hnd, hkl, hk0⟩ := HSM.out hk
        have HND := Lib.hid hnd
        have HKL := Lib.hid hkl
        have HK0 := Lib.hid hk0
        have HWM := Lib.hid (HWSM.out hk)
        have HDPM := Lib.hid fun (w' : World) (B : Nat) (hB : B ≤ w'.heap.size) (h : GS w' B A gs) (h' : IS w' B A4 MX) => HDP.out rfl A4 c4 m w' B hB h h' hmn
        have hdb := HDB.out rfl m hmn
        have hkb := inK_len D (depF gs MX m)
        clear hk hnd hkl hk0 HWCM HWSM HSM
        generalize nxtW gs MX D m = m2 at *
        generalize depF gs MX m = F at *
        generalize hfl : F.length = fl at *
        have HFL := Lib.hid hfl
        clear hfl hA
        obtain rfl := HAN.out
        clear HAN
        go_wp2_with (at_builtin; refine wpList_append_own_at _ rfl _ _ 25 rfl w5.heap.size 3 i0 (.int .i64 0) 1 8 Try.underlying25 hi hz0 hz1 hz2 rfl (by decide) _ _ _ rfl HNEW.out ⟨b, 0, none⟩ l cc (L.map (Value.int .i64)) rfl ?d1 HNS.out (ints_one L) ?d3 ?d4 ?d5 ?_)
        case d1 => rw [List.length_map, ← HLL.out]; omega
        case d3 => unfold maxLen; omega
        case d4 => omega
        case d5 => first | omega | (simp; omega)
        intro v' w6 hown' hgrow _ _
        have hown'' : w6.ownsRow w5.heap.size 3 1 v' (1 + l) (((m : Int) :: L).map (Value.int .i64)) := by simpa using hown'
        obtain ⟨g6, c6, rfl⟩ := row_head hown'' (by omega)
        have HO6 := Lib.hid hown''
        have HB6 : Hid (Below w5.heap.size w5 w6) := (HB.out.alloc hwr (.cells #[.int .i64 m] 3)).grown hgrow (by simp; omega) (fun q hq => by simp [Value.ownBlock] at hq; omega)
        have hz6 : w5.heap.size ≤ w6.heap.size := HB6.out.size
        have q7 := (HB6.out.cell (p := ⟨w.heap.size, 0, none⟩) hl5).trans q5
        clear hown' hown'' hgrow q6 c0
        go_wp2_with fail
        refine (HDPM.out w6 w5.heap.size hz6 (HG5.out.below HB6.out (Nat.le_refl _)) (HM5.out.below HB6.out (Nat.le_refl _))).mono ?_
        rintro e w7 ⟨v7, rfl, ho7, hb7⟩
        obtain ⟨A7, c7, rfl, hI7⟩ := OwnI.at_ ho7 HFL.out
        have HO7 := Lib.hid (own_below HO6.out hb7)
        have HB7 := Lib.hid (HB6.out.trans (hb7.mono hz6))
        have hz7 : w5.heap.size ≤ w7.heap.size := HB7.out.size
        have HI7 := Lib.hid hI7
        have HID7 := Lib.hid ((HI5.out.below HB7.out (Nat.le_refl _)).more (B' := w7.heap.size) hz7)
        clear ho7 hb7 hI7 HO6 HB6
        go_wp2_with fail
        refine (spec_common A5 A7 dl c5 fl c7 D F w7 w7.heap.size (Nat.le_refl _) HDL.out.symm HFL.out.symm HID7.out HI7.out (by omega) (by omega)).mono ?_
        generalize inK D F = K at *
        rintro e w8' ⟨v8', rfl, ho8, hb8⟩
        obtain ⟨A8', c8', rfl, hI8⟩ := OwnI.form ho8
        have HO8 := Lib.hid (own_below HO7.out hb8)
        have HB8 := Lib.hid (HB7.out.trans (hb8.mono hz7))
        have hz8 : w5.heap.size ≤ w8'.heap.size := HB8.out.size
        obtain ⟨b8, o8, rfl, hb8w, hc8⟩ := hI8 HKL.out
        have k0 := hc8 0 HKL.out
        rw [HK0.out, Nat.add_zero] at k0
        have hkp := HKL.out
        generalize K.length = kl at *
        clear ho8 hb8 hI8 hc8 HO7 HB7
        go_wp2
        go_roundw
        case rel => exact ⟨m2, 1 + l, g6, c6, (m : Int) :: L, rfl, rfl, by omega, by omega, HND.out, by rw [List.length_cons, ← HLL.out]; exact Nat.add_comm _ _, HO8.out, by show R = _; rw [HW.out, HWM.out]; simp, HB8.out, hz8⟩
        case measure => simp [intOf]; omega
      · have hne : (kd != 0) = false := by simp [bne, hk]
        have HWM := Lib.hid (HWCM.out hk)
        clear hk HWCM HWSM HSM hA
        obtain rfl := HAN.out
        clear HAN
        go_wp2_with (at_builtin; refine wpList_append_own_at _ rfl _ _ 25 rfl w5.heap.size 3 i0 (.int .i64 0) 1 8 Try.underlying25 hi hz0 hz1 hz2 rfl (by decide) _ _ _ rfl HNEW.out ⟨b, 0, none⟩ l cc (L.map (Value.int .i64)) rfl ?d1 HNS.out (ints_one L) ?d3 ?d4 ?d5 ?_)
        case d1 => rw [List.length_map, ← HLL.out]; omega
        case d3 => unfold maxLen; omega
        case d4 => omega
        case d5 => first | omega | (simp; omega)
        intro v' w6 hown' hgrow _ _
        go_wp2
        go_ret
        refine ⟨_, rfl, ?_, hB5.trans (((HB.out.alloc hwr (.cells #[.int .i64 m] 3)).grown hgrow (by simp; omega) (fun q hq => by simp [Value.ownBlock] at hq; omega)).mono hB5.size)⟩
        have : R = (m : Int) :: L := by rw [HW.out, HWM.out]; rfl
        rw [this]
        unfold OwnI
        rw [show ((m : Int) :: L).length = 1 + l by rw [List.length_cons, ← HLL.out]; exact Nat.add_comm _ _]
        exact own_mono (by simpa using hown') hB5.size
end Go.Proofs.Ytehlamofancdjaa
