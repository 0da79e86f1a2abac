/- The standing contract of WhyChanged: the program's. -/
import Derived.Test.YtehlamofancdjaaT29
import Derived.Test.YtehlamofancdjaaS3
import Derived.Deep.Cut

namespace Go.Proofs.Ytehlamofancdjaa
set_option linter.unusedSimpArgs false
set_option linter.unusedVariables false
open Go.RowKit

/-- What WhyChanged's loop keeps: its boxes, the graph, what has changed, what is read. -/
structure WhI (g g10 : Nat) (A : Option Addr) (n c : Nat) (gs : List Nd) (A5 : Option Addr) (dl c5 : Nat) (D : List Int) (E : Option Addr) (en ec : Nat) (DD : List (List Int)) (w : World) : Prop where
  l10 : g + 2 ≤ g10
  l11 : g10 < w.heap.size
  c0 : w.cell? ⟨g, 0, none⟩ = some (.slice A n c)
  c10 : w.cell? ⟨g10, 0, none⟩ = some (.slice E en ec)
  f7 : w.frozen? ⟨g + 1, 0, none⟩ = false
  gr : GS w g A gs
  ch : OwR (g + 2) g10 3 1 (.slice A5 dl c5) dl (D.map (Value.int .i64)) w
  dp : OwSS (g + 2) g10 (.slice E en ec) en DD w
theorem WhI.keep {g g10 : Nat} {A : Option Addr} {n c : Nat} {gs : List Nd} {A5 : Option Addr} {dl c5 : Nat} {D : List Int} {E : Option Addr} {en ec : Nat} {DD : List (List Int)} {w w' : World} (h : WhI g g10 A n c gs A5 dl c5 D E en ec DD w) (hs : w.heap.size ≤ w'.heap.size) (hf : w'.frozen? ⟨g + 1, 0, none⟩ = false) (hk : ∀ k, k < g10 + 1 → k ≠ g + 1 → w'.heap[k]? = w.heap[k]?) : WhI g g10 A n c gs A5 dl c5 D E en ec DD w' := by
  have hl := h.l10
  refine ⟨h.l10, Nat.lt_of_lt_of_le h.l11 hs, ?_, ?_, hf, ?_, ?_, ?_⟩
  · exact (World.cell?_of_block (w := w) (a := ⟨g, 0, none⟩) (hk g (by omega) (by omega))).trans h.c0
  · exact (World.cell?_of_block (w := w) (a := ⟨g10, 0, none⟩) (hk g10 (by omega) (by omega))).trans h.c10
  · exact h.gr.keep fun p hp => World.cell?_of_block (w := w) (hk p.block (by omega) (by omega))
  · exact h.ch.keep fun k h1 h2 => hk k (by omega) (by omega)
  · exact OwSS.loc _ _ _ _ _ _ _ h.dp fun k h1 h2 => hk k (by omega) (by omega)
theorem WhI.below {g g10 : Nat} {A : Option Addr} {n c : Nat} {gs : List Nd} {A5 : Option Addr} {dl c5 : Nat} {D : List Int} {E : Option Addr} {en ec : Nat} {DD : List (List Int)} {w w' : World} (h : WhI g g10 A n c gs A5 dl c5 D E en ec DD w) (hb : Below (g10 + 1) w w') : WhI g g10 A n c gs A5 dl c5 D E en ec DD w' :=
  h.keep hb.size ((hb.frozen (p := ⟨g + 1, 0, none⟩) (by have := h.l10; show g + 1 < g10 + 1; omega)).trans h.f7) fun k h1 _ => hb.block k h1
theorem WhI.setn {g g10 : Nat} {A : Option Addr} {n c : Nat} {gs : List Nd} {A5 : Option Addr} {dl c5 : Nat} {D : List Int} {E : Option Addr} {en ec : Nat} {DD : List (List Int)} {w : World} (h : WhI g g10 A n c gs A5 dl c5 D E en ec DD w) (u : Value) : WhI g g10 A n c gs A5 dl c5 D E en ec DD (w.setCell ⟨g + 1, 0, none⟩ u) :=
  h.keep (by simp [World.setCell]) ((World.frozen?_setCell _ _ _ _).trans h.f7) fun k _ h2 => Below.heap_setCell _ _ _ _ (by simpa using h2)

/-- How long a slice is. -/
def slLen : Value → Nat
  | .slice _ n _ => n
  | _ => 0

set_option maxRecDepth 100000 in
set_option maxHeartbeats 3200000 in
theorem top_impl_WhyChanged (gs : List Nd) (xs ys : List Int) (x : Int) (hG : GB gs) (hL : xs.length ≤ 1048576) (hL2 : ys.length ≤ 1048576) : ∀ (A : Option Addr) (n c : Nat) (A1 : Option Addr) (m1 c1 : Nat) (A2 : Option Addr) (m2 c2 : Nat) (w : World), n = gs.length → n ≤ c → GS w w.heap.size A gs → m1 = xs.length → IS w w.heap.size A1 xs → m2 = ys.length → IS w w.heap.size A2 ys →
    Calls Try.prog 9 #[.agg #[.slice A n c], .slice A1 m1 c1, .slice A2 m2 c2, .int .i64 x] w fun e w' => RetI w (whyF gs xs ys x) e w' := by
  intro A n c A1 m1 c1 A2 m2 c2 w hn hnc h hx h1 hy h2
  obtain ⟨i0, hi, hz0, hz1, hz2⟩ := info_parts info_int
  have H := Lib.hid h
  have HX := Lib.hid h1
  have HY := Lib.hid h2
  have HN := Lib.hid hn
  have HCH := Lib.hid fun (w' : World) (h : GS w' w'.heap.size A gs) (h' : IS w' w'.heap.size A1 xs) (h'' : IS w' w'.heap.size A2 ys) => top_impl_ChangedBy gs xs ys hG hL hL2 A n c A1 m1 c1 A2 m2 c2 w' hn hnc h hx h' hy h''
  have HDE := Lib.hid fun (w' : World) (h : GS w' w'.heap.size A gs) (h' : IS w' w'.heap.size A1 xs) => top_impl_DepsOf gs xs hG hL A n c A1 m1 c1 w' hn hnc h hx h'
  have hcl := chgF_len gs xs ys
  cases hmem : decide (x ∈ chgF gs xs ys)
  · have hR := whyF_not gs xs ys x hmem
    rw [hR]
    generalize chgF gs xs ys = D at *
    generalize hdl : D.length = dl at *
    have HDL := Lib.hid hdl
    have HMEM := Lib.hid hmem
    clear hmem hR hdl h h1 h2 hn hx hy hG hL hL2 HDE
    go_enter Try.func9, Try.ntmps9
    go_wp2_with fail
    refine (HCH.out _ (((H.out.alloc (Nat.le_refl _) _).alloc (by simp) _).more (by simp; omega)) (((HX.out.alloc (Nat.le_refl _) _).alloc (by simp) _).more (by simp; omega)) (((HY.out.alloc (Nat.le_refl _) _).alloc (by simp) _).more (by simp; omega))).mono ?_
    rintro e w1 ⟨v1, rfl, ho, hb⟩
    obtain ⟨A5, c5, rfl, hI5⟩ := OwnI.at_ ho HDL.out
    have p1 : w1.cell? ⟨w.heap.size + 1, 0, none⟩ = some (.int .i64 x) := (hb.cell (p := ⟨w.heap.size + 1, 0, none⟩) (by simp)).trans (by go_simp)
    have hl1 : w.heap.size + 1 < w1.heap.size := by have := hb.size; simp at this; omega
    have hB1 : Below w.heap.size w w1 := ((((Below.refl _ _).alloc (Nat.le_refl _) _).alloc (by simp) _)).trans (hb.mono (by simp; omega))
    have HI5 := Lib.hid hI5
    clear ho hb hI5
    go_wp2_with fail
    refine (slices_Contains A5 dl c5 D x w1 w1.heap.size (Nat.le_refl _) HDL.out.symm HI5.out (by omega)).mono ?_
    rw [HMEM.out]
    rintro e w2 ⟨rfl, rfl⟩
    go_wp2
    go_ret
    exact RetI.nil hB1
  · obtain ⟨hcb, t, htg, rfl⟩ := chgF_bd gs xs ys x (of_decide_eq_true hmem)
    obtain ⟨hok, _⟩ := chgB_parts gs xs ys hcb
    have hn10 : n ≤ 10 := by have := (validG_parts gs (okC_parts gs xs hok).1).1; omega
    have htn : t < n := by omega
    have hR := whyF_in gs xs ys t hmem
    have hdd : depsF gs xs = depTo gs (mean gs xs) gs.length := by unfold depsF; rw [hok]; rfl
    have hws := way_step gs (mean gs xs) (chgF gs xs ys) (step_why gs xs ys) (by omega)
    have hwc := way_cell gs (mean gs xs) (chgF gs xs ys)
    have hsw := step_why gs xs ys
    have hdsl := (depsF_len gs xs).1.2
    have hdlen : (depsF gs xs).length = n := by rw [hdd, depTo_len, hn]
    have hdat : ∀ j, j < n → (depsF gs xs).getD j [] = depF gs (mean gs xs) j := fun j hj => by rw [hdd]; exact depTo_at _ _ _ _ (by omega)
    have htd : (t : Int) ∈ chgF gs xs ys := of_decide_eq_true hmem
    rw [hR]
    clear hR
    generalize hRR : wayF gs (mean gs xs) (chgF gs xs ys) 10 t = R at *
    generalize chgF gs xs ys = D at *
    generalize depsF gs xs = DD at *
    generalize mean gs xs = MX at *
    generalize hdl : D.length = dl at *
    have HDL := Lib.hid hdl
    have HMEM := Lib.hid hmem
    have HTD := Lib.hid htd
    have HRR := Lib.hid hRR
    have HWS := Lib.hid hws
    have HWC := Lib.hid hwc
    have HSW := Lib.hid hsw
    have HDSL := Lib.hid hdsl
    have HDLEN := Lib.hid hdlen
    have HDAT := Lib.hid hdat
    have HNN := Lib.hid hn
    clear hmem htd hRR hws hwc hsw hdsl hdlen hdat hdd hdl hcb hok htg h h1 h2 hn hx hy hG hL hL2
    go_enter Try.func9, Try.ntmps9
    go_wp2_with fail
    refine (HCH.out _ (((H.out.alloc (Nat.le_refl _) _).alloc (by simp) _).more (by simp; omega)) (((HX.out.alloc (Nat.le_refl _) _).alloc (by simp) _).more (by simp; omega)) (((HY.out.alloc (Nat.le_refl _) _).alloc (by simp) _).more (by simp; omega))).mono ?_
    rintro e w1 ⟨v1, rfl, ho, hb⟩
    obtain ⟨A5, c5, rfl, hI5⟩ := OwnI.at_ ho HDL.out
    have q1 : w1.cell? ⟨w.heap.size, 0, none⟩ = some (.slice A n c) := (hb.cell (p := ⟨w.heap.size, 0, none⟩) (by simp; omega)).trans (by go_simp)
    have p1 : w1.cell? ⟨w.heap.size + 1, 0, none⟩ = some (.int .i64 t) := (hb.cell (p := ⟨w.heap.size + 1, 0, none⟩) (by simp)).trans (by go_simp)
    have r1 : w1.frozen? ⟨w.heap.size + 1, 0, none⟩ = false := (hb.frozen (p := ⟨w.heap.size + 1, 0, none⟩) (by simp)).trans (by go_simp)
    have hl1 : w.heap.size + 1 < w1.heap.size := by have := hb.size; simp at this; omega
    have hB1 : Below w.heap.size w w1 := ((((Below.refl _ _).alloc (Nat.le_refl _) _).alloc (by simp) _)).trans (hb.mono (by simp; omega))
    have HI5 := Lib.hid hI5
    have HO1 : Hid (OwR (w.heap.size + 2) w1.heap.size 3 1 (.slice A5 dl c5) dl (D.map (Value.int .i64)) w1) := by
      unfold OwnI at ho
      rw [HDL.out] at ho
      exact OwR.start (own_mono ho (by simp))
    clear ho hb hI5
    go_wp2_with fail
    refine (slices_Contains A5 dl c5 D t w1 w1.heap.size (Nat.le_refl _) HDL.out.symm HI5.out (by omega)).mono ?_
    rw [HMEM.out]
    rintro e w2 ⟨rfl, rfl⟩
    go_wp2_with fail
    refine (HDE.out _ ((H.out.below hB1 (Nat.le_refl _)).more hB1.size) ((HX.out.below hB1 (Nat.le_refl _)).more hB1.size)).mono ?_
    rintro e w2 ⟨v2, rfl, ho, hb⟩
    obtain ⟨E, ec, rfl⟩ := ho.form
    rw [HDLEN.out] at ho
    have hen : DD.length = n := HDLEN.out
    rw [hen]
    have q2 := (hb.cell (p := ⟨w.heap.size, 0, none⟩) (by show w.heap.size < w1.heap.size; omega)).trans q1
    have p2 := (hb.cell (p := ⟨w.heap.size + 1, 0, none⟩) hl1).trans p1
    have r2 := (hb.frozen (p := ⟨w.heap.size + 1, 0, none⟩) hl1).trans r1
    have hl2 : w.heap.size + 1 < w2.heap.size := Nat.lt_of_lt_of_le hl1 hb.size
    have hB2 := hB1.trans (hb.mono hB1.size)
    have HW2 : Hid (WhI w.heap.size w2.heap.size A n c gs A5 dl c5 D E n ec DD (w2.alloc (.cells #[.slice E n ec] 44))) := by
      have hba : Below w2.heap.size w2 (w2.alloc (.cells #[.slice E n ec] 44)) := (Below.refl _ _).alloc (Nat.le_refl _) _
      refine ⟨by omega, by simp, ?_, by go_simp, ?_, ?_, ?_, ?_⟩
      · exact (hba.cell (p := ⟨w.heap.size, 0, none⟩) (by show w.heap.size < w2.heap.size; omega)).trans q2
      · exact (hba.frozen (p := ⟨w.heap.size + 1, 0, none⟩) hl2).trans r2
      · exact (H.out.below (hB2.trans (hba.mono hB2.size)) (Nat.le_refl _))
      · exact (HO1.out.keep fun k h1 h2 => (hba.block k (Nat.lt_of_lt_of_le h2 hb.size)).trans (hb.block k h2)).mono (Nat.le_refl _) hb.size
      · exact OwSS.loc _ _ _ _ _ _ _ (ho.mono (by omega) (Nat.le_refl _)) fun k h1 h2 => hba.block k h2
    have HP2 : Hid ((w2.alloc (.cells #[.slice E n ec] 44)).cell? ⟨w.heap.size + 1, 0, none⟩ = some (.int .i64 t)) := (((Below.refl w2.heap.size w2).alloc (Nat.le_refl _) (.cells #[.slice E n ec] 44)).cell (p := ⟨w.heap.size + 1, 0, none⟩) hl2).trans p2
    have HB3 : Hid (Below w.heap.size w (w2.alloc (.cells #[.slice E n ec] 44))) := hB2.alloc hB2.size _
    clear hen ho hb q1 p1 r1 q2 p2 r2 hl1 hB1 hB2 HI5 HO1
    go_upto_region 5 with fail
    obtain ⟨w3, hw3⟩ : ∃ w3, w3 = w2.alloc (.cells #[.slice E n ec] 44) := ⟨_, rfl⟩
    have HZ3 : Hid (w3.heap.size = w2.heap.size + 1) := by rw [hw3]; simp [Hid]
    rw [← hw3] at HW2 HP2 HB3
    rw [← hw3]
    clear hw3
    have hl3 : w.heap.size + 1 < w3.heap.size := by have := HZ3.out; omega
    have hl23 : w2.heap.size + 1 ≤ w3.heap.size := by have := HZ3.out; omega
    have p3 := HP2.out
    have HR3 : Hid ((w3.alloc (.cells #[.int .i64 t] 3)).ownsRow (w2.heap.size + 1) 3 1 (.slice (some ⟨w3.heap.size, 0, none⟩) 1 1) 1 [.int .i64 t]) := World.ownsRow_lit (e := 3) (size := 1) (base := w2.heap.size + 1) w3 #[.int .i64 t] 1 hl23 (by unfold maxLen; omega) rfl
    have hba3 : Below (w2.heap.size + 1) w3 (w3.alloc (.cells #[.int .i64 t] 3)) := (Below.refl _ _).alloc hl23 _
    have HW4 := Lib.hid (HW2.out.below hba3)
    have HP4 := Lib.hid ((hba3.cell (p := ⟨w.heap.size + 1, 0, none⟩) (by show w.heap.size + 1 < w2.heap.size + 1; omega)).trans p3)
    have HB4 := Lib.hid (HB3.out.alloc HB3.out.size (.cells #[.int .i64 t] 3))
    clear hba3
    go_wp2
    go_loopw [11] (fun ov wr => ∃ (m l b cc : Nat) (T : List Int), ov = .slice (some ⟨b, 0, none⟩) l cc ∧ l + m ≤ 11 ∧ m < n ∧ 0 < l ∧ Hid ((m : Int) ∈ D) ∧ Hid (l = T.length + 1) ∧ Hid (wr.ownsRow (w2.heap.size + 1) 3 1 (.slice (some ⟨b, 0, none⟩) l cc) l ((T.reverse ++ [(m : Int)]).map (Value.int .i64))) ∧ Hid (R = wayF gs MX D 10 m ++ T) ∧ Hid (wr.cell? ⟨w.heap.size + 1, 0, none⟩ = some (.int .i64 m)) ∧ Hid (WhI w.heap.size w2.heap.size A n c gs A5 dl c5 D E n ec DD wr) ∧ Hid (Below w.heap.size w wr)) (fun ov _ => 20 - slLen ov)
    case atStart =>
      exact ⟨t, 1, w3.heap.size, 1, [], rfl, by omega, htn, by omega, HTD.out, rfl, by simpa [Hid] using HR3.out, by rw [List.append_nil]; exact HRR.out.symm, HP4.out, HW4.out, HB4.out⟩
    case round =>
      obtain ⟨m, l, b, cc, T, rfl, hlm, hmn, hl0, HMD, HLL, HO, HW, HP, HWI, HB⟩ := hrel
      have hzw : w2.heap.size < wr.heap.size := HWI.out.l11
      have hzg : w.heap.size < wr.heap.size := by omega
      have hzg1 : w.heap.size + 1 < wr.heap.size := by omega
      have q0 := HWI.out.c0
      have q7 := HP.out
      have f7 := HWI.out.f7
      obtain ⟨bg, og, hA, hbg, c0, _⟩ := HWI.out.gr.at_ m (by have := HNN.out; omega)
      have hbgw : bg < wr.heap.size := by omega
      have HSM := Lib.hid ((HSW.out m HMD.out).2)
      have HWSM := Lib.hid (HWS.out m HMD.out)
      have HWCM := Lib.hid (HWC.out m 10)
      have HAN := Lib.hid hA
      generalize (gs.getD m default).k = kd at *
      cases hk : (kd == 0)
      · have hne : (kd != 0) = true := by simp [bne, hk]
        obtain ⟨hnx, hnd, hkl, hk0⟩ := HSM.out hk
        have HND := Lib.hid hnd
        have HWM := Lib.hid (HWSM.out hk)
        have hDDm := HDAT.out m hmn
        have hIc : IS wr w2.heap.size A5 D := HWI.out.ch.ints
        have HIX := Lib.hid (slices_IndexFunc2 35 (.pointer (some ⟨w2.heap.size, 0, none⟩)) (.pointer (some ⟨w.heap.size + 1, 0, none⟩)) (fun y => decide (y ∈ DD.getD m [])) A5 dl c5 D (by omega) wr (fun q w => by kernel_rfl)
          (fun y => why1_at w2.heap.size (w.heap.size + 1) E n ec DD 0 m y wr HDLEN.out.symm hmn HDSL.out (by omega) w2.heap.size (by omega) HWI.out.c10 HP.out HWI.out.dp.lists) HDL.out.symm w2.heap.size hIc (by rw [hDDm]; exact hkl))
        have hKE : (D.filter fun y => decide (y ∈ DD.getD m [])).getD 0 0 = ((nxtW gs MX D m : Nat) : Int) := by rw [hDDm]; exact hk0
        rw [hKE] at HIX
        have HIC := Lib.hid hIc
        clear hk hnd hkl hk0 HWCM HWSM HSM hDDm hKE hIc
        generalize nxtW gs MX D m = m2 at *
        clear hA
        obtain rfl := HAN.out
        clear HAN
        go_wp2_with fail
        refine HIX.out.mono ?_
        rintro e w5 ⟨⟨i, rfl, hil, hiD⟩, rfl⟩
        obtain ⟨bd, od, rfl, hbd, hcd⟩ := HIC.out (by have := HDL.out; omega)
        have d0 := hcd i (by have := HDL.out; omega)
        rw [hiD] at d0
        have hbdw : bd < w5.heap.size := by omega
        clear hcd hiD HIX HIC hbg hbd
        have HO6 := Lib.hid ((ownsRow_setCell_below HO.out (a := ⟨w.heap.size + 1, 0, none⟩) (by show w.heap.size + 1 < w2.heap.size + 1; omega) (.int .i64 m2)))
        have HW6 := Lib.hid (HWI.out.setn (.int .i64 m2))
        have HP6 : Hid ((w5.setCell ⟨w.heap.size + 1, 0, none⟩ (.int .i64 m2)).cell? ⟨w.heap.size + 1, 0, none⟩ = some (.int .i64 m2)) := World.cell?_setCell_same _ _ _ q7
        have HB6 := Lib.hid (HB.out.setCell (p := ⟨w.heap.size + 1, 0, none⟩) (by show w.heap.size ≤ w.heap.size + 1; omega) (.int .i64 m2))
        go_upto_region 9 with fail
        obtain ⟨w6, hw6⟩ : ∃ w6, w6 = w5.setCell ⟨w.heap.size + 1, 0, none⟩ (.int .i64 m2) := ⟨_, rfl⟩
        have HZ6 : Hid (w6.heap.size = w5.heap.size) := by rw [hw6]; simp [Hid, World.setCell]
        rw [← hw6] at HO6 HW6 HP6 HB6
        rw [← hw6]
        have p6 := HP6.out
        have hl6 : w2.heap.size + 1 ≤ w6.heap.size := by have := HZ6.out; omega
        have hl6b : w.heap.size + 1 < w6.heap.size := by have := HZ6.out; omega
        clear hw6 HO HWI HP HB q0 q7 f7 c0 d0 hzw hzg hzg1 hbgw hbdw
        go_wp2_with (at_builtin; refine wpList_append_own _ rfl _ _ 25 rfl (w2.heap.size + 1) 3 i0 (.int .i64 0) 1 8 Try.underlying25 hi hz0 hz1 hz2 rfl (by decide) _ _ _ rfl (HO6.out.alloc _) ⟨_, 0, none⟩ 1 1 [.int .i64 m2] rfl rfl (cell_one_new _ _ _) ?c2 ?c3 ?c4 ?c5 ?_)
        case c2 => first | rfl | (intro u hu; simp at hu; subst hu; rfl)
        case c3 => unfold maxLen; omega
        case c4 => omega
        case c5 => first | omega | (simp; omega)
        intro v' w7 hown' hgrow _
        have hpos := (HO6.out.alloc (.cells #[.int .i64 m2] 3)).lt
        have hba7 : Below (w2.heap.size + 1) w6 w7 := ((Below.refl _ _).alloc hl6 (.cells #[.int .i64 m2] 3)).grown hgrow (by simp; omega) (fun q hq => (hpos q hq).1)
        obtain ⟨g7, c7, rfl⟩ := row_head hown' (by omega)
        have hown'' : w7.ownsRow (w2.heap.size + 1) 3 1 (.slice (some ⟨g7, 0, none⟩) (l + 1) c7) (l + 1) ((((m : Int) :: T).reverse ++ [(m2 : Int)]).map (Value.int .i64)) := by simpa using hown'
        have HO7 := Lib.hid hown''
        have HW7 := Lib.hid (HW6.out.below hba7)
        have HP7 := Lib.hid ((hba7.cell (p := ⟨w.heap.size + 1, 0, none⟩) (by show w.heap.size + 1 < w2.heap.size + 1; omega)).trans p6)
        have HB7 := Lib.hid (HB6.out.trans (hba7.mono (by omega)))
        clear hown' hown'' hgrow hpos hba7 p6
        go_wp2
        go_roundw
        case rel => exact ⟨m2, l + 1, g7, c7, (m : Int) :: T, rfl, by omega, by omega, by omega, HND.out, by show l + 1 = _; rw [HLL.out, List.length_cons], HO7.out, by show R = _; rw [HW.out, HWM.out]; simp, HP7.out, HW7.out, HB7.out⟩
        case measure => simp [slLen]; omega
      · have hne : (kd != 0) = false := by simp [bne, hk]
        have HWM := Lib.hid (HWCM.out hk)
        clear hk HWCM HWSM HSM hA
        obtain rfl := HAN.out
        clear HAN
        have HRV := Lib.hid (slices_Reverse b l cc (w2.heap.size + 1) (T.reverse ++ [(m : Int)]) wr (by have := HLL.out; simp; omega) hl0 (by omega) HO.out)
        go_wp2_with fail
        refine HRV.out.mono ?_
        rintro e w8 ⟨rfl, ho8, hb8⟩
        have HO8 := Lib.hid ho8
        have HB8 := Lib.hid (hb8 _ _ HB.out (by have := (HO.out.lt b rfl).1; omega))
        clear ho8 hb8
        go_wp2
        go_ret
        refine ⟨_, rfl, ?_, HB8.out⟩
        have hR : R = (m : Int) :: T := by rw [HW.out, HWM.out]; rfl
        have ho := HO8.out
        rw [show (T.reverse ++ [(m : Int)]).reverse = (m : Int) :: T by simp] at ho
        rw [hR]
        unfold OwnI
        rw [show ((m : Int) :: T).length = l by rw [HLL.out, List.length_cons]]
        exact own_mono ho (by omega)
end Go.Proofs.Ytehlamofancdjaa
