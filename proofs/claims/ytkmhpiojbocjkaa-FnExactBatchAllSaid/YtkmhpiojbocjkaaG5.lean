/- The contracts of both ValidGraph. -/
import Derived.Test.YtkmhpiojbocjkaaM4
import Derived.Test.YtkmhpiojbocjkaaA17
import Derived.BigQuiet
namespace Go.Proofs.Ytkmhpiojbocjkaa
set_option linter.unusedSimpArgs false
set_option linter.unusedVariables false
open Go.RowKit

theorem GS.at_ {w : World} {B : Nat} {A : Option Addr} {gs : List Nd} (h : GS w B A gs) (j : Nat) (hj : j < gs.length) : ∃ b off, A = some ⟨b, off, none⟩ ∧ b < B ∧ NdS w B b (off + j * 2) (gs.getD j default) := by
  obtain ⟨b, off, e, hb, hc⟩ := h (by omega)
  exact ⟨b, off, e, hb, hc j hj⟩

theorem drewN_below {B n : Nat} {a w : World} (h : Below B a w) : Below B a (w.drewN n) := ⟨h.os, h.tape, h.output, h.size, h.block⟩

set_option maxRecDepth 100000 in
set_option maxHeartbeats 1600000 in
theorem spec_goodReads (A : Option Addr) (n c : Nat) (gs : List Nd) (i : Nat) (w : World) (B : Nat) (hB : B ≤ w.heap.size) (hn : n = gs.length) (h : GS w B A gs) (hs : GB gs) (hi : i < n) :
    Calls Try.prog 53 #[.agg #[.slice A n c], .int .i64 i] w fun e w' => e = .returned (.bool (goodRd gs i)) ∧ Below w.heap.size w w' := by
  have hn1 : n ≤ 1048576 := by rw [hn]; exact hs.1
  have hs1 := hs.2 i
  obtain ⟨b, off, rfl, hbB, hd⟩ := h.at_ i (by omega)
  obtain ⟨c0, A1, n1, c1, c2, hn1', hps⟩ := hd
  have hgr : goodRd gs i = (mayR (gs.getD i default).ps).all (rdOK gs i) := rfl
  rw [hgr]
  have hbd := mayR_getD_bd (gs.getD i default).ps
  generalize hp : gs.getD i default = d at *
  have hy1 : n1 ≤ 1999999 := by omega
  have H := Lib.hid h
  have HN := Lib.hid hn
  have HN1 := Lib.hid hn1'
  have HPS := Lib.hid hps
  have HBD := Lib.hid hbd
  have hbw : b < w.heap.size := by omega
  have HM := Lib.hid fun (w : World) (hB : B ≤ w.heap.size) (h : PS w B A1 d.ps) => spec_mayRead A1 n1 c1 d.ps w B hB hn1' h (by omega)
  have hml := mayR_len d.ps 10
  rw [mayR_below] at hml
  generalize mayR d.ps = L at *
  generalize hl : L.length = l at *
  have HL := Lib.hid hl
  clear h hn hn1' hps hp hgr hs hs1 hbd hl
  go_enter Try.func53, Try.ntmps53
  go_wp2_with fail
  refine (HM.out _ (by simp; omega) (HPS.out.alloc hB _)).mono ?_
  rintro e w1 ⟨v1, rfl, hown, hb1⟩
  obtain ⟨g, cL, hgv, hbg, hgw⟩ := hown.form
  rw [HL.out] at hgv
  subst hgv
  have hsz1 : w.heap.size < w1.heap.size := by simp at hbg; omega
  have hI : IS w1 w1.heap.size (some ⟨g, 0, none⟩) L := by have := hown.1; rw [HL.out] at this; exact IS.of_own this
  have HI := Lib.hid hI
  have HG := Lib.hid ((H.out.alloc hB (.cells #[.slice (some ⟨b, off, none⟩) n c] 31)).below hb1 (by simp; omega))
  have hbox : w1.cell? ⟨w.heap.size, 0, none⟩ = some (.slice (some ⟨b, off, none⟩) n c) := (hb1.cell (p := ⟨w.heap.size, 0, none⟩) (by simp)).trans (by go_simp)
  have hB1 : Below w.heap.size w w1 := ((Below.refl _ _).alloc (Nat.le_refl _) _).trans (hb1.mono (by simp))
  clear hown hb1 H HPS HM hI
  go_wp2
  go_loopw [6] (fun u wr => ∃ k : Nat, k ≤ l ∧ u = .int .i64 k ∧ Hid (∀ j, j < k → rdOK gs i (L.getD j 0) = true) ∧ Below w1.heap.size w1 wr) (fun u _ => l - (intOf u).toNat)
  case atStart => exact ⟨0, by omega, rfl, by intro j hj; omega, Below.refl _ _⟩
  case round =>
    obtain ⟨k, hk, rfl, HK, hbr⟩ := hrel
    by_cases hlt : k < l
    · obtain ⟨b', off', e', _, hc⟩ := HI.out (by have := HL.out; omega)
      cases e'
      have hx := hc k (by have := HL.out; omega)
      obtain ⟨hx0, hx1⟩ := HBD.out k (by have := HL.out; omega)
      clear hc
      generalize hxx : L.getD k 0 = x at *
      have HX := Lib.hid hxx
      clear hxx
      obtain ⟨t, rfl⟩ : ∃ t : Nat, x = (t : Int) := ⟨x.toNat, by omega⟩
      have e1 : wr.cell? ⟨g, 0 + k, none⟩ = some (.int .i64 t) := (hbr.cell (p := ⟨g, 0 + k, none⟩) hgw).trans hx
      rw [Nat.zero_add] at e1
      have e2 : wr.cell? ⟨w.heap.size, 0, none⟩ = some (.slice (some ⟨b, off, none⟩) n c) := (hbr.cell (p := ⟨w.heap.size, 0, none⟩) hsz1).trans hbox
      by_cases hti : t < i
      · obtain ⟨b', off', e', _, c3, _⟩ := HG.out.at_ t (by have := HN.out; omega)
        cases e'
        have e3 : wr.cell? ⟨b, off + t * 2, none⟩ = some (.int .i64 (gs.getD t default).k) := (hbr.cell (p := ⟨b, off + t * 2, none⟩) (by show b < w1.heap.size; omega)).trans c3
        have hro : rdOK gs i (t : Int) = !((gs.getD t default).k == 2) := by unfold rdOK; rw [decide_eq_true (by omega)]; simp
        clear c3
        generalize gs.getD t default = q at *
        have hd1 : decide ((i : Int) ≤ (t : Int)) = false := by simp; omega
        have htn : t < n := by omega
        cases hq : (q.k == 2)
        all_goals
          have HR := Lib.hid hro
          have HQ := Lib.hid hq
          clear hro
          go_wp2
          go_quiet (fail)
          go_wp2
        · go_roundw
          case rel => exact ⟨k + 1, by omega, by go_num, fun j hj => by
            rcases Nat.lt_or_ge j k with h1 | h1
            · exact HK.out j h1
            · obtain rfl : j = k := by omega
              rw [HX.out, HR.out, HQ.out]; rfl, drewN_below hbr⟩
          case measure => simp [intOf]; omega
        · go_ret
          refine ⟨ret_b ?_, hB1.trans ((drewN_below hbr).mono (by omega))⟩
          exact (all_bad L (rdOK gs i) k (by have := HL.out; omega) (by rw [HX.out, HR.out, HQ.out]; rfl)).symm
      · have hro : rdOK gs i (t : Int) = false := by unfold rdOK; rw [decide_eq_false (by omega)]; rfl
        have HR := Lib.hid hro
        have hd1 : decide ((i : Int) ≤ (t : Int)) = true := by simp; omega
        clear hro
        go_wp2
        go_quiet (fail)
        go_wp2
        go_ret
        refine ⟨ret_b ?_, hB1.trans ((drewN_below hbr).mono (by omega))⟩
        exact (all_bad L (rdOK gs i) k (by have := HL.out; omega) (by rw [HX.out, HR.out])).symm
    · go_wp2
      go_ret
      refine ⟨ret_b ?_, hB1.trans (hbr.mono (by omega))⟩
      exact (all_good L (rdOK gs i) fun j hj => HK.out j (by have := HL.out; omega)).symm

set_option maxRecDepth 100000 in
set_option maxHeartbeats 3200000 in
theorem spec_validGraph (A : Option Addr) (n c : Nat) (gs : List Nd) (w : World) (B : Nat) (hB : B ≤ w.heap.size) (hn : n = gs.length) (h : GS w B A gs) (hs : GB gs) :
    Calls Try.prog 36 #[.agg #[.slice A n c]] w fun e w' => e = .returned (.bool (validG gs)) ∧ Below w.heap.size w w' := by
  have hn1 : n ≤ 1048576 := by rw [hn]; exact hs.1
  have H := Lib.hid h
  have HN := Lib.hid hn
  have HS := Lib.hid hs
  clear h hn hs
  go_enter Try.func36, Try.ntmps36
  go_wp2
  go_loopw [3] (fun u wr => ∃ k : Nat, k ≤ n ∧ u = .int .i64 k ∧ Hid (∀ j, j < k → nodeOK gs j = true) ∧ Below (w.heap.size + 1) (w.alloc (.cells #[.slice A n c] 31)) wr) (fun u _ => n - (intOf u).toNat)
  case atStart => exact ⟨0, by omega, rfl, by intro j hj; omega, Below.refl _ _⟩
  case round =>
    obtain ⟨k, hk, rfl, HK, hbr⟩ := hrel
    have hbox : wr.cell? ⟨w.heap.size, 0, none⟩ = some (.slice A n c) := (hbr.cell (p := ⟨w.heap.size, 0, none⟩) (by simp)).trans (by go_simp)
    have hwr : w.heap.size + 1 ≤ wr.heap.size := by have := hbr.size; simpa using this
    by_cases hlt : k < n
    · obtain ⟨b, off, rfl, hbB, c0, A1, n1, c1, c2, hn1', hps⟩ := H.out.at_ k (by have := HN.out; omega)
      have hx := HS.out.2 k
      have b0 : wr.cell? ⟨b, off + k * 2, none⟩ = _ := ((hbr.cell (p := ⟨b, off + k * 2, none⟩) (by simp; omega)).trans (World.cell?_alloc_lt _ _ _ (by simp; omega))).trans c0
      have b1 : wr.cell? ⟨b, off + k * 2 + 1, none⟩ = _ := ((hbr.cell (p := ⟨b, off + k * 2 + 1, none⟩) (by simp; omega)).trans (World.cell?_alloc_lt _ _ _ (by simp; omega))).trans c2
      have HPS := Lib.hid ((hps.alloc hB (.cells #[.slice (some ⟨b, off, none⟩) n c] 31)).below hbr (by omega))
      have HGS := Lib.hid ((H.out.alloc hB (.cells #[.slice (some ⟨b, off, none⟩) n c] 31)).below hbr (by omega))
      have hok : nodeOK gs k = if (gs.getD k default).k == 0 then decide ((gs.getD k default).ps.length = 0) else if (gs.getD k default).k == 1 then validF (gs.getD k default).ps && goodRd gs k else if (gs.getD k default).k == 2 then validF (gs.getD k default).ps && goodRd gs k else false := rfl
      clear c0 c2 hps
      generalize gs.getD k default = d at *
      have hy1 : n1 ≤ 1999999 := by omega
      have HN1 := Lib.hid hn1'
      have HGR := Lib.hid fun (w : World) (hB : B ≤ w.heap.size) (h : GS w B (some ⟨b, off, none⟩) gs) => spec_goodReads (some ⟨b, off, none⟩) n c gs k w B hB HN.out h HS.out hlt
      have HVF := Lib.hid fun (w : World) (hB : B ≤ w.heap.size) (h : PS w B A1 d.ps) => spec_validFormula A1 n1 c1 d.ps w B hB HN1.out h (by omega)
      generalize goodRd gs k = r at *
      generalize validF d.ps = f at *
      have HOK := Lib.hid hok
      clear hok hx
      cases h0 : (d.k == 0)
      · cases h1 : (d.k == 1)
        · cases h2 : (d.k == 2)
          · clear hn1'
            have H0 := Lib.hid h0
            have H1 := Lib.hid h1
            have H2 := Lib.hid h2
            go_wp2
            go_ret
            refine ⟨ret_b ?_, ((Below.refl _ _).alloc (Nat.le_refl _) _).trans ((hbr.alloc (by omega) _).mono (by omega))⟩
            exact (validG_bad gs k (by have := HN.out; omega) (by rw [HOK.out, H0.out, H1.out, H2.out]; rfl)).symm
          · clear hn1'
            have H0 := Lib.hid h0
            have H1 := Lib.hid h1
            have H2 := Lib.hid h2
            cases f
            · go_wp2_with fail
              refine (HVF.out _ (by simp; omega) (HPS.out.alloc (by omega) _)).mono ?_
              rintro e w1 ⟨rfl, hb1⟩
              have HG1 := Lib.hid ((HGS.out.alloc (by omega) (.cells #[.int .i64 d.k, .slice A1 n1 c1] 85)).below hb1 (by simp; omega))
              have hz1 : w.heap.size + 1 < w1.heap.size := by have := hb1.size; simp at this; omega
              have hB1 := (hbr.alloc (by omega) (.cells #[.int .i64 d.k, .slice A1 n1 c1] 85)).trans (hb1.mono (by simp; omega))
              have hbox1 : w1.cell? ⟨w.heap.size, 0, none⟩ = some (.slice (some ⟨b, off, none⟩) n c) := (hB1.cell (p := ⟨w.heap.size, 0, none⟩) (by simp)).trans (by go_simp)
              go_wp2
              go_ret
              refine ⟨ret_b ?_, ((Below.refl _ _).alloc (Nat.le_refl _) _).trans (hB1.mono (by omega))⟩
              exact (validG_bad gs k (by have := HN.out; omega) (by rw [HOK.out, H0.out, H1.out, H2.out]; rfl)).symm
            · cases r
              · go_wp2_with fail
                refine (HVF.out _ (by simp; omega) (HPS.out.alloc (by omega) _)).mono ?_
                rintro e w1 ⟨rfl, hb1⟩
                have HG1 := Lib.hid ((HGS.out.alloc (by omega) (.cells #[.int .i64 d.k, .slice A1 n1 c1] 85)).below hb1 (by simp; omega))
                have hz1 : w.heap.size + 1 < w1.heap.size := by have := hb1.size; simp at this; omega
                have hB1 := (hbr.alloc (by omega) (.cells #[.int .i64 d.k, .slice A1 n1 c1] 85)).trans (hb1.mono (by simp; omega))
                have hbox1 : w1.cell? ⟨w.heap.size, 0, none⟩ = some (.slice (some ⟨b, off, none⟩) n c) := (hB1.cell (p := ⟨w.heap.size, 0, none⟩) (by simp)).trans (by go_simp)
                go_wp2_with fail
                refine (HGR.out _ (by omega) HG1.out).mono ?_
                rintro e w2 ⟨rfl, hb2⟩
                have hB2 := hB1.trans (hb2.mono (by omega))
                go_wp2
                go_ret
                refine ⟨ret_b ?_, ((Below.refl _ _).alloc (Nat.le_refl _) _).trans (hB2.mono (by omega))⟩
                exact (validG_bad gs k (by have := HN.out; omega) (by rw [HOK.out, H0.out, H1.out, H2.out]; rfl)).symm
              · go_wp2_with fail
                refine (HVF.out _ (by simp; omega) (HPS.out.alloc (by omega) _)).mono ?_
                rintro e w1 ⟨rfl, hb1⟩
                have HG1 := Lib.hid ((HGS.out.alloc (by omega) (.cells #[.int .i64 d.k, .slice A1 n1 c1] 85)).below hb1 (by simp; omega))
                have hz1 : w.heap.size + 1 < w1.heap.size := by have := hb1.size; simp at this; omega
                have hB1 := (hbr.alloc (by omega) (.cells #[.int .i64 d.k, .slice A1 n1 c1] 85)).trans (hb1.mono (by simp; omega))
                have hbox1 : w1.cell? ⟨w.heap.size, 0, none⟩ = some (.slice (some ⟨b, off, none⟩) n c) := (hB1.cell (p := ⟨w.heap.size, 0, none⟩) (by simp)).trans (by go_simp)
                go_wp2_with fail
                refine (HGR.out _ (by omega) HG1.out).mono ?_
                rintro e w2 ⟨rfl, hb2⟩
                have hB2 := hB1.trans (hb2.mono (by omega))
                go_wp2
                go_roundw
                case rel => exact ⟨k + 1, by omega, by go_num, fun j hj => by
                  rcases Nat.lt_or_ge j k with h1 | h1
                  · exact HK.out j h1
                  · obtain rfl : j = k := by omega
                    rw [HOK.out, H0.out, H1.out, H2.out]; rfl, hB2⟩
                case measure => simp [intOf]; omega
        · clear hn1'
          have H0 := Lib.hid h0
          have H1 := Lib.hid h1
          cases f
          · go_wp2_with fail
            refine (HVF.out _ (by simp; omega) (HPS.out.alloc (by omega) _)).mono ?_
            rintro e w1 ⟨rfl, hb1⟩
            have HG1 := Lib.hid ((HGS.out.alloc (by omega) (.cells #[.int .i64 d.k, .slice A1 n1 c1] 85)).below hb1 (by simp; omega))
            have hz1 : w.heap.size + 1 < w1.heap.size := by have := hb1.size; simp at this; omega
            have hB1 := (hbr.alloc (by omega) (.cells #[.int .i64 d.k, .slice A1 n1 c1] 85)).trans (hb1.mono (by simp; omega))
            have hbox1 : w1.cell? ⟨w.heap.size, 0, none⟩ = some (.slice (some ⟨b, off, none⟩) n c) := (hB1.cell (p := ⟨w.heap.size, 0, none⟩) (by simp)).trans (by go_simp)
            go_wp2
            go_ret
            refine ⟨ret_b ?_, ((Below.refl _ _).alloc (Nat.le_refl _) _).trans (hB1.mono (by omega))⟩
            exact (validG_bad gs k (by have := HN.out; omega) (by rw [HOK.out, H0.out, H1.out]; rfl)).symm
          · cases r
            · go_wp2_with fail
              refine (HVF.out _ (by simp; omega) (HPS.out.alloc (by omega) _)).mono ?_
              rintro e w1 ⟨rfl, hb1⟩
              have HG1 := Lib.hid ((HGS.out.alloc (by omega) (.cells #[.int .i64 d.k, .slice A1 n1 c1] 85)).below hb1 (by simp; omega))
              have hz1 : w.heap.size + 1 < w1.heap.size := by have := hb1.size; simp at this; omega
              have hB1 := (hbr.alloc (by omega) (.cells #[.int .i64 d.k, .slice A1 n1 c1] 85)).trans (hb1.mono (by simp; omega))
              have hbox1 : w1.cell? ⟨w.heap.size, 0, none⟩ = some (.slice (some ⟨b, off, none⟩) n c) := (hB1.cell (p := ⟨w.heap.size, 0, none⟩) (by simp)).trans (by go_simp)
              go_wp2_with fail
              refine (HGR.out _ (by omega) HG1.out).mono ?_
              rintro e w2 ⟨rfl, hb2⟩
              have hB2 := hB1.trans (hb2.mono (by omega))
              go_wp2
              go_ret
              refine ⟨ret_b ?_, ((Below.refl _ _).alloc (Nat.le_refl _) _).trans (hB2.mono (by omega))⟩
              exact (validG_bad gs k (by have := HN.out; omega) (by rw [HOK.out, H0.out, H1.out]; rfl)).symm
            · go_wp2_with fail
              refine (HVF.out _ (by simp; omega) (HPS.out.alloc (by omega) _)).mono ?_
              rintro e w1 ⟨rfl, hb1⟩
              have HG1 := Lib.hid ((HGS.out.alloc (by omega) (.cells #[.int .i64 d.k, .slice A1 n1 c1] 85)).below hb1 (by simp; omega))
              have hz1 : w.heap.size + 1 < w1.heap.size := by have := hb1.size; simp at this; omega
              have hB1 := (hbr.alloc (by omega) (.cells #[.int .i64 d.k, .slice A1 n1 c1] 85)).trans (hb1.mono (by simp; omega))
              have hbox1 : w1.cell? ⟨w.heap.size, 0, none⟩ = some (.slice (some ⟨b, off, none⟩) n c) := (hB1.cell (p := ⟨w.heap.size, 0, none⟩) (by simp)).trans (by go_simp)
              go_wp2_with fail
              refine (HGR.out _ (by omega) HG1.out).mono ?_
              rintro e w2 ⟨rfl, hb2⟩
              have hB2 := hB1.trans (hb2.mono (by omega))
              go_wp2
              go_roundw
              case rel => exact ⟨k + 1, by omega, by go_num, fun j hj => by
                rcases Nat.lt_or_ge j k with h1 | h1
                · exact HK.out j h1
                · obtain rfl : j = k := by omega
                  rw [HOK.out, H0.out, H1.out]; rfl, hB2⟩
              case measure => simp [intOf]; omega
      · have H0 := Lib.hid h0
        by_cases hz : 0 < n1
        · clear hn1'
          go_wp2
          go_ret
          refine ⟨ret_b ?_, ((Below.refl _ _).alloc (Nat.le_refl _) _).trans ((hbr.alloc (by omega) _).mono (by omega))⟩
          exact (validG_bad gs k (by have := HN.out; omega) (by rw [HOK.out, H0.out]; exact decide_eq_false (by have := HN1.out; omega))).symm
        · obtain rfl : n1 = 0 := by omega
          clear hn1'
          go_wp2
          go_roundw
          case rel => exact ⟨k + 1, by omega, by go_num, fun j hj => by
            rcases Nat.lt_or_ge j k with h1 | h1
            · exact HK.out j h1
            · obtain rfl : j = k := by omega
              rw [HOK.out, H0.out]; exact decide_eq_true (by have := HN1.out; omega), hbr.alloc (by omega) _⟩
          case measure => simp [intOf]; omega
    · go_wp2
      go_ret
      refine ⟨ret_b ?_, ((Below.refl _ _).alloc (Nat.le_refl _) _).trans (hbr.mono (by omega))⟩
      rw [validG_fin gs fun j hj => HK.out j (by have := HN.out; omega)]
      have := HN.out
      simp
      omega
end Go.Proofs.Ytkmhpiojbocjkaa
