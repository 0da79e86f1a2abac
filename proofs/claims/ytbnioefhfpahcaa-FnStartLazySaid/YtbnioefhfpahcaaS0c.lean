/- Words and contracts for memory that the texts behind use. -/
import Derived.Test.YtbnioefhfpahcaaS0b
import Derived.WalkKit
import Derived.Laws.OwnMore
import Derived.Deep.Draws
import Derived.Test.YtbnioefhfpahcaaProg
import Derived.WalkSpells
import Derived.WalkLawsBesides
import Derived.Outline
import Derived.Lib.Hide
import Derived.BigQuiet
import Derived.Deep.QuietTactic
import Derived.StillTailTactics
import Derived.Deep.LoopGhost
import Derived.Laws.MakeOwn
import Derived.WalkSmall
import Derived.RegionTactic
import Derived.BigRegion
import Derived.Deep.RegionWith
import Derived.Deep.RegionHeld3
import Derived.Maps.AppendAt
import Derived.Laws.CopyOwn
import Derived.Deep.AppendLies
import Derived.Deep.Cut
import Derived.Laws.Entries
import Derived.Laws.Bits64
import Derived.IntWalk
import Derived.Deep.RegionLaw
import Derived.Deep.DeepCutAuto
import Derived.Test.YtbnioefhfpahcaaRows
import Derived.ProofKit
import Derived.OpenShut
import Derived.ShutString
import Derived.ChangeOld
import Derived.Below
import Derived.Deep.Slices
import Derived.Deep.Fields

namespace Go.Proofs.Ytbnioefhfpahcaa
set_option linter.unusedSimpArgs false
set_option linter.unusedVariables false
open Go.RowKit
theorem GS.at_ {w : World} {B : Nat} {A : Option Addr} {gs : List Nd} (h : GS w B A gs) (j : Nat) (hj : j < gs.length) : ∃ b off, A = some ⟨b, off, none⟩ ∧ b < B ∧ NdS w B b (off + j * 2) (gs.getD j default) := by
  obtain ⟨b, off, e, hb, hc⟩ := h (by omega)
  exact ⟨b, off, e, hb, hc j hj⟩
theorem drewN_below {B n : Nat} {a w : World} (h : Below B a w) : Below B a (w.drewN n) := ⟨h.os, h.tape, h.output, h.size, h.block⟩
set_option maxRecDepth 100000 in
set_option maxHeartbeats 1600000 in
theorem spec_goodReads (A : Option Addr) (n c : Nat) (gs : List Nd) (i : Nat) (w : World) (B : Nat) (hB : B ≤ w.heap.size) (hn : n = gs.length) (h : GS w B A gs) (hs : GB gs) (hi : i < n) :
    Calls Try.prog 29 #[.agg #[.slice A n c], .int .i64 i] w fun e w' => e = .returned (.bool (goodRd gs i)) ∧ Below w.heap.size w w' := by
  have hn1 : n ≤ 1048576 := by rw [hn]; exact hs.1
  have hs1 := hs.2 i
  obtain ⟨b, off, rfl, hbB, hd⟩ := h.at_ i (by omega)
  obtain ⟨c0, A1, n1, c1, c2, hn1', hps⟩ := hd
  have hgr : goodRd gs i = (mayR (gs.getD i default).ps).all (rdOK gs i) := rfl
  rw [hgr]
  have hbd := mayR_getD_bd (gs.getD i default).ps
  generalize hp : gs.getD i default = d at *
  have hy1 : n1 ≤ 1999999 := by omega
  have H := Lib.hid h
  have HN := Lib.hid hn
  have HN1 := Lib.hid hn1'
  have HPS := Lib.hid hps
  have HBD := Lib.hid hbd
  have hbw : b < w.heap.size := by omega
  have HM := Lib.hid fun (w : World) (hB : B ≤ w.heap.size) (h : PS w B A1 d.ps) => spec_mayRead A1 n1 c1 d.ps w B hB hn1' h (by omega)
  have hml := mayR_len d.ps 10
  rw [mayR_below] at hml
  generalize mayR d.ps = L at *
  generalize hl : L.length = l at *
  have HL := Lib.hid hl
  clear h hn hn1' hps hp hgr hs hs1 hbd hl
  go_enter Try.func29, Try.ntmps29
  go_wp2_with fail
  refine (HM.out _ (by simp; omega) (HPS.out.alloc hB _)).mono ?_
  rintro e w1 ⟨v1, rfl, hown, hb1⟩
  obtain ⟨g, cL, hgv, hbg, hgw⟩ := hown.form
  rw [HL.out] at hgv
  subst hgv
  have hsz1 : w.heap.size < w1.heap.size := by simp at hbg; omega
  have hI : IS w1 w1.heap.size (some ⟨g, 0, none⟩) L := by have := hown.1; rw [HL.out] at this; exact IS.of_own this
  have HI := Lib.hid hI
  have HG := Lib.hid ((H.out.alloc hB (.cells #[.slice (some ⟨b, off, none⟩) n c] 25)).below hb1 (by simp; omega))
  have hbox : w1.cell? ⟨w.heap.size, 0, none⟩ = some (.slice (some ⟨b, off, none⟩) n c) := (hb1.cell (p := ⟨w.heap.size, 0, none⟩) (by simp)).trans (by go_simp)
  have hB1 : Below w.heap.size w w1 := ((Below.refl _ _).alloc (Nat.le_refl _) _).trans (hb1.mono (by simp))
  clear hown hb1 H HPS HM hI
  go_wp2
  go_loopw [6] (fun u wr => ∃ k : Nat, k ≤ l ∧ u = .int .i64 k ∧ Hid (∀ j, j < k → rdOK gs i (L.getD j 0) = true) ∧ Below w1.heap.size w1 wr) (fun u _ => l - (intOf u).toNat)
  case atStart => exact ⟨0, by omega, rfl, by intro j hj; omega, Below.refl _ _⟩
  case round =>
    obtain ⟨k, hk, rfl, HK, hbr⟩ := hrel
    by_cases hlt : k < l
    · obtain ⟨b', off', e', _, hc⟩ := HI.out (by have := HL.out; omega)
      cases e'
      have hx := hc k (by have := HL.out; omega)
      obtain ⟨hx0, hx1⟩ := HBD.out k (by have := HL.out; omega)
      clear hc
      generalize hxx : L.getD k 0 = x at *
      have HX := Lib.hid hxx
      clear hxx
      obtain ⟨t, rfl⟩ : ∃ t : Nat, x = (t : Int) := ⟨x.toNat, by omega⟩
      have e1 : wr.cell? ⟨g, 0 + k, none⟩ = some (.int .i64 t) := (hbr.cell (p := ⟨g, 0 + k, none⟩) hgw).trans hx
      rw [Nat.zero_add] at e1
      have e2 : wr.cell? ⟨w.heap.size, 0, none⟩ = some (.slice (some ⟨b, off, none⟩) n c) := (hbr.cell (p := ⟨w.heap.size, 0, none⟩) hsz1).trans hbox
      by_cases hti : t < i
      · obtain ⟨b', off', e', _, c3, _⟩ := HG.out.at_ t (by have := HN.out; omega)
        cases e'
        have e3 : wr.cell? ⟨b, off + t * 2, none⟩ = some (.int .i64 (gs.getD t default).k) := (hbr.cell (p := ⟨b, off + t * 2, none⟩) (by show b < w1.heap.size; omega)).trans c3
        have hro : rdOK gs i (t : Int) = !((gs.getD t default).k == 2) := by unfold rdOK; rw [decide_eq_true (by omega)]; simp
        clear c3
        generalize gs.getD t default = q at *
        have hd1 : decide ((i : Int) ≤ (t : Int)) = false := by simp; omega
        have htn : t < n := by omega
        cases hq : (q.k == 2)
        all_goals
          have HR := Lib.hid hro
          have HQ := Lib.hid hq
          clear hro
          go_wp2
          go_quiet (fail)
          go_wp2
        · go_roundw
          case rel => exact ⟨k + 1, by omega, by go_num, fun j hj => by
            rcases Nat.lt_or_ge j k with h1 | h1
            · exact HK.out j h1
            · obtain rfl : j = k := by omega
              rw [HX.out, HR.out, HQ.out]; rfl, drewN_below hbr⟩
          case measure => simp [intOf]; omega
        · go_ret
          refine ⟨ret_b ?_, hB1.trans ((drewN_below hbr).mono (by omega))⟩
          exact (all_bad L (rdOK gs i) k (by have := HL.out; omega) (by rw [HX.out, HR.out, HQ.out]; rfl)).symm
      · have hro : rdOK gs i (t : Int) = false := by unfold rdOK; rw [decide_eq_false (by omega)]; rfl
        have HR := Lib.hid hro
        have hd1 : decide ((i : Int) ≤ (t : Int)) = true := by simp; omega
        clear hro
        go_wp2
        go_quiet (fail)
        go_wp2
        go_ret
        refine ⟨ret_b ?_, hB1.trans ((drewN_below hbr).mono (by omega))⟩
        exact (all_bad L (rdOK gs i) k (by have := HL.out; omega) (by rw [HX.out, HR.out])).symm
    · go_wp2
      go_ret
      refine ⟨ret_b ?_, hB1.trans (hbr.mono (by omega))⟩
      exact (all_good L (rdOK gs i) fun j hj => HK.out j (by have := HL.out; omega)).symm
set_option maxRecDepth 100000 in
set_option maxHeartbeats 3200000 in
theorem spec_validGraph (A : Option Addr) (n c : Nat) (gs : List Nd) (w : World) (B : Nat) (hB : B ≤ w.heap.size) (hn : n = gs.length) (h : GS w B A gs) (hs : GB gs) :
    Calls Try.prog 18 #[.agg #[.slice A n c]] w fun e w' => e = .returned (.bool (validG gs)) ∧ Below w.heap.size w w' := by
  have hn1 : n ≤ 1048576 := by rw [hn]; exact hs.1
  have H := Lib.hid h
  have HN := Lib.hid hn
  have HS := Lib.hid hs
  clear h hn hs
  go_enter Try.func18, Try.ntmps18
  go_wp2
  go_loopw [3] (fun u wr => ∃ k : Nat, k ≤ n ∧ u = .int .i64 k ∧ Hid (∀ j, j < k → nodeOK gs j = true) ∧ Below (w.heap.size + 1) (w.alloc (.cells #[.slice A n c] 25)) wr) (fun u _ => n - (intOf u).toNat)
  case atStart => exact ⟨0, by omega, rfl, by intro j hj; omega, Below.refl _ _⟩
  case round =>
    obtain ⟨k, hk, rfl, HK, hbr⟩ := hrel
    have hbox : wr.cell? ⟨w.heap.size, 0, none⟩ = some (.slice A n c) := (hbr.cell (p := ⟨w.heap.size, 0, none⟩) (by simp)).trans (by go_simp)
    have hwr : w.heap.size + 1 ≤ wr.heap.size := by have := hbr.size; simpa using this
    by_cases hlt : k < n
    · obtain ⟨b, off, rfl, hbB, c0, A1, n1, c1, c2, hn1', hps⟩ := H.out.at_ k (by have := HN.out; omega)
      have hx := HS.out.2 k
      have b0 : wr.cell? ⟨b, off + k * 2, none⟩ = _ := ((hbr.cell (p := ⟨b, off + k * 2, none⟩) (by simp; omega)).trans (World.cell?_alloc_lt _ _ _ (by simp; omega))).trans c0
      have b1 : wr.cell? ⟨b, off + k * 2 + 1, none⟩ = _ := ((hbr.cell (p := ⟨b, off + k * 2 + 1, none⟩) (by simp; omega)).trans (World.cell?_alloc_lt _ _ _ (by simp; omega))).trans c2
      have HPS := Lib.hid ((hps.alloc hB (.cells #[.slice (some ⟨b, off, none⟩) n c] 25)).below hbr (by omega))
      have HGS := Lib.hid ((H.out.alloc hB (.cells #[.slice (some ⟨b, off, none⟩) n c] 25)).below hbr (by omega))
      have hok : nodeOK gs k = if (gs.getD k default).k == 0 then decide ((gs.getD k default).ps.length = 0) else if (gs.getD k default).k == 1 then validF (gs.getD k default).ps && goodRd gs k else if (gs.getD k default).k == 2 then validF (gs.getD k default).ps && goodRd gs k else false := rfl
      clear c0 c2 hps
      generalize gs.getD k default = d at *
      have hy1 : n1 ≤ 1999999 := by omega
      have HN1 := Lib.hid hn1'
      have HGR := Lib.hid fun (w : World) (hB : B ≤ w.heap.size) (h : GS w B (some ⟨b, off, none⟩) gs) => spec_goodReads (some ⟨b, off, none⟩) n c gs k w B hB HN.out h HS.out hlt
      have HVF := Lib.hid fun (w : World) (hB : B ≤ w.heap.size) (h : PS w B A1 d.ps) => spec_validFormula A1 n1 c1 d.ps w B hB HN1.out h (by omega)
      generalize goodRd gs k = r at *
      generalize validF d.ps = f at *
      have HOK := Lib.hid hok
      clear hok hx
      cases h0 : (d.k == 0)
      · cases h1 : (d.k == 1)
        · cases h2 : (d.k == 2)
          · clear hn1'
            have H0 := Lib.hid h0
            have H1 := Lib.hid h1
            have H2 := Lib.hid h2
            go_wp2
            go_ret
            refine ⟨ret_b ?_, ((Below.refl _ _).alloc (Nat.le_refl _) _).trans ((hbr.alloc (by omega) _).mono (by omega))⟩
            exact (validG_bad gs k (by have := HN.out; omega) (by rw [HOK.out, H0.out, H1.out, H2.out]; rfl)).symm
          · clear hn1'
            have H0 := Lib.hid h0
            have H1 := Lib.hid h1
            have H2 := Lib.hid h2
            cases f
            · go_wp2_with fail
              refine (HVF.out _ (by simp; omega) (HPS.out.alloc (by omega) _)).mono ?_
              rintro e w1 ⟨rfl, hb1⟩
              have HG1 := Lib.hid ((HGS.out.alloc (by omega) (.cells #[.int .i64 d.k, .slice A1 n1 c1] 41)).below hb1 (by simp; omega))
              have hz1 : w.heap.size + 1 < w1.heap.size := by have := hb1.size; simp at this; omega
              have hB1 := (hbr.alloc (by omega) (.cells #[.int .i64 d.k, .slice A1 n1 c1] 41)).trans (hb1.mono (by simp; omega))
              have hbox1 : w1.cell? ⟨w.heap.size, 0, none⟩ = some (.slice (some ⟨b, off, none⟩) n c) := (hB1.cell (p := ⟨w.heap.size, 0, none⟩) (by simp)).trans (by go_simp)
              go_wp2
              go_ret
              refine ⟨ret_b ?_, ((Below.refl _ _).alloc (Nat.le_refl _) _).trans (hB1.mono (by omega))⟩
              exact (validG_bad gs k (by have := HN.out; omega) (by rw [HOK.out, H0.out, H1.out, H2.out]; rfl)).symm
            · cases r
              · go_wp2_with fail
                refine (HVF.out _ (by simp; omega) (HPS.out.alloc (by omega) _)).mono ?_
                rintro e w1 ⟨rfl, hb1⟩
                have HG1 := Lib.hid ((HGS.out.alloc (by omega) (.cells #[.int .i64 d.k, .slice A1 n1 c1] 41)).below hb1 (by simp; omega))
                have hz1 : w.heap.size + 1 < w1.heap.size := by have := hb1.size; simp at this; omega
                have hB1 := (hbr.alloc (by omega) (.cells #[.int .i64 d.k, .slice A1 n1 c1] 41)).trans (hb1.mono (by simp; omega))
                have hbox1 : w1.cell? ⟨w.heap.size, 0, none⟩ = some (.slice (some ⟨b, off, none⟩) n c) := (hB1.cell (p := ⟨w.heap.size, 0, none⟩) (by simp)).trans (by go_simp)
                go_wp2_with fail
                refine (HGR.out _ (by omega) HG1.out).mono ?_
                rintro e w2 ⟨rfl, hb2⟩
                have hB2 := hB1.trans (hb2.mono (by omega))
                go_wp2
                go_ret
                refine ⟨ret_b ?_, ((Below.refl _ _).alloc (Nat.le_refl _) _).trans (hB2.mono (by omega))⟩
                exact (validG_bad gs k (by have := HN.out; omega) (by rw [HOK.out, H0.out, H1.out, H2.out]; rfl)).symm
              · go_wp2_with fail
                refine (HVF.out _ (by simp; omega) (HPS.out.alloc (by omega) _)).mono ?_
                rintro e w1 ⟨rfl, hb1⟩
                have HG1 := Lib.hid ((HGS.out.alloc (by omega) (.cells #[.int .i64 d.k, .slice A1 n1 c1] 41)).below hb1 (by simp; omega))
                have hz1 : w.heap.size + 1 < w1.heap.size := by have := hb1.size; simp at this; omega
                have hB1 := (hbr.alloc (by omega) (.cells #[.int .i64 d.k, .slice A1 n1 c1] 41)).trans (hb1.mono (by simp; omega))
                have hbox1 : w1.cell? ⟨w.heap.size, 0, none⟩ = some (.slice (some ⟨b, off, none⟩) n c) := (hB1.cell (p := ⟨w.heap.size, 0, none⟩) (by simp)).trans (by go_simp)
                go_wp2_with fail
                refine (HGR.out _ (by omega) HG1.out).mono ?_
                rintro e w2 ⟨rfl, hb2⟩
                have hB2 := hB1.trans (hb2.mono (by omega))
                go_wp2
                go_roundw
                case rel => exact ⟨k + 1, by omega, by go_num, fun j hj => by
                  rcases Nat.lt_or_ge j k with h1 | h1
                  · exact HK.out j h1
                  · obtain rfl : j = k := by omega
                    rw [HOK.out, H0.out, H1.out, H2.out]; rfl, hB2⟩
                case measure => simp [intOf]; omega
        · clear hn1'
          have H0 := Lib.hid h0
          have H1 := Lib.hid h1
          cases f
          · go_wp2_with fail
            refine (HVF.out _ (by simp; omega) (HPS.out.alloc (by omega) _)).mono ?_
            rintro e w1 ⟨rfl, hb1⟩
            have HG1 := Lib.hid ((HGS.out.alloc (by omega) (.cells #[.int .i64 d.k, .slice A1 n1 c1] 41)).below hb1 (by simp; omega))
            have hz1 : w.heap.size + 1 < w1.heap.size := by have := hb1.size; simp at this; omega
            have hB1 := (hbr.alloc (by omega) (.cells #[.int .i64 d.k, .slice A1 n1 c1] 41)).trans (hb1.mono (by simp; omega))
            have hbox1 : w1.cell? ⟨w.heap.size, 0, none⟩ = some (.slice (some ⟨b, off, none⟩) n c) := (hB1.cell (p := ⟨w.heap.size, 0, none⟩) (by simp)).trans (by go_simp)
            go_wp2
            go_ret
            refine ⟨ret_b ?_, ((Below.refl _ _).alloc (Nat.le_refl _) _).trans (hB1.mono (by omega))⟩
            exact (validG_bad gs k (by have := HN.out; omega) (by rw [HOK.out, H0.out, H1.out]; rfl)).symm
          · cases r
            · go_wp2_with fail
              refine (HVF.out _ (by simp; omega) (HPS.out.alloc (by omega) _)).mono ?_
              rintro e w1 ⟨rfl, hb1⟩
              have HG1 := Lib.hid ((HGS.out.alloc (by omega) (.cells #[.int .i64 d.k, .slice A1 n1 c1] 41)).below hb1 (by simp; omega))
              have hz1 : w.heap.size + 1 < w1.heap.size := by have := hb1.size; simp at this; omega
              have hB1 := (hbr.alloc (by omega) (.cells #[.int .i64 d.k, .slice A1 n1 c1] 41)).trans (hb1.mono (by simp; omega))
              have hbox1 : w1.cell? ⟨w.heap.size, 0, none⟩ = some (.slice (some ⟨b, off, none⟩) n c) := (hB1.cell (p := ⟨w.heap.size, 0, none⟩) (by simp)).trans (by go_simp)
              go_wp2_with fail
              refine (HGR.out _ (by omega) HG1.out).mono ?_
              rintro e w2 ⟨rfl, hb2⟩
              have hB2 := hB1.trans (hb2.mono (by omega))
              go_wp2
              go_ret
              refine ⟨ret_b ?_, ((Below.refl _ _).alloc (Nat.le_refl _) _).trans (hB2.mono (by omega))⟩
              exact (validG_bad gs k (by have := HN.out; omega) (by rw [HOK.out, H0.out, H1.out]; rfl)).symm
            · go_wp2_with fail
              refine (HVF.out _ (by simp; omega) (HPS.out.alloc (by omega) _)).mono ?_
              rintro e w1 ⟨rfl, hb1⟩
              have HG1 := Lib.hid ((HGS.out.alloc (by omega) (.cells #[.int .i64 d.k, .slice A1 n1 c1] 41)).below hb1 (by simp; omega))
              have hz1 : w.heap.size + 1 < w1.heap.size := by have := hb1.size; simp at this; omega
              have hB1 := (hbr.alloc (by omega) (.cells #[.int .i64 d.k, .slice A1 n1 c1] 41)).trans (hb1.mono (by simp; omega))
              have hbox1 : w1.cell? ⟨w.heap.size, 0, none⟩ = some (.slice (some ⟨b, off, none⟩) n c) := (hB1.cell (p := ⟨w.heap.size, 0, none⟩) (by simp)).trans (by go_simp)
              go_wp2_with fail
              refine (HGR.out _ (by omega) HG1.out).mono ?_
              rintro e w2 ⟨rfl, hb2⟩
              have hB2 := hB1.trans (hb2.mono (by omega))
              go_wp2
              go_roundw
              case rel => exact ⟨k + 1, by omega, by go_num, fun j hj => by
                rcases Nat.lt_or_ge j k with h1 | h1
                · exact HK.out j h1
                · obtain rfl : j = k := by omega
                  rw [HOK.out, H0.out, H1.out]; rfl, hB2⟩
              case measure => simp [intOf]; omega
      · have H0 := Lib.hid h0
        by_cases hz : 0 < n1
        · clear hn1'
          go_wp2
          go_ret
          refine ⟨ret_b ?_, ((Below.refl _ _).alloc (Nat.le_refl _) _).trans ((hbr.alloc (by omega) _).mono (by omega))⟩
          exact (validG_bad gs k (by have := HN.out; omega) (by rw [HOK.out, H0.out]; exact decide_eq_false (by have := HN1.out; omega))).symm
        · obtain rfl : n1 = 0 := by omega
          clear hn1'
          go_wp2
          go_roundw
          case rel => exact ⟨k + 1, by omega, by go_num, fun j hj => by
            rcases Nat.lt_or_ge j k with h1 | h1
            · exact HK.out j h1
            · obtain rfl : j = k := by omega
              rw [HOK.out, H0.out]; exact decide_eq_true (by have := HN1.out; omega), hbr.alloc (by omega) _⟩
          case measure => simp [intOf]; omega
    · go_wp2
      go_ret
      refine ⟨ret_b ?_, ((Below.refl _ _).alloc (Nat.le_refl _) _).trans (hbr.mono (by omega))⟩
      rw [validG_fin gs fun j hj => HK.out j (by have := HN.out; omega)]
      have := HN.out
      simp
      omega
end Go.Proofs.Ytbnioefhfpahcaa

namespace Go.Proofs.Ytbnioefhfpahcaa
set_option linter.unusedSimpArgs false
set_option linter.unusedVariables false
open Go.RowKit
/-- A node of the list ahead that is no effect. -/
def rdA (gs : List Nd) (x : Int) : Bool := decide (x < (gs.length : Int)) && !((gs.getD x.toNat default).k == 2)
theorem rdA_take (gs : List Nd) (i : Nat) (hi : i ≤ gs.length) (x : Int) (hx : 0 ≤ x) : rdA (gs.take i) x = rdOK gs i x := by
  unfold rdA rdOK
  rw [List.length_take, Nat.min_eq_left hi]
  by_cases h : x < (i : Int)
  · have : (gs.take i).getD x.toNat default = gs.getD x.toNat default := by
      simp only [List.getD, List.getElem?_take, if_pos (show x.toNat < i by omega)]
    rw [this]
  · rw [decide_eq_false h]; rfl
theorem GS.take {w : World} {B : Nat} {A : Option Addr} {gs : List Nd} (h : GS w B A gs) (i : Nat) (hi : i ≤ gs.length) : GS w B A (gs.take i) := by
  intro hn
  rw [List.length_take, Nat.min_eq_left hi] at hn
  obtain ⟨b, off, e, hb, hc⟩ := h (by omega)
  refine ⟨b, off, e, hb, fun j hj => ?_⟩
  rw [List.length_take, Nat.min_eq_left hi] at hj
  have : (gs.take i).getD j default = gs.getD j default := by
    simp only [List.getD, List.getElem?_take, if_pos hj]
  rw [this]
  exact hc j (by omega)
set_option maxRecDepth 100000 in
set_option maxHeartbeats 1600000 in
theorem impl_areReadable (A A' : Option Addr) (n c l c' : Nat) (gs : List Nd) (L : List Int) (w : World) (B : Nat) (hB : B ≤ w.heap.size) (hn : n = gs.length) (hl : l = L.length) (h : GS w B A gs) (h' : IS w B A' L) (hs : n ≤ 2000000) (hs' : l ≤ 2000000) (hbd : ∀ j, j < l → 0 ≤ L.getD j 0) :
    Calls Try.prog 47 #[.slice A n c, .slice A' l c'] w fun e w' => e = .returned (.bool (L.all (rdA gs))) ∧ w = w' := by
  have H := Lib.hid h
  have HI := Lib.hid h'
  have HN := Lib.hid hn
  have HL := Lib.hid hl
  have HBD := Lib.hid hbd
  clear h h' hn hl hbd
  go_enter Try.func47, Try.ntmps47
  go_wp2
  go_loop [9] (fun u => ∃ k : Nat, k ≤ l ∧ u = .int .i64 k ∧ Hid (∀ j, j < k → rdA gs (L.getD j 0) = true)) (fun u => l - (intOf u).toNat)
  case atStart => exact ⟨0, by omega, rfl, by intro j hj; omega⟩
  case round =>
    obtain ⟨k, hk, rfl, HK⟩ := hrel
    by_cases hlt : k < l
    · obtain ⟨b', off', rfl, hb', hc⟩ := HI.out (by have := HL.out; omega)
      have hx := hc k (by have := HL.out; omega)
      have hx0 := HBD.out k hlt
      clear hc
      generalize hxx : L.getD k 0 = x at *
      have HX := Lib.hid hxx
      clear hxx
      obtain ⟨t, rfl⟩ : ∃ t : Nat, x = (t : Int) := ⟨x.toNat, by omega⟩
      by_cases htn : t < n
      · obtain ⟨b, off, rfl, hbB, c3, _⟩ := H.out.at_ t (by have := HN.out; omega)
        have hro : rdA gs (t : Int) = !((gs.getD t default).k == 2) := by unfold rdA; rw [decide_eq_true (by have := HN.out; omega)]; simp
        generalize gs.getD t default = q at *
        cases hq : (q.k == 2)
        all_goals
          have HR := Lib.hid hro
          have HQ := Lib.hid hq
          clear hro
          go_wp2
        · go_round
          case rel => exact ⟨k + 1, by omega, by go_num, fun j hj => by
            rcases Nat.lt_or_ge j k with h1 | h1
            · exact HK.out j h1
            · obtain rfl : j = k := by omega
              rw [HX.out, HR.out, HQ.out]; rfl⟩
          case measure => simp [intOf]; omega
        · go_ret
          refine ⟨ret_b ?_, rfl⟩
          exact (all_bad L (rdA gs) k (by have := HL.out; omega) (by rw [HX.out, HR.out, HQ.out]; rfl)).symm
      · have hro : rdA gs (t : Int) = false := by unfold rdA; rw [decide_eq_false (by have := HN.out; omega)]; rfl
        have HR := Lib.hid hro
        clear hro
        go_wp2
        go_ret
        refine ⟨ret_b ?_, rfl⟩
        exact (all_bad L (rdA gs) k (by have := HL.out; omega) (by rw [HX.out, HR.out])).symm
    · go_wp2
      go_ret
      refine ⟨ret_b ?_, rfl⟩
      exact (all_good L (rdA gs) fun j hj => HK.out j (by have := HL.out; omega)).symm
/-- Whether a node fits behind others. -/
def fitsB (gs : List Nd) (d : Nd) : Bool :=
  if d.k == 0 then decide (d.ps.length = 0)
  else if d.k == 1 then validF d.ps && (mayR d.ps).all (rdA gs)
  else if d.k == 2 then validF d.ps && (mayR d.ps).all (rdA gs)
  else false
theorem fits_node (gs : List Nd) (i : Nat) (hi : i ≤ gs.length) : fitsB (gs.take i) (gs.getD i default) = nodeOK gs i := by
  unfold fitsB nodeOK goodRd
  have e : (mayR (gs.getD i default).ps).all (rdA (gs.take i)) = (mayR (gs.getD i default).ps).all (rdOK gs i) := by
    rw [Bool.eq_iff_iff, List.all_eq_true, List.all_eq_true]
    constructor
    · intro h x hx; rw [← rdA_take gs i hi x (mem_mayR_bd _ _ hx).1]; exact h x hx
    · intro h x hx; rw [rdA_take gs i hi x (mem_mayR_bd _ _ hx).1]; exact h x hx
  rw [e]
set_option maxRecDepth 100000 in
set_option maxHeartbeats 1600000 in
theorem impl_fitsBehind (A A1 : Option Addr) (n c n1 c1 : Nat) (gs : List Nd) (k : Int) (ps : List Pt) (w : World) (B : Nat) (hB : B ≤ w.heap.size) (hn : n = gs.length) (hn1 : n1 = ps.length) (h : GS w B A gs) (h1 : PS w B A1 ps) (hs : n ≤ 2000000) (hs1 : n1 ≤ 1999999) :
    Calls Try.prog 32 #[.slice A n c, .agg #[.int .i64 k, .slice A1 n1 c1]] w fun e w' => e = .returned (.bool (fitsB gs ⟨k, ps⟩)) ∧ Below w.heap.size w w' := by
  have H := Lib.hid h
  have H1 := Lib.hid h1
  have HN := Lib.hid hn
  have HN1 := Lib.hid hn1
  have hfe : fitsB gs ⟨k, ps⟩ = if k == 0 then decide (ps.length = 0) else if k == 1 then validF ps && (mayR ps).all (rdA gs) else if k == 2 then validF ps && (mayR ps).all (rdA gs) else false := rfl
  cases h0 : (k == 0)
  · by_cases h12 : (k == 1) = true ∨ (k == 2) = true
    · have hfe2 : fitsB gs ⟨k, ps⟩ = (validF ps && (mayR ps).all (rdA gs)) := by
        rw [hfe, h0]
        rcases h12 with e | e
        · rw [e]; rfl
        · rw [e]; cases (k == 1) <;> rfl
      rw [hfe2]
      have HVF := Lib.hid fun (w : World) (hB : B ≤ w.heap.size) (h : PS w B A1 ps) => impl_ValidFormula A1 n1 c1 ps w B hB hn1 h (by omega)
      have HMR := Lib.hid fun (w : World) (hB : B ≤ w.heap.size) (h : PS w B A1 ps) => impl_MayRead A1 n1 c1 ps w B hB hn1 h (by omega)
      clear h h1 hn hn1 hfe hfe2
      cases hv : validF ps
      · rw [hv] at HVF
        clear hv HMR
        rw [show (false && (mayR ps).all (rdA gs)) = false from rfl]
        cases ha : (k == 1)
        · have hb : (k == 2) = true := by rcases h12 with e | e; rw [ha] at e; cases e; exact e
          clear h12
          go_enter Try.func32, Try.ntmps32
          go_wp2_with fail
          refine (HVF.out _ (by simp; omega) (H1.out.alloc hB _)).mono ?_
          rintro e w1 ⟨rfl, hb1⟩
          go_wp2
          go_ret
          exact ⟨rfl, ((Below.refl _ _).alloc (Nat.le_refl _) _).trans (hb1.mono (by simp))⟩
        · clear h12
          go_enter Try.func32, Try.ntmps32
          go_wp2_with fail
          refine (HVF.out _ (by simp; omega) (H1.out.alloc hB _)).mono ?_
          rintro e w1 ⟨rfl, hb1⟩
          go_wp2
          go_ret
          exact ⟨rfl, ((Below.refl _ _).alloc (Nat.le_refl _) _).trans (hb1.mono (by simp))⟩
      · have hmf : mayF ps = mayR ps := by simp [mayF, hv]
        rw [hv] at HVF
        rw [hmf] at HMR
        have hlen := mayR_len ps 10
        rw [mayR_below] at hlen
        have hbd := mayR_getD_bd ps
        clear hv hmf
        generalize mayR ps = L at *
        generalize hl : L.length = l at *
        have HL := Lib.hid hl
        have HAR := Lib.hid fun (A' : Option Addr) (c' : Nat) (w : World) (B : Nat) (hB : B ≤ w.heap.size) (h : GS w B A gs) (h' : IS w B A' L) => impl_areReadable A A' n c l c' gs L w B hB HN.out hl.symm h h' hs (by omega) (fun j hj => (hbd j hj).1)
        clear hl hbd
        rw [show (true && L.all (rdA gs)) = L.all (rdA gs) from Bool.true_and _]
        generalize L.all (rdA gs) = r at *
        cases ha : (k == 1)
        · have hb : (k == 2) = true := by rcases h12 with e | e; rw [ha] at e; cases e; exact e
          clear h12
          go_enter Try.func32, Try.ntmps32
          go_wp2_with fail
          refine (HVF.out _ (by simp; omega) (H1.out.alloc hB _)).mono ?_
          rintro e w1 ⟨rfl, hb1⟩
          have hz1 : w.heap.size < w1.heap.size := by have := hb1.size; simp at this; omega
          have hbx : w1.cell? ⟨w.heap.size, 1, none⟩ = some (.slice A1 n1 c1) := (hb1.cell (p := ⟨w.heap.size, 1, none⟩) (by simp)).trans (by go_simp)
          have HP1 := Lib.hid ((H1.out.alloc hB (.cells #[.int .i64 k, .slice A1 n1 c1] 41)).below hb1 (by simp; omega))
          have HG1 := Lib.hid ((H.out.alloc hB (.cells #[.int .i64 k, .slice A1 n1 c1] 41)).below hb1 (by simp; omega))
          have hB1 : Below w.heap.size w w1 := ((Below.refl _ _).alloc (Nat.le_refl _) _).trans (hb1.mono (by simp))
          clear hb1
          go_wp2_with fail
          refine (HMR.out _ (by omega) HP1.out).mono ?_
          rintro e w2 ⟨v2, rfl, hown, hb2⟩
          obtain ⟨A2, c2, rfl, hI⟩ := hown.form
          have HI := Lib.hid hI
          have HG2 := Lib.hid ((HG1.out.below hb2 (by omega)).more (B' := w2.heap.size) (by have := hb2.size; omega))
          rw [HL.out]
          clear hI hown
          go_wp2_with fail
          refine (HAR.out _ _ _ _ (Nat.le_refl _) HG2.out HI.out).mono ?_
          rintro e w3 ⟨rfl, rfl⟩
          go_wp2
          go_ret
          exact ⟨rfl, hB1.trans (hb2.mono (by omega))⟩
        · clear h12
          go_enter Try.func32, Try.ntmps32
          go_wp2_with fail
          refine (HVF.out _ (by simp; omega) (H1.out.alloc hB _)).mono ?_
          rintro e w1 ⟨rfl, hb1⟩
          have hz1 : w.heap.size < w1.heap.size := by have := hb1.size; simp at this; omega
          have hbx : w1.cell? ⟨w.heap.size, 1, none⟩ = some (.slice A1 n1 c1) := (hb1.cell (p := ⟨w.heap.size, 1, none⟩) (by simp)).trans (by go_simp)
          have HP1 := Lib.hid ((H1.out.alloc hB (.cells #[.int .i64 k, .slice A1 n1 c1] 41)).below hb1 (by simp; omega))
          have HG1 := Lib.hid ((H.out.alloc hB (.cells #[.int .i64 k, .slice A1 n1 c1] 41)).below hb1 (by simp; omega))
          have hB1 : Below w.heap.size w w1 := ((Below.refl _ _).alloc (Nat.le_refl _) _).trans (hb1.mono (by simp))
          clear hb1
          go_wp2_with fail
          refine (HMR.out _ (by omega) HP1.out).mono ?_
          rintro e w2 ⟨v2, rfl, hown, hb2⟩
          obtain ⟨A2, c2, rfl, hI⟩ := hown.form
          have HI := Lib.hid hI
          have HG2 := Lib.hid ((HG1.out.below hb2 (by omega)).more (B' := w2.heap.size) (by have := hb2.size; omega))
          rw [HL.out]
          clear hI hown
          go_wp2_with fail
          refine (HAR.out _ _ _ _ (Nat.le_refl _) HG2.out HI.out).mono ?_
          rintro e w3 ⟨rfl, rfl⟩
          go_wp2
          go_ret
          exact ⟨rfl, hB1.trans (hb2.mono (by omega))⟩
    · have ha : (k == 1) = false := by cases e : (k == 1); rfl; exact absurd (.inl e) h12
      have hb : (k == 2) = false := by cases e : (k == 2); rfl; exact absurd (.inr e) h12
      rw [hfe, h0, ha, hb]
      clear h h1 hn hn1 hfe h12
      go_enter Try.func32, Try.ntmps32
      go_wp2
      go_ret
      exact ⟨rfl, (Below.refl _ _).alloc (Nat.le_refl _) _⟩
  · rw [hfe, h0]
    clear h h1 hn hn1 hfe
    go_enter Try.func32, Try.ntmps32
    go_wp2
    go_ret
    refine ⟨ret_b ?_, (Below.refl _ _).alloc (Nat.le_refl _) _⟩
    rw [HN1.out]
    cases ps <;> simp
    omega
set_option maxRecDepth 100000 in
set_option maxHeartbeats 1600000 in
theorem impl_ValidGraph (A : Option Addr) (n c : Nat) (gs : List Nd) (w : World) (B : Nat) (hB : B ≤ w.heap.size) (hn : n = gs.length) (h : GS w B A gs) (hs : GB gs) (hnc : n ≤ c) :
    Calls Try.prog 21 #[.agg #[.slice A n c]] w fun e w' => e = .returned (.bool (validG gs)) ∧ Below w.heap.size w w' := by
  have hn1 : n ≤ 1048576 := by rw [hn]; exact hs.1
  by_cases h10 : 10 < n
  · rw [validG_long gs (by omega)]
    clear h hn hs
    go_enter Try.func21, Try.ntmps21
    go_wp2
    go_ret
    exact ⟨rfl, (Below.refl _ _).alloc (Nat.le_refl _) _⟩
  have H := Lib.hid h
  have HN := Lib.hid hn
  have HS := Lib.hid hs
  clear h hn hs
  go_enter Try.func21, Try.ntmps21
  go_wp2
  go_loopw [12] (fun u wr => ∃ k : Nat, k ≤ n ∧ u = .int .i64 k ∧ Hid (∀ j, j < k → nodeOK gs j = true) ∧ Below (w.heap.size + 1) (w.alloc (.cells #[.slice A n c] 25)) wr) (fun u _ => n - (intOf u).toNat)
  case atStart => exact ⟨0, by omega, rfl, by intro j hj; omega, Below.refl _ _⟩
  case round =>
    obtain ⟨k, hk, rfl, HK, hbr⟩ := hrel
    have hbox : wr.cell? ⟨w.heap.size, 0, none⟩ = some (.slice A n c) := (hbr.cell (p := ⟨w.heap.size, 0, none⟩) (by simp)).trans (by go_simp)
    have hwr : w.heap.size + 1 ≤ wr.heap.size := by have := hbr.size; simpa using this
    have hws : w.heap.size < wr.heap.size := by omega
    by_cases hlt : k < n
    · obtain ⟨b, off, rfl, hbB, c0, A1, n1, c1, c2, hn1', hps⟩ := H.out.at_ k (by have := HN.out; omega)
      have hx := HS.out.2 k
      have b0 : wr.cell? ⟨b, off + k * 2, none⟩ = _ := ((hbr.cell (p := ⟨b, off + k * 2, none⟩) (by simp; omega)).trans (World.cell?_alloc_lt _ _ _ (by simp; omega))).trans c0
      have b1 : wr.cell? ⟨b, off + k * 2 + 1, none⟩ = _ := ((hbr.cell (p := ⟨b, off + k * 2 + 1, none⟩) (by simp; omega)).trans (World.cell?_alloc_lt _ _ _ (by simp; omega))).trans c2
      have HPS := Lib.hid ((hps.alloc hB (.cells #[.slice (some ⟨b, off, none⟩) n c] 25)).below hbr (by omega))
      have HGS := Lib.hid (((H.out.take k (by have := HN.out; omega)).alloc hB (.cells #[.slice (some ⟨b, off, none⟩) n c] 25)).below hbr (by omega))
      have hfn := fits_node gs k (by have := HN.out; omega)
      have hlen : k = (gs.take k).length := by rw [List.length_take]; have := HN.out; omega
      clear c0 c2 hps
      generalize gs.getD k default = d at *
      have hy1 : n1 ≤ 1999999 := by omega
      have HFB := Lib.hid fun (w : World) (hB : B ≤ w.heap.size) (h : GS w B (some ⟨b, off, none⟩) (gs.take k)) (h1 : PS w B A1 d.ps) => impl_fitsBehind (some ⟨b, off, none⟩) A1 k c n1 c1 (gs.take k) d.k d.ps w B hB hlen hn1' h h1 (by omega) hy1
      rw [show fitsB (gs.take k) ⟨d.k, d.ps⟩ = nodeOK gs k from hfn] at HFB
      have HNK := Lib.hid fun (h : nodeOK gs k = false) => validG_bad gs k (by have := HN.out; omega) h
      have HNT : Hid (nodeOK gs k = true → ∀ j, j < k + 1 → nodeOK gs j = true) := fun h j hj => by
        rcases Nat.lt_or_ge j k with h1 | h1
        · exact HK.out j h1
        · obtain rfl : j = k := by omega
          exact h
      clear hfn hlen hn1' hx
      generalize nodeOK gs k = r at *
      cases r
      all_goals
        go_wp2
        obtain ⟨W2, hW2⟩ : ∃ W2, W2 = wr.alloc (.cells #[.int .i64 d.k, .slice A1 n1 c1] 41) := ⟨_, rfl⟩
        have q0 : W2.cell? ⟨w.heap.size, 0, none⟩ = some (.slice (some ⟨b, off, none⟩) n c) := by rw [hW2]; exact (World.cell?_alloc_lt _ _ _ hws).trans hbox
        have q1 : W2.cell? ⟨wr.heap.size, 0, none⟩ = some (.int .i64 d.k) := by rw [hW2]; go_simp
        have q2 : W2.cell? ⟨wr.heap.size, 1, none⟩ = some (.slice A1 n1 c1) := by rw [hW2]; go_simp
        have HP2 : Hid (PS W2 B A1 d.ps) := by rw [hW2]; exact HPS.out.alloc (by omega) _
        have HG2 : Hid (GS W2 B (some ⟨b, off, none⟩) (gs.take k)) := by rw [hW2]; exact HGS.out.alloc (by omega) _
        have hb2 : Below (w.heap.size + 1) (w.alloc (.cells #[.slice (some ⟨b, off, none⟩) n c] 25)) W2 := by rw [hW2]; exact hbr.alloc (by omega) _
        have hz2 : w.heap.size + 1 < W2.heap.size := by rw [hW2]; simp; omega
        have hkc : k ≤ c := by omega
        rw [← hW2]
        clear hW2 HPS HGS b0 b1
        go_still_tail 5, (by kernel_rfl)
        go_wp2_with fail
        refine (HFB.out W2.drew (show B ≤ W2.heap.size by omega) HG2.out HP2.out).mono ?_
        rintro e w3 ⟨rfl, hb3⟩
        have hB3 := hb2.drew.trans (hb3.mono (show w.heap.size + 1 ≤ W2.heap.size by omega))
        go_wp2
      · go_ret
        exact ⟨ret_b (HNK.out trivial).symm, ((Below.refl _ _).alloc (Nat.le_refl _) _).trans (hB3.mono (by omega))⟩
      · go_roundw
        case rel => exact ⟨k + 1, by omega, by go_num, HNT.out trivial, hB3⟩
        case measure => simp [intOf]; omega
    · go_wp2
      go_ret
      refine ⟨ret_b ?_, ((Below.refl _ _).alloc (Nat.le_refl _) _).trans (hbr.mono (by omega))⟩
      rw [validG_fin gs fun j hj => HK.out j (by have := HN.out; omega)]
      have := HN.out
      simp
      omega
end Go.Proofs.Ytbnioefhfpahcaa

namespace Go.Proofs.Ytbnioefhfpahcaa
set_option linter.unusedSimpArgs false
set_option linter.unusedVariables false
open Go.RowKit
set_option maxRecDepth 100000 in
set_option maxHeartbeats 1600000 in
theorem spec_validCells (A A' : Option Addr) (n c m c' : Nat) (gs : List Nd) (xs : List Int) (w : World) (B : Nat) (hB : B ≤ w.heap.size) (hn : n = gs.length) (hm : m = xs.length) (h : GS w B A gs) (h' : IS w B A' xs) (hs : n ≤ 2000000) (hs' : m ≤ 2000000) :
    Calls Try.prog 19 #[.agg #[.slice A n c], .slice A' m c'] w fun e w' => e = .returned (.bool (validC gs xs)) ∧ Below w.heap.size w w' := by
  by_cases hl : m = n
  · have hne : ((m : Int) != (n : Int)) = false := by simp [hl]
    have HE := Lib.hid hl
    have H := Lib.hid h
    have HI := Lib.hid h'
    have HN := Lib.hid hn
    have HM := Lib.hid hm
    clear h h' hn hm hl
    go_enter Try.func19, Try.ntmps19
    go_wp2
    go_loopw [5] (fun u wr => ∃ k : Nat, k ≤ m ∧ u = .int .i64 k ∧ Hid (∀ j, j < k → cellOK gs xs j = true) ∧ wr = w.alloc (.cells #[.slice A n c] 25)) (fun u _ => m - (intOf u).toNat)
    case atStart => exact ⟨0, by omega, rfl, by intro j hj; omega, rfl⟩
    case round =>
      obtain ⟨k, hk, rfl, HK, rfl⟩ := hrel
      by_cases hlt : k < m
      · have hkn : k < n := by have := HE.out; omega
        obtain ⟨b, off, rfl, hbB, c0, _⟩ := H.out.at_ k (by have := HN.out; omega)
        obtain ⟨b', off', rfl, hb', hc⟩ := HI.out (by have := HM.out; omega)
        have hx := hc k (by have := HM.out; omega)
        clear hc
        have hbw : b < w.heap.size := by omega
        have hbw' : b' < w.heap.size := by omega
        have hco : cellOK gs xs k = (rng (xs.getD k 0) 0 999 && ((gs.getD k default).k == 0 || xs.getD k 0 == 0)) := rfl
        have HNK := Lib.hid fun (h : cellOK gs xs k = false) => validC_bad gs xs k (by have := HN.out; omega) h
        have HNT : Hid (cellOK gs xs k = true → ∀ j, j < k + 1 → cellOK gs xs j = true) := fun h j hj => by
          rcases Nat.lt_or_ge j k with h1 | h1
          · exact HK.out j h1
          · obtain rfl : j = k := by omega
            exact h
        generalize cellOK gs xs k = r at *
        generalize gs.getD k default = d at *
        generalize xs.getD k 0 = x at *
        subst hco
        cases hr : rng x 0 999
        · go_wp2_with (go_at_call 30; refine (spec_inRange _ _ _ _).mono ?_; rintro e w' ⟨rfl, rfl⟩)
          go_ret
          exact ⟨ret_b (HNK.out (by rw [hr]; rfl)).symm, (Below.refl _ _).alloc (Nat.le_refl _) _⟩
        · cases hd : (d.k == 0)
          · have hd' : (d.k != 0) = true := by simp [bne, hd]
            cases hz : (x == 0)
            · have hz' : (x != 0) = true := by simp [bne, hz]
              go_wp2_with (go_at_call 30; refine (spec_inRange _ _ _ _).mono ?_; rintro e w' ⟨rfl, rfl⟩)
              go_ret
              exact ⟨ret_b (HNK.out (by rw [hd, hz]; simp)).symm, (Below.refl _ _).alloc (Nat.le_refl _) _⟩
            · have hz' : (x != 0) = false := by simp [bne, hz]
              have HR := Lib.hid hr
              have HD := Lib.hid hd
              have HZ := Lib.hid hz
              go_wp2_with (go_at_call 30; refine (spec_inRange _ _ _ _).mono ?_; rintro e w' ⟨rfl, rfl⟩)
              go_roundw
              case rel => exact ⟨k + 1, by omega, by go_num, HNT.out (by rw [HR.out, HD.out, HZ.out]; rfl), by first | rfl | trivial⟩
              case measure => simp [intOf]; omega
          · have hd' : (d.k != 0) = false := by simp [bne, hd]
            have HR := Lib.hid hr
            have HD := Lib.hid hd
            go_wp2_with (go_at_call 30; refine (spec_inRange _ _ _ _).mono ?_; rintro e w' ⟨rfl, rfl⟩)
            go_roundw
            case rel => exact ⟨k + 1, by omega, by go_num, HNT.out (by rw [HR.out, HD.out]; rfl), by first | rfl | trivial⟩
            case measure => simp [intOf]; omega
      · go_wp2
        go_ret
        refine ⟨ret_b ?_, (Below.refl _ _).alloc (Nat.le_refl _) _⟩
        exact (validC_fin gs xs (by have := HN.out; have := HM.out; have := HE.out; omega) fun j hj => HK.out j (by have := HN.out; have := HE.out; omega)).symm
  · have hne : ((m : Int) != (n : Int)) = true := by simp; omega
    rw [validC_len gs xs (by omega)]
    clear hl hn hm h h'
    go_enter Try.func19, Try.ntmps19
    go_wp2
    go_ret
    exact ⟨rfl, (Below.refl _ _).alloc (Nat.le_refl _) _⟩
set_option maxRecDepth 100000 in
set_option maxHeartbeats 1600000 in
theorem impl_ValidCells (A A' : Option Addr) (n c m c' : Nat) (gs : List Nd) (xs : List Int) (w : World) (B : Nat) (hB : B ≤ w.heap.size) (hn : n = gs.length) (hnc : n ≤ c) (hm : m = xs.length) (h : GS w B A gs) (h' : IS w B A' xs) (hs : GB gs) (hs' : m ≤ 2000000) :
    Calls Try.prog 8 #[.agg #[.slice A n c], .slice A' m c'] w fun e w' => e = .returned (.bool (okC gs xs)) ∧ Below w.heap.size w w' := by
  have hn1 : n ≤ 1048576 := by rw [hn]; exact hs.1
  have HVG := Lib.hid fun (w' : World) (hB : B ≤ w'.heap.size) (h : GS w' B A gs) => impl_ValidGraph A n c gs w' B hB hn h hs hnc
  have hok : okC gs xs = (validG gs && validC gs xs) := rfl
  cases hv : validG gs
  · have : okC gs xs = false := by rw [hok, hv]; rfl
    rw [this]
    rw [hv] at HVG
    have H := Lib.hid h
    clear this h h' hn hm hok hv
    go_enter Try.func8, Try.ntmps8
    go_wp2_with fail
    refine (HVG.out _ (by simp; omega) (H.out.alloc hB _)).mono ?_
    rintro e w1 ⟨rfl, hb⟩
    go_wp2
    go_ret
    exact ⟨rfl, ((Below.refl _ _).alloc (Nat.le_refl _) _).trans (hb.mono (by simp))⟩
  have : okC gs xs = validC gs xs := by rw [hok, hv]; rfl
  rw [this]
  rw [hv] at HVG
  have h10 := (validG_parts gs hv).1
  have hn10 : n ≤ 10 := by omega
  clear this hok hv h10
  by_cases hl : m = n
  · have hne : ((m : Int) != (n : Int)) = false := by simp [hl]
    have hlx : xs.length ≤ 10 := by omega
    have hdx : decide (xs.length ≤ 10) = true := by simpa using hlx
    have HAR := Lib.hid fun (w' : World) (hB : B ≤ w'.heap.size) (h : IS w' B A' xs) => impl_allInRange A' m c' xs 999 w' B hB hm h hs'
    rw [hdx] at HAR
    have H := Lib.hid h
    have HI := Lib.hid h'
    have HN := Lib.hid hn
    have HM := Lib.hid hm
    have HE := Lib.hid hl
    clear h h' hn hm hl hlx hdx
    cases ha : allR xs 0 999
    · rw [validC_range gs xs ha]
      rw [ha] at HAR
      clear ha
      go_enter Try.func8, Try.ntmps8
      go_wp2_with fail
      refine (HVG.out _ (by simp; omega) (H.out.alloc hB _)).mono ?_
      rintro e w1 ⟨rfl, hb⟩
      have q : w1.cell? ⟨w.heap.size, 0, none⟩ = some (.slice A n c) := (hb.cell (p := ⟨w.heap.size, 0, none⟩) (by simp)).trans (by go_simp)
      have HI1 := Lib.hid ((HI.out.alloc hB (.cells #[.slice A n c] 25)).below hb (by simp; omega))
      have hz : B ≤ w1.heap.size := by have := hb.size; simp at this; omega
      go_wp2_with fail
      refine (HAR.out _ hz HI1.out).mono ?_
      rintro e w2 ⟨rfl, rfl⟩
      go_wp2
      go_ret
      exact ⟨rfl, ((Below.refl _ _).alloc (Nat.le_refl _) _).trans (hb.mono (by simp))⟩
    · have HALL := Lib.hid ha
      rw [ha] at HAR
      clear ha
      go_enter Try.func8, Try.ntmps8
      go_wp2_with fail
      refine (HVG.out _ (by simp; omega) (H.out.alloc hB _)).mono ?_
      rintro e w1 ⟨rfl, hb⟩
      have q : w1.cell? ⟨w.heap.size, 0, none⟩ = some (.slice A n c) := (hb.cell (p := ⟨w.heap.size, 0, none⟩) (by simp)).trans (by go_simp)
      have HI1 := Lib.hid ((HI.out.alloc hB (.cells #[.slice A n c] 25)).below hb (by simp; omega))
      have HG1 := Lib.hid ((H.out.alloc hB (.cells #[.slice A n c] 25)).below hb (by simp; omega))
      have hz : B ≤ w1.heap.size := by have := hb.size; simp at this; omega
      have hB1 : Below w.heap.size w w1 := ((Below.refl _ _).alloc (Nat.le_refl _) _).trans (hb.mono (by simp))
      clear hb H HI
      go_wp2_with fail
      refine (HAR.out _ hz HI1.out).mono ?_
      rintro e w2 ⟨rfl, rfl⟩
      go_wp2
      go_loopw [26] (fun u wr => ∃ k : Nat, k ≤ n ∧ u = .int .i64 k ∧ Hid (∀ j, j < k → cellOK gs xs j = true) ∧ Below w1.heap.size w1 wr) (fun u _ => n - (intOf u).toNat)
      case atStart => exact ⟨0, by omega, rfl, by intro j hj; omega, Below.refl _ _⟩
      case round =>
        obtain ⟨k, hk, rfl, HK, hbr⟩ := hrel
        by_cases hlt : k < n
        · have hkm : k < m := by have := HE.out; omega
          obtain ⟨b, off, rfl, hbB, c0, A1, n1, c1, c2, _⟩ := HG1.out.at_ k (by have := HN.out; omega)
          obtain ⟨b', off', rfl, hb', hc⟩ := HI1.out (by have := HM.out; omega)
          have hx := hc k (by have := HM.out; omega)
          clear hc
          have e0 := (hbr.cell (p := ⟨b, off + k * 2, none⟩) (by simp; omega)).trans c0
          have e1 := (hbr.cell (p := ⟨b, off + k * 2 + 1, none⟩) (by simp; omega)).trans c2
          have e2 := (hbr.cell (p := ⟨b', off' + k, none⟩) (by simp; omega)).trans hx
          have hbw : b < wr.heap.size := by have := hbr.size; omega
          have hbw' : b' < wr.heap.size := by have := hbr.size; omega
          have hco : cellOK gs xs k = (rng (xs.getD k 0) 0 999 && ((gs.getD k default).k == 0 || xs.getD k 0 == 0)) := rfl
          have hrg : rng (xs.getD k 0) 0 999 = true := by
            have := HALL.out
            unfold allR at this
            rw [List.all_eq_true] at this
            exact this _ (by have := HM.out; have h2 : k < xs.length := by omega
                             simp [List.getD, h2])
          have HNK := Lib.hid fun (h : cellOK gs xs k = false) => validC_bad gs xs k (by have := HN.out; omega) h
          have HNT : Hid (cellOK gs xs k = true → ∀ j, j < k + 1 → cellOK gs xs j = true) := fun h j hj => by
            rcases Nat.lt_or_ge j k with h1 | h1
            · exact HK.out j h1
            · obtain rfl : j = k := by omega
              exact h
          generalize cellOK gs xs k = r at *
          generalize gs.getD k default = d at *
          generalize xs.getD k 0 = x at *
          subst hco
          have HR := Lib.hid hrg
          clear c0 c2 hx hrg
          cases hd : (d.k == 0)
          · have hd' : (d.k != 0) = true := by simp [bne, hd]
            have HD := Lib.hid hd
            cases hz' : (x == 0)
            · have hz2 : (x != 0) = true := by simp [bne, hz']
              have HZ := Lib.hid hz'
              go_wp2
              go_ret
              exact ⟨ret_b (HNK.out (by rw [HR.out, HD.out, HZ.out]; rfl)).symm, hB1.trans ((hbr.alloc (by have := hbr.size; omega) _).mono hB1.size)⟩
            · have hz2 : (x != 0) = false := by simp [bne, hz']
              have HZ := Lib.hid hz'
              go_wp2
              go_roundw
              case rel => exact ⟨k + 1, by omega, by go_num, HNT.out (by rw [HR.out, HD.out, HZ.out]; rfl), hbr.alloc (by have := hbr.size; omega) _⟩
              case measure => simp [intOf]; omega
          · have hd' : (d.k != 0) = false := by simp [bne, hd]
            have HD := Lib.hid hd
            go_wp2
            go_roundw
            case rel => exact ⟨k + 1, by omega, by go_num, HNT.out (by rw [HR.out, HD.out]; rfl), hbr.alloc (by have := hbr.size; omega) _⟩
            case measure => simp [intOf]; omega
        · go_wp2
          go_ret
          refine ⟨ret_b ?_, hB1.trans (hbr.mono hB1.size)⟩
          exact (validC_fin gs xs (by have := HN.out; have := HM.out; have := HE.out; omega) fun j hj => HK.out j (by have := HN.out; omega)).symm
  · have hne : ((m : Int) != (n : Int)) = true := by simp; omega
    rw [validC_len gs xs (by omega)]
    have H := Lib.hid h
    clear hl hn hm h h'
    go_enter Try.func8, Try.ntmps8
    go_wp2_with fail
    refine (HVG.out _ (by simp; omega) (H.out.alloc hB _)).mono ?_
    rintro e w1 ⟨rfl, hb⟩
    have q : w1.cell? ⟨w.heap.size, 0, none⟩ = some (.slice A n c) := (hb.cell (p := ⟨w.heap.size, 0, none⟩) (by simp)).trans (by go_simp)
    go_wp2
    go_ret
    exact ⟨rfl, ((Below.refl _ _).alloc (Nat.le_refl _) _).trans (hb.mono (by simp))⟩
theorem top_impl_ValidCells (gs : List Nd) (xs : List Int) (hG : GB gs) (hL : xs.length ≤ 1048576) : ∀ (A : Option Addr) (n c : Nat) (A' : Option Addr) (m c' : Nat) (w : World), n = gs.length → n ≤ c → GS w w.heap.size A gs → m = xs.length → IS w w.heap.size A' xs →
    Calls Try.prog 8 #[.agg #[.slice A n c], .slice A' m c'] w fun e w' => e = .returned (.bool (okC gs xs)) ∧ Below w.heap.size w w' :=
  fun A n c A' m c' w hn hc h hm h' => impl_ValidCells A A' n c m c' gs xs w w.heap.size (Nat.le_refl _) hn hc hm h h' hG (by omega)
end Go.Proofs.Ytbnioefhfpahcaa

namespace Go.Proofs.Ytbnioefhfpahcaa
set_option linter.unusedSimpArgs false
set_option linter.unusedVariables false
open Go.RowKit
/-- Two cells written one after the other. -/
def set2 (xs : List Value) (j : Nat) (x y : Value) : List Value := (xs.set j x).set (j + 1) y
theorem NdO.setCell {lo hi : Nat} {d : Nd} {x y : Value} {w : World} (h : NdO lo hi d x y w) {a : Addr} (ha : a.block < lo) (u : Value) : NdO lo hi d x y (w.setCell a u) :=
  h.keep fun k hk _ => Below.heap_setCell _ _ _ _ (by omega)
theorem info_node : (Try.prog.info? 41).map (fun i => (i.zero, i.size, i.bytes)) = some (some (.agg #[.int .i64 0, .slice none 0 0]), 2, 32) := by kernel_rfl
theorem OwG.setCell {lo hi n : Nat} {v : Value} {gs : List Nd} {w : World} (h : OwG lo hi v n gs w) {a : Addr} (ha : a.block < lo) (u : Value) : OwG lo hi v n gs (w.setCell a u) :=
  OwG.loc _ _ _ _ _ _ _ h fun k hk _ => Below.heap_setCell _ _ _ _ (by omega)
end Go.Proofs.Ytbnioefhfpahcaa

namespace Go.Proofs.Ytbnioefhfpahcaa
set_option linter.unusedSimpArgs false
set_option linter.unusedVariables false
open Go.RowKit
theorem OwG.ncap {lo hi n c : Nat} {A : Option Addr} {gs : List Nd} {w : World} (h : OwG lo hi (.slice A n c) n gs w) : n ≤ c := by
  obtain ⟨_, xs, h1, _⟩ := h
  rcases h1.1.2 with ⟨hv, hz⟩ | ⟨g, cap, cur, hv, _, _, h2, _⟩
  · omega
  · simp only [Value.slice.injEq] at hv
    obtain ⟨_, _, rfl⟩ := hv
    exact h2
/-- A graph of the call's own, in blocks lo to hi - 1. -/
theorem graph_start {lo n c : Nat} {A : Option Addr} {gs : List Nd} {w : World} (h : OwG lo w.heap.size (.slice A n c) n gs w) : As lo w.heap.size (OwG lo w.heap.size (.slice A n c) n gs) w := ⟨h, Nat.le_refl _, OwG.loc _ _ _ _ _⟩
theorem As.graph {lo hi n c : Nat} {A : Option Addr} {gs : List Nd} {w : World} (h : As lo hi (OwG lo hi (.slice A n c) n gs) w) : GS w w.heap.size A gs := h.it.nodes.more h.le
theorem As.ints {lo hi n c : Nat} {A : Option Addr} {xs : List Int} {w : World} (h : As lo hi (OwR lo hi 3 1 (.slice A n c) n (xs.map (Value.int .i64))) w) : IS w w.heap.size A xs := h.it.ints.more h.le
theorem As.parts {lo hi n c : Nat} {A : Option Addr} {ps : List Pt} {w : World} (h : As lo hi (OwR lo hi 70 5 (.slice A n c) n (ps.flatMap Pt.cells)) w) : PS w w.heap.size A ps := h.it.parts.more h.le
end Go.Proofs.Ytbnioefhfpahcaa

namespace Go.Proofs.Ytbnioefhfpahcaa
set_option linter.unusedSimpArgs false
set_option linter.unusedVariables false
open Go.RowKit
theorem OwnI.at_ {w : World} {base n : Nat} {v : Value} {xs : List Int} (h : OwnI w base v xs) (hn : xs.length = n) : ∃ A c, v = .slice A n c ∧ IS w w.heap.size A xs := by
  subst hn
  exact h.form
end Go.Proofs.Ytbnioefhfpahcaa

namespace Go.Proofs.Ytbnioefhfpahcaa
set_option linter.unusedSimpArgs false
set_option linter.unusedVariables false
open Go.RowKit
theorem IS.take {w : World} {B : Nat} {A : Option Addr} {xs : List Int} (h : IS w B A xs) (k : Nat) : IS w B A (xs.take k) := by
  intro hn
  rw [List.length_take] at hn
  obtain ⟨b, off, e, hb, hc⟩ := h (by omega)
  refine ⟨b, off, e, hb, fun j hj => ?_⟩
  rw [List.length_take] at hj
  have : (xs.take k).getD j 0 = xs.getD j 0 := by simp only [List.getD, List.getElem?_take, if_pos (show j < k by omega)]
  rw [this]
  exact hc j (by omega)
end Go.Proofs.Ytbnioefhfpahcaa

namespace Go.Proofs.Ytbnioefhfpahcaa
set_option linter.unusedSimpArgs false
set_option linter.unusedVariables false
open Go.RowKit
theorem RetI.mono {w w0 w' : World} {xs : List Int} {e : Ending} (h : RetI w xs e w') (hb : Below w0.heap.size w0 w) : RetI w0 xs e w' := by
  obtain ⟨v, he, ho, hb'⟩ := h
  exact ⟨v, he, own_mono ho hb.size, hb.trans (hb'.mono hb.size)⟩
theorem RetI.nil {w w' : World} (hb : Below w.heap.size w w') : RetI w [] (.returned (.slice none 0 0)) w' := ⟨_, rfl, World.ownsRow_nil _ _ _ _, hb⟩
end Go.Proofs.Ytbnioefhfpahcaa

namespace Go.Proofs.Ytbnioefhfpahcaa
set_option linter.unusedSimpArgs false
set_option linter.unusedVariables false
open Go.RowKit
/-- The slice at A reads as the lists xss; all of it lies below block B. -/
def SS (w : World) (B : Nat) (A : Option Addr) (xss : List (List Int)) : Prop :=
  0 < xss.length → ∃ b off, A = some ⟨b, off, none⟩ ∧ b < B ∧ ∀ j, j < xss.length → ∃ A' n c, w.cell? ⟨b, off + j, none⟩ = some (.slice A' n c) ∧ n = (xss.getD j []).length ∧ IS w B A' (xss.getD j [])
section
variable {w w' : World} {B B' C : Nat} {A : Option Addr} {xss : List (List Int)}
theorem SS.keep (h : SS w B A xss) (hk : ∀ p : Addr, p.block < B → w'.cell? p = w.cell? p) : SS w' B A xss := by
  intro hn
  obtain ⟨b, off, e, hb, hc⟩ := h hn
  refine ⟨b, off, e, hb, fun j hj => ?_⟩
  obtain ⟨A', n, c, h1, h2, h3⟩ := hc j hj
  exact ⟨A', n, c, (hk _ hb).trans h1, h2, h3.keep hk⟩
theorem SS.more (h : SS w B A xss) (hB : B ≤ B') : SS w B' A xss := by
  intro hn
  obtain ⟨b, off, e, hb, hc⟩ := h hn
  refine ⟨b, off, e, by omega, fun j hj => ?_⟩
  obtain ⟨A', n, c, h1, h2, h3⟩ := hc j hj
  exact ⟨A', n, c, h1, h2, h3.more hB⟩
theorem SS.below (h : SS w B A xss) (hb : Below C w w') (hC : B ≤ C) : SS w' B A xss := h.keep fun _ hp => hb.cell (Nat.lt_of_lt_of_le hp hC)
theorem SS.alloc (h : SS w B A xss) (hB : B ≤ w.heap.size) (o : Obj) : SS (w.alloc o) B A xss := h.keep fun p hp => World.cell?_alloc_lt w o p (by omega)
theorem SS.nil (w : World) (B : Nat) (A : Option Addr) : SS w B A [] := fun h => absurd h (by simp)
end
theorem SS.step {A : Option Addr} {xss : List (List Int)} {wk wl : World} (h : SS wk wk.heap.size A xss) (hb : Below wk.heap.size wk wl) : SS wl wl.heap.size A xss := (h.below hb (Nat.le_refl _)).more hb.size
theorem SS.loc (B : Nat) (A : Option Addr) (xss : List (List Int)) : Loc 0 B fun w => SS w B A xss :=
  fun w w' h hk => h.keep fun p hp => World.cell?_of_block (hk p.block (Nat.zero_le _) hp)
/-- No more lists, and no longer ones, than a million. -/
def SB (xss : List (List Int)) : Prop := xss.length ≤ 1048576 ∧ ∀ j, (xss.getD j []).length ≤ 1048576
/-- The rows vs lie in blocks of their own and have contents cont. -/
structure SSk (lo hi : Nat) (vs : List Value) (lens : Nat → Nat) (cont : Nat → List Value) (w : World) : Prop where
  row : ∀ j, j < vs.length → ∃ A m c, vs[j]? = some (.slice A m c) ∧ m = lens j ∧ OwR lo hi 3 1 (.slice A m c) m (cont j) w
  apart : ∀ (i j : Nat) (v u : Value) (k : Nat), i ≠ j → vs[i]? = some v → vs[j]? = some u → v.ownBlock = some k → u.ownBlock ≠ some k
theorem SSk.keep {lo hi : Nat} {vs : List Value} {lens : Nat → Nat} {cont : Nat → List Value} {w w' : World} (h : SSk lo hi vs lens cont w) (hk : ∀ k, lo ≤ k → k < hi → w'.heap[k]? = w.heap[k]?) : SSk lo hi vs lens cont w' :=
  ⟨fun j hj => by obtain ⟨A, m, c, h1, h2, h3⟩ := h.row j hj; exact ⟨A, m, c, h1, h2, h3.keep hk⟩, h.apart⟩
theorem SSk.mono {lo hi lo' hi' : Nat} {vs : List Value} {lens : Nat → Nat} {cont : Nat → List Value} {w : World} (h : SSk lo hi vs lens cont w) (h1 : lo' ≤ lo) (h2 : hi ≤ hi') : SSk lo' hi' vs lens cont w :=
  ⟨fun j hj => by obtain ⟨A, m, c, e1, e2, e3⟩ := h.row j hj; exact ⟨A, m, c, e1, e2, e3.mono h1 h2⟩, h.apart⟩
/-- A row of another kind was written to. -/
theorem SSk.grown {lo hi : Nat} {vs : List Value} {lens : Nat → Nat} {cont : Nat → List Value} {w w' : World} {row : Option Nat} (h : SSk lo hi vs lens cont w) (hg : w.grownBy w' row) (hr : ∀ (j : Nat) (v : Value), vs[j]? = some v → v.ownBlock = none ∨ v.ownBlock ≠ row) : SSk lo hi vs lens cont w' :=
  ⟨fun j hj => by obtain ⟨A, m, c, h1, h2, h3⟩ := h.row j hj; exact ⟨A, m, c, h1, h2, h3.1.kept hg (hr j _ h1), h3.2⟩, h.apart⟩
theorem SSk.ne {lo hi lo' : Nat} {vs : List Value} {lens : Nat → Nat} {cont : Nat → List Value} {w : World} {e : TypeId} {size n : Nat} {u : Value} {xs : List Value} (h : SSk lo hi vs lens cont w) (hu : w.ownsRow lo' e size u n xs) (he : (3 : TypeId) ≠ e) : ∀ (j : Nat) (v : Value), vs[j]? = some v → v.ownBlock = none ∨ v.ownBlock ≠ u.ownBlock := by
  intro j v hv
  have hj : j < vs.length := by
    rcases Nat.lt_or_ge j vs.length with h1 | h1
    · exact h1
    · rw [List.getElem?_eq_none h1] at hv; cases hv
  obtain ⟨A, m, c, h1, h2, h3⟩ := h.row j hj
  rw [h1] at hv
  cases hv
  exact blocks_ne h3.1 hu he
theorem SSk.lt {lo hi : Nat} {vs : List Value} {lens : Nat → Nat} {cont : Nat → List Value} {w : World} (h : SSk lo hi vs lens cont w) : ∀ (j : Nat) (v : Value) (k : Nat), vs[j]? = some v → v.ownBlock = some k → lo ≤ k ∧ k < hi := by
  intro j v k hv hk
  have hj : j < vs.length := by
    rcases Nat.lt_or_ge j vs.length with h1 | h1
    · exact h1
    · rw [List.getElem?_eq_none h1] at hv; cases hv
  obtain ⟨A, m, c, h1, h2, h3⟩ := h.row j hj
  rw [h1] at hv
  cases hv
  exact ⟨(h3.1.lt k hk).1, h3.2 k hk⟩
/-- One row more, or another one in its place: it lies in new blocks. -/
theorem SSk.put {lo hi hi' : Nat} {vs vs' : List Value} {lens lens' : Nat → Nat} {cont cont' : Nat → List Value} {w : World} {A : Option Addr} {m c : Nat} (h : SSk lo hi vs lens cont w) (k : Nat) (hk : vs'[k]? = some (.slice A m c)) (hl : ∀ j, j ≠ k → vs'[j]? = vs[j]?)
    (hlen : ∀ j, j < vs'.length → j ≠ k → j < vs.length) (hm : m = lens' k) (hc : ∀ j, j ≠ k → lens' j = lens j ∧ cont' j = cont j) (hr : OwR hi hi' 3 1 (.slice A m c) m (cont' k) w) (h1 : lo ≤ hi) (h2 : hi ≤ hi') : SSk lo hi' vs' lens' cont' w := by
  refine ⟨fun j hj => ?_, fun i j v u q hij hi' hj' hv hu => ?_⟩
  · by_cases e : j = k
    · subst e
      exact ⟨A, m, c, hk, hm, hr.mono h1 (Nat.le_refl _)⟩
    · obtain ⟨A', m', c', e1, e2, e3⟩ := h.row j (hlen j hj e)
      obtain ⟨e4, e5⟩ := hc j e
      exact ⟨A', m', c', by rw [hl j e]; exact e1, by rw [e4]; exact e2, by rw [e5]; exact e3.mono (Nat.le_refl _) h2⟩
  · by_cases e : i = k
    · subst e
      rw [hk] at hi'
      cases hi'
      have a1 := (hr.1.lt q hv).1
      rw [hl j (fun e => hij e.symm)] at hj'
      have a2 := (h.lt j u q hj' hu).2
      omega
    · by_cases e' : j = k
      · subst e'
        rw [hk] at hj'
        cases hj'
        have a1 := (hr.1.lt q hu).1
        rw [hl i e] at hi'
        have a2 := (h.lt i v q hi' hv).2
        omega
      · rw [hl i e] at hi'
        rw [hl j e'] at hj'
        exact h.apart i j v u q hij hi' hj' hv hu
def lenOf (xss : List (List Int)) (j : Nat) : Nat := (xss.getD j []).length
def rowOf (xss : List (List Int)) (j : Nat) : List Value := (xss.getD j []).map (Value.int .i64)
/-- Lists of numbers of the call's own. -/
def OwSS (lo hi : Nat) (v : Value) (n : Nat) (xss : List (List Int)) (w : World) : Prop :=
  n = xss.length ∧ ∃ vs, OwR lo hi 26 1 v n vs w ∧ SSk lo hi vs (lenOf xss) (rowOf xss) w
theorem OwSS.loc (lo hi : Nat) (v : Value) (n : Nat) (xss : List (List Int)) : Loc lo hi (OwSS lo hi v n xss) := by
  rintro w w' ⟨h0, vs, h1, h2⟩ hk
  exact ⟨h0, vs, h1.keep hk, h2.keep hk⟩
theorem OwSS.mono {lo hi lo' hi' n : Nat} {v : Value} {xss : List (List Int)} {w : World} (h : OwSS lo hi v n xss w) (h1 : lo' ≤ lo) (h2 : hi ≤ hi') : OwSS lo' hi' v n xss w := by
  obtain ⟨h0, vs, e1, e2⟩ := h
  exact ⟨h0, vs, e1.mono h1 h2, e2.mono h1 h2⟩
theorem OwSS.form {lo hi n : Nat} {v : Value} {xss : List (List Int)} {w : World} (h : OwSS lo hi v n xss w) : ∃ A c, v = .slice A n c := by
  obtain ⟨_, xs, h1, _⟩ := h
  exact own_form h1.1
theorem OwSS.lists {lo hi n c : Nat} {A : Option Addr} {xss : List (List Int)} {w : World} (h : OwSS lo hi (.slice A n c) n xss w) : SS w hi A xss := by
  obtain ⟨h0, vs, h1, h2⟩ := h
  intro hn
  rcases h1.1.2 with ⟨_, hz⟩ | ⟨g, cap, cur, hv, _⟩
  · omega
  · have hg := h1.2 g (by rw [hv]; rfl)
    simp only [Value.slice.injEq] at hv
    obtain ⟨rfl, _, rfl⟩ := hv
    have hvl : vs.length = n := by have := h1.1.1; omega
    refine ⟨g, 0, rfl, hg, fun j hj => ?_⟩
    obtain ⟨A', m, c', e1, e2, e3⟩ := h2.row j (by omega)
    refine ⟨A', m, c', ?_, e2, e3.ints⟩
    rw [Nat.zero_add, h1.1.cellAt _ (by omega)]; exact e1
theorem As.lists {lo hi n c : Nat} {A : Option Addr} {xss : List (List Int)} {w : World} (h : As lo hi (OwSS lo hi (.slice A n c) n xss) w) : SS w w.heap.size A xss := h.it.lists.more h.le
theorem ints_ne_int : (3 : TypeId) ≠ 26 := by decide
theorem OwSS.nil (lo hi : Nat) (w : World) : OwSS lo hi (.slice none 0 0) 0 [] w := ⟨rfl, [], OwR.nil _ _ _ _ _, ⟨fun j hj => by simp at hj, fun i j v u k _ h => by simp at h⟩⟩
end Go.Proofs.Ytbnioefhfpahcaa

namespace Go.Proofs.Ytbnioefhfpahcaa
set_option linter.unusedSimpArgs false
set_option linter.unusedVariables false
open Go.RowKit
/-- What ReadsOf answers. -/
def readF (ps : List Pt) (vs : List Int) : List Int := if canEv ps vs then firsts ((whole ps).rds vs) else []
theorem rds_whole (ps : List Pt) (vs : List Int) (h : ps.length ≤ 12) : ((whole ps).rds vs).length ≤ 531441 :=
  Nat.le_trans (rds_len ps vs ps.length (ps.length - 1)) (Nat.pow_le_pow_right (by omega) h)
theorem firsts_inv (P : List Int → Prop) (l : List Int) : ∀ acc : List Int, P acc → (∀ acc x, x ∈ l → P acc → P (if x ∈ acc then acc else acc ++ [x])) → P (l.foldl (fun acc x => if x ∈ acc then acc else acc ++ [x]) acc) := by
  induction l with
  | nil => intro acc h _; exact h
  | cons y l ih => intro acc h hs; exact ih _ (hs acc y List.mem_cons_self h) fun a x hx => hs a x (List.mem_cons_of_mem _ hx)
theorem firsts_bd (l : List Int) (m : Nat) (h : ∀ x ∈ l, ∃ q : Nat, q < m ∧ x = (q : Int)) : (firsts l).length ≤ m := by
  have h1 : (firsts l).Nodup ∧ ∀ x ∈ firsts l, ∃ q : Nat, q < m ∧ x = (q : Int) := by
    refine firsts_inv (fun a => a.Nodup ∧ ∀ x ∈ a, ∃ q : Nat, q < m ∧ x = (q : Int)) l [] ⟨List.nodup_nil, fun x hx => by cases hx⟩ ?_
    intro acc x hx ⟨h2, h3⟩
    split
    · exact ⟨h2, h3⟩
    · rename_i hn
      refine ⟨?_, ?_⟩
      · rw [List.nodup_append]
        refine ⟨h2, by simp, ?_⟩
        intro a ha b hb e
        simp at hb
        subst hb; subst e
        exact hn ha
      · intro y hy
        rcases List.mem_append.mp hy with h4 | h4
        · exact h3 y h4
        · simp at h4; subst h4; exact h y hx
  have h2 := sum_counts (firsts l) m fun x hx => by
    obtain ⟨q, hq, rfl⟩ := h1.2 x hx; omega
  rw [← h2]
  exact (sum_ones (fun i : Nat => (firsts l).count (i : Int)) m fun i _ => List.nodup_iff_count.mp h1.1 _).1
set_option maxHeartbeats 800000 in
theorem impl_ReadsOf (A A' : Option Addr) (n c m c' : Nat) (ps : List Pt) (vs : List Int) (B : Nat) (hn : n = ps.length) (hm : m = vs.length) (hs : n ≤ 1999999) (hs' : m ≤ 2000000) (w : World) (hB : B ≤ w.heap.size) (h : PS w B A ps) (h' : IS w B A' vs) :
    Calls Try.prog 56 #[.agg #[.slice A n c], .slice A' m c'] w fun e w' => RetI w (readF ps vs) e w' := by
  have H := Lib.hid h
  have HN := Lib.hid hn
  have H' := Lib.hid h'
  have HM := Lib.hid hm
  clear hn h hm h'
  cases hc : canEv ps vs
  · have hr : readF ps vs = [] := by simp [readF, hc]
    rw [hr]
    have HC := Lib.hid hc
    clear hr hc
    go_enter Try.func56, Try.ntmps56
    go_wp2_with fail
    refine (impl_canEvaluate _ _ _ _ _ _ ps vs _ B (by simp; omega) HN.out HM.out ((H.out.alloc hB _).alloc (by simp; omega) _) ((H'.out.alloc hB _).alloc (by simp; omega) _) (by omega) hs').mono ?_
    rintro e w1 ⟨rfl, hb⟩
    rw [HC.out]
    go_wp2
    go_ret
    exact ⟨_, rfl, World.ownsRow_nil _ _ _ _, (((Below.refl _ _).alloc (Nat.le_refl _) _).alloc (by simp) _).trans (hb.mono (by simp; omega))⟩
  · have hr : readF ps vs = firsts ((whole ps).rds vs) := by simp [readF, hc]
    rw [hr]
    obtain ⟨hv, hvo, hm10, hea⟩ := canEv_parts ps vs hc
    obtain ⟨hg, h1, h12⟩ := validF_good ps hv
    have hok : (whole ps).ok vs.length := tmAt_ok ps vs.length hg hea ps.length (ps.length - 1) (by omega) (by omega)
    have HWH := Lib.hid (fun (w : World) => impl_wholeOf A n c ps B HN.out hg (by omega) (by have := HN.out; omega) w)
    rw [show tmAt ps n (n - 1) = whole ps by rw [HN.out]; rfl] at HWH
    have hrl := rds_whole ps vs h12
    have HC := Lib.hid hc
    have HVO := Lib.hid hvo
    have HOK := Lib.hid hok
    clear hr hc hv hvo hea hg h1 h12 hok
    generalize whole ps = t at *
    go_enter Try.func56, Try.ntmps56
    go_wp2_with fail
    refine (impl_canEvaluate _ _ _ _ _ _ ps vs _ B (by simp; omega) HN.out HM.out ((H.out.alloc hB _).alloc (by simp; omega) _) ((H'.out.alloc hB _).alloc (by simp; omega) _) (by omega) hs').mono ?_
    rintro e w1 ⟨rfl, hb⟩
    rw [HC.out]
    have hz : w.heap.size + 1 + 1 ≤ w1.heap.size := by have := hb.size; simpa using this
    have hz0 : w.heap.size < w1.heap.size := by omega
    have hbox : w1.cell? ⟨w.heap.size, 0, none⟩ = some (.slice A n c) := (hb.cell (p := ⟨w.heap.size, 0, none⟩) (by simp; omega)).trans (by go_simp)
    have hbox2 : w1.cell? ⟨w.heap.size + 1, 0, none⟩ = some (.slice A' m c') := (hb.cell (p := ⟨w.heap.size + 1, 0, none⟩) (by simp)).trans (by go_simp)
    have HP1 := Lib.hid (((H.out.alloc hB (.cells #[.slice A n c] 39)).alloc (by simp; omega) (.cells #[.slice A' m c'] 26)).below hb (by simp; omega))
    have HI1 := Lib.hid (((H'.out.alloc hB (.cells #[.slice A n c] 39)).alloc (by simp; omega) (.cells #[.slice A' m c'] 26)).below hb (by simp; omega))
    have hB1 : Below w.heap.size w w1 := (((Below.refl _ _).alloc (Nat.le_refl _) _).alloc (by simp) _).trans (hb.mono (by simp; omega))
    clear hb
    go_wp2_with fail
    refine (HWH.out _ (by simp; omega) (HP1.out.alloc (by omega) _)).mono ?_
    rintro e w2 ⟨T, x, rfl, hT, hb2⟩
    have HT := Lib.hid hT
    clear hT
    have hz2 : w1.heap.size + 1 ≤ w2.heap.size := by have := hb2.size; simpa using this
    have hbg : Below w1.heap.size w1 w2 := (below_new w1 _).trans (hb2.mono (by simp))
    have hIR : IR w1.heap.size w1 [] w2 := ⟨hbg, by omega, (hb2.frozen (p := ⟨w1.heap.size, 0, none⟩) (by simp)).trans (by go_simp), .slice none 0 0, (hb2.cell (p := ⟨w1.heap.size, 0, none⟩) (by simp)).trans (by go_simp), World.ownsRow_nil _ _ _ _⟩
    have HEV := Lib.hid (impl_evaluate2 63 (.pointer (some ⟨w1.heap.size, 0, none⟩)) (.pointer (some ⟨w.heap.size + 1, 0, none⟩)) vs HVO.out (footR w1.heap.size) (fun acc w' => IR w1.heap.size w1 acc w' ∧ ∀ x ∈ acc, ∃ q : Nat, q < vs.length ∧ x = (q : Int))
      (fun acc w' k h hf => h.1.foot_lt k hf) (fun acc wa wb h1 h2 => ⟨⟨h1.1.step h2, h1.2⟩, fun k hf => h1.1.foot_step h2 k hf⟩) (fun q w => by kernel_rfl)
      (fun q acc wa hq h1 => (look_read A' m c' w1.heap.size (w.heap.size + 1) q vs acc w1 wa B HM.out hs' hq (by omega) (by omega) hbox2 HI1.out h1.1 (by have := firsts_bd acc vs.length h1.2; omega)).mono
        fun e wb ⟨he, hI, hF⟩ => ⟨he, ⟨hI, fun x hx => by
          rcases List.mem_append.mp hx with h4 | h4
          · exact h1.2 x h4
          · simp at h4; exact ⟨q, hq, h4⟩⟩, hF⟩) t)
    have HIR := Lib.hid hIR
    clear hb2 hIR
    go_wp2_with fail
    rw [← HT.out]
    refine (HEV.out [] _ HOK.out ⟨HIR.out, fun x hx => by cases hx⟩).mono ?_
    rintro e w3 ⟨rfl, ⟨hI3, _⟩, _⟩
    obtain ⟨v, hv, ho⟩ := hI3.cell
    obtain ⟨A3, c3, rfl⟩ := own_form ho
    simp only [List.nil_append] at hv ho
    have HO := Lib.hid ho
    have HB3 := Lib.hid hI3.bel
    have hs3 := hI3.lt
    clear ho hI3
    go_wp2
    go_ret
    exact ⟨_, rfl, own_mono HO.out (by omega), hB1.trans (HB3.out.mono (by omega))⟩
end Go.Proofs.Ytbnioefhfpahcaa

namespace Go.Proofs.Ytbnioefhfpahcaa
set_option linter.unusedSimpArgs false
set_option linter.unusedVariables false
open Go.RowKit
theorem rds_lt (t : Tm) (vs : List Int) (m : Nat) (h : t.ok m) : ∀ x ∈ t.rds vs, ∃ q : Nat, q < m ∧ x = (q : Int) := by
  induction t with
  | num v => intro x hx; simp [Tm.rds] at hx
  | rd v =>
    intro x hx
    simp [Tm.rds] at hx
    simp only [Tm.ok] at h
    exact ⟨v.toNat, by omega, by omega⟩
  | pr k l r ihl ihr =>
    intro x hx
    simp only [Tm.ok] at h
    simp only [Tm.rds, List.mem_append] at hx
    rcases hx with hx | hx
    · exact ihl h.1 x hx
    · exact ihr h.2 x hx
  | ch a b c iha ihb ihc =>
    intro x hx
    simp only [Tm.ok] at h
    simp only [Tm.rds, List.mem_append] at hx
    rcases hx with hx | hx
    · exact iha h.1 x hx
    · split at hx
      · exact ihc h.2.2 x hx
      · exact ihb h.2.1 x hx
theorem firsts_mem (l : List Int) (x : Int) : x ∈ firsts l ↔ x ∈ l := by
  have : ∀ (l acc : List Int), x ∈ l.foldl (fun acc x => if x ∈ acc then acc else acc ++ [x]) acc ↔ x ∈ acc ∨ x ∈ l := by
    intro l
    induction l with
    | nil => intro acc; simp
    | cons y l ih =>
      intro acc
      rw [List.foldl_cons, ih]
      by_cases hy : y ∈ acc
      · rw [if_pos hy, List.mem_cons]
        constructor
        · rintro (h | h)
          · exact .inl h
          · exact .inr (.inr h)
        · rintro (h | h | h)
          · exact .inl h
          · subst h; exact .inl hy
          · exact .inr h
      · rw [if_neg hy, List.mem_append, List.mem_cons, List.mem_cons]
        simp only [List.not_mem_nil, or_false]
        constructor
        · rintro ((h | h) | h)
          · exact .inl h
          · exact .inr (.inl h)
          · exact .inr (.inr h)
        · rintro (h | h | h)
          · exact .inl (.inl h)
          · exact .inl (.inr h)
          · exact .inr h
  simpa [firsts] using this l []
end Go.Proofs.Ytbnioefhfpahcaa

namespace Go.Proofs.Ytbnioefhfpahcaa
set_option linter.unusedSimpArgs false
set_option linter.unusedVariables false
open Go.RowKit
/-- What a node reads with some values. -/
def depF (gs : List Nd) (vs : List Int) (i : Nat) : List Int := if (gs.getD i default).k == 0 then [] else firsts ((whole (gs.getD i default).ps).rds vs)
theorem OwSS.snoc {base k : Nat} {v v' : Value} {xss : List (List Int)} {D : List Int} {A : Option Addr} {m c : Nat} {wr w5 w6 : World} {vs : List Value} {o : Obj} (hrow : wr.ownsRow base 26 1 v k vs) (hss : SSk base wr.heap.size vs (lenOf xss) (rowOf xss) wr) (hk : k = xss.length) (hb : Below wr.heap.size wr w5)
    (hd : w5.ownsRow wr.heap.size 3 1 (.slice A m c) m (D.map (Value.int .i64))) (hm : m = D.length) (happ : w6.ownsRow base 26 1 v' (k + 1) (vs ++ [.slice A m c])) (hgrow : (w5.alloc o).grownBy w6 v.ownBlock) (hbs : base ≤ wr.heap.size) : OwSS base w6.heap.size v' (k + 1) (xss ++ [D]) w6 := by
  have hvl : vs.length = k := by have := hrow.1; omega
  have hrow5 := (own_below hrow hb).alloc o
  have hss5 : SSk base wr.heap.size vs (lenOf xss) (rowOf xss) (w5.alloc o) := (hss.keep fun q _ hq => hb.block q hq).keep fun q _ hq => Below.heap_alloc _ _ _ (Nat.lt_of_lt_of_le hq hb.size)
  have hss6 : SSk base wr.heap.size vs (lenOf xss) (rowOf xss) w6 := hss5.grown hgrow (hss5.ne hrow5 ints_ne_int)
  have hd6 : w6.ownsRow wr.heap.size 3 1 (.slice A m c) m (D.map (Value.int .i64)) := (hd.alloc o).kept hgrow (blocks_ne (hd.alloc o) hrow5 ints_ne_int)
  refine ⟨by rw [List.length_append, hk]; rfl, vs ++ [.slice A m c], OwR.start happ, ?_⟩
  refine hss6.put (hi' := w6.heap.size) (lens' := lenOf (xss ++ [D])) (cont' := rowOf (xss ++ [D])) (A := A) (m := m) (c := c) k ?_ ?_ ?_ ?_ ?_ ?_ hbs ?_
  · rw [List.getElem?_append_right (by omega), hvl, Nat.sub_self]; rfl
  · intro j hj
    rcases Nat.lt_or_ge j vs.length with h1 | h1
    · rw [List.getElem?_append_left h1]
    · rw [List.getElem?_eq_none h1, List.getElem?_eq_none (by simp; omega)]
  · intro j hj hjk; simp at hj; omega
  · rw [hm]; unfold lenOf; simp [List.getD, hk]
  · intro j hj
    have : (xss ++ [D]).getD j [] = xss.getD j [] := by
      rcases Nat.lt_or_ge j xss.length with h1 | h1
      · simp [List.getD, List.getElem?_append_left h1]
      · rw [List.getD, List.getElem?_eq_none (by simp; omega), List.getD, List.getElem?_eq_none h1]
    unfold lenOf rowOf
    rw [this]
    exact ⟨rfl, rfl⟩
  · refine ⟨?_, fun q hq => (hd6.lt q hq).2⟩
    have : rowOf (xss ++ [D]) k = D.map (Value.int .i64) := by unfold rowOf; simp [List.getD, hk]
    rw [this]; exact hd6
  · have h1 := hgrow.size; simp at h1; have := hb.size; omega
theorem info_ints1 : (Try.prog.info? 26).map (fun i => (i.zero, i.size, i.bytes)) = some (some (.slice none 0 0), 1, 24) := by kernel_rfl
end Go.Proofs.Ytbnioefhfpahcaa

namespace Go.Proofs.Ytbnioefhfpahcaa
set_option linter.unusedSimpArgs false
set_option linter.unusedVariables false
open Go.RowKit
/-- Some more lists than a million, none longer. -/
def SB2 (xss : List (List Int)) : Prop := xss.length ≤ 2000000 ∧ ∀ j, (xss.getD j []).length ≤ 1048576
theorem len_le_sum (xss : List (List Int)) (j : Nat) : (xss.getD j []).length ≤ (xss.map List.length).sum := by
  induction xss generalizing j with
  | nil => simp
  | cons x xs ih =>
    cases j with
    | zero => simp [List.getD]
    | succ j => have := ih j; simp [List.getD] at *; omega
theorem SB.of_sum {xss : List (List Int)} (h : xss.length ≤ 1048576) (h' : (xss.map List.length).sum ≤ 1048576) : SB xss :=
  ⟨h, fun j => Nat.le_trans (len_le_sum xss j) h'⟩
theorem SB2.of_sum {xss : List (List Int)} (h : xss.length ≤ 2000000) (h' : (xss.map List.length).sum ≤ 1048576) : SB2 xss :=
  ⟨h, fun j => Nat.le_trans (len_le_sum xss j) h'⟩
theorem SS.at_ {w : World} {B : Nat} {A : Option Addr} {xss : List (List Int)} (h : SS w B A xss) (j : Nat) (hj : j < xss.length) : ∃ b off, A = some ⟨b, off, none⟩ ∧ b < B ∧ ∃ A' n c, w.cell? ⟨b, off + j, none⟩ = some (.slice A' n c) ∧ n = (xss.getD j []).length ∧ IS w B A' (xss.getD j []) := by
  obtain ⟨b, off, e, hb, hc⟩ := h (by omega)
  exact ⟨b, off, e, hb, hc j hj⟩
end Go.Proofs.Ytbnioefhfpahcaa

namespace Go.Proofs.Ytbnioefhfpahcaa
set_option linter.unusedSimpArgs false
set_option linter.unusedVariables false
open Go.RowKit
theorem SSk.congr {lo hi : Nat} {vs : List Value} {lens : Nat → Nat} {cont cont' : Nat → List Value} {w : World} (h : SSk lo hi vs lens cont w) (hc : ∀ j, j < vs.length → cont j = cont' j) : SSk lo hi vs lens cont' w :=
  ⟨fun j hj => by obtain ⟨A, m, c, e1, e2, e3⟩ := h.row j hj; exact ⟨A, m, c, e1, e2, by rw [← hc j hj]; exact e3⟩, h.apart⟩
end Go.Proofs.Ytbnioefhfpahcaa

namespace Go.Proofs.Ytbnioefhfpahcaa
set_option linter.unusedSimpArgs false
set_option linter.unusedVariables false
open Go.RowKit
section
variable {lo hi : Nat} {w : World}
/-- One row more ahead. -/
theorem SSk.cons {us : List Value} {x : List Int} {xs : List (List Int)} {A : Option Addr} {n c : Nat} (h : SSk lo hi us (lenOf xs) (rowOf xs) w) (hr : OwR lo hi 3 1 (.slice A n c) n (x.map (Value.int .i64)) w) (hn : n = x.length) (hap : ∀ (j : Nat) (u : Value) (k : Nat), us[j]? = some u → (Value.slice A n c).ownBlock = some k → u.ownBlock ≠ some k) : SSk lo hi (.slice A n c :: us) (lenOf (x :: xs)) (rowOf (x :: xs)) w := by
  refine ⟨fun j hj => ?_, fun i j v u k hij h3 h4 hv hu => ?_⟩
  · cases j with
    | zero => exact ⟨A, n, c, rfl, hn, hr⟩
    | succ j => exact h.row j (by simpa using hj)
  · cases i with
    | zero =>
      cases j with
      | zero => exact hij rfl
      | succ j =>
        simp only [List.getElem?_cons_zero, Option.some.injEq] at h3
        subst h3
        exact hap j u k h4 hv hu
    | succ i =>
      cases j with
      | zero =>
        simp only [List.getElem?_cons_zero, Option.some.injEq] at h4
        subst h4
        exact hap i v k h3 hu hv
      | succ j => exact h.apart i j v u k (by omega) h3 h4 hv hu
/-- One row more behind. -/
theorem SSk.snoc {us : List Value} {x : List Int} {xs : List (List Int)} {A : Option Addr} {n c : Nat} (h : SSk lo hi us (lenOf xs) (rowOf xs) w) (hl : us.length = xs.length) (hr : OwR lo hi 3 1 (.slice A n c) n (x.map (Value.int .i64)) w) (hn : n = x.length) (hap : ∀ (j : Nat) (u : Value) (k : Nat), us[j]? = some u → (Value.slice A n c).ownBlock = some k → u.ownBlock ≠ some k) : SSk lo hi (us ++ [.slice A n c]) (lenOf (xs ++ [x])) (rowOf (xs ++ [x])) w := by
  have hin : ∀ j, j < us.length → (us ++ [Value.slice A n c])[j]? = us[j]? ∧ (xs ++ [x]).getD j [] = xs.getD j [] := fun j hj => ⟨List.getElem?_append_left hj, by simp only [List.getD, List.getElem?_append_left (show j < xs.length by omega)]⟩
  have hlast : (us ++ [Value.slice A n c])[us.length]? = some (.slice A n c) ∧ (xs ++ [x]).getD us.length [] = x := ⟨by simp, by rw [hl]; simp [List.getD]⟩
  have hout : ∀ j v, (us ++ [Value.slice A n c])[j]? = some v → j < us.length ∨ (j = us.length ∧ v = .slice A n c) := by
    intro j v hv
    rcases Nat.lt_trichotomy j us.length with h1 | h1 | h1
    · exact .inl h1
    · subst h1; rw [hlast.1] at hv; cases hv; exact .inr ⟨rfl, rfl⟩
    · rw [List.getElem?_eq_none (by simp; omega)] at hv; cases hv
  refine ⟨fun j hj => ?_, fun i j v u k hij h3 h4 hv hu => ?_⟩
  · by_cases h1 : j < us.length
    · obtain ⟨A', m, c', r1, r2, r3⟩ := h.row j h1
      refine ⟨A', m, c', (hin j h1).1.trans r1, ?_, ?_⟩
      · rw [r2]; unfold lenOf; rw [(hin j h1).2]
      · have : rowOf (xs ++ [x]) j = rowOf xs j := by unfold rowOf; rw [(hin j h1).2]
        rw [this]; exact r3
    · obtain rfl : j = us.length := by simp at hj; omega
      refine ⟨A, n, c, hlast.1, ?_, ?_⟩
      · unfold lenOf; rw [hlast.2]; exact hn
      · have : rowOf (xs ++ [x]) us.length = x.map (Value.int .i64) := by unfold rowOf; rw [hlast.2]
        rw [this]; exact hr
  · rcases hout i v h3 with h1 | ⟨h1, rfl⟩
    · rcases hout j u h4 with h2 | ⟨h2, rfl⟩
      · exact h.apart i j v u k hij ((hin i h1).1.symm.trans h3) ((hin j h2).1.symm.trans h4) hv hu
      · exact hap i v k ((hin i h1).1.symm.trans h3) hu hv
    · rcases hout j u h4 with h2 | ⟨h2, rfl⟩
      · exact hap j u k ((hin j h2).1.symm.trans h4) hv hu
      · omega
end
structure Lz where
  vs : List Int
  rs : List (List Int)
  cs : List Int
deriving DecidableEq, Inhabited
def rowsL (e : Lz) : List (List Int) := e.vs :: (e.rs ++ [e.cs])
/-- No more numbers than a million. -/
def LB (e : Lz) : Prop := e.vs.length ≤ 1048576 ∧ SB e.rs ∧ SB2 (rowsL e) ∧ (e.rs.map List.length).sum ≤ 1048576 ∧ ((rowsL e).map List.length).sum ≤ 1048576 ∧ e.cs.length ≤ 1048576
theorem LB.of_small (e : Lz) (h1 : e.vs.length ≤ 1000) (h2 : SB e.rs) (h3 : (e.rs.map List.length).sum ≤ 1000) (h4 : e.cs.length ≤ 1000) : LB e := by
  have h5 : ((rowsL e).map List.length).sum ≤ 1048576 := by unfold rowsL; simp; omega
  exact ⟨by omega, h2, SB2.of_sum (by unfold rowsL; simp; have := h2.1; omega) h5, by omega, h5, by omega⟩
/-- The slices at A, E and C read as the state e; all of it lies below block B. -/
def LS3 (w : World) (B : Nat) (A E C : Option Addr) (e : Lz) : Prop := IS w B A e.vs ∧ (SS w B E e.rs ∧ IS w B C e.cs)
section
variable {w w' : World} {B B' D : Nat} {A E C : Option Addr} {e : Lz}
theorem LS3.more (h : LS3 w B A E C e) (hB : B ≤ B') : LS3 w B' A E C e := ⟨h.1.more hB, h.2.1.more hB, h.2.2.more hB⟩
theorem LS3.below (h : LS3 w B A E C e) (hb : Below D w w') (hC : B ≤ D) : LS3 w' B A E C e := ⟨h.1.below hb hC, h.2.1.below hb hC, h.2.2.below hb hC⟩
theorem LS3.alloc (h : LS3 w B A E C e) (hB : B ≤ w.heap.size) (o : Obj) : LS3 (w.alloc o) B A E C e := ⟨h.1.alloc hB o, h.2.1.alloc hB o, h.2.2.alloc hB o⟩
theorem LS3.keep (h : LS3 w B A E C e) (hk : ∀ p : Addr, p.block < B → w'.cell? p = w.cell? p) : LS3 w' B A E C e := ⟨h.1.keep hk, h.2.1.keep hk, h.2.2.keep hk⟩
theorem LS3.setCell (h : LS3 w B A E C e) {b j : Nat} (hb : B ≤ b) (u : Value) : LS3 (w.setCell ⟨b, j, none⟩ u) B A E C e := h.keep fun p hp => World.cell?_setCell_other _ _ _ _ (by intro e; rw [← e] at hp; exact absurd hp (by show ¬ b < B; omega))
theorem LS3.loc (B : Nat) (A E C : Option Addr) (e : Lz) : Loc 0 B fun w => LS3 w B A E C e := (IS.loc B A e.vs).and ((SS.loc B E e.rs).and (IS.loc B C e.cs))
end
/-- A state of the call's own, in blocks lo to hi - 1. -/
def OwL (lo hi : Nat) (A : Option Addr) (n c : Nat) (E : Option Addr) (en ec : Nat) (C : Option Addr) (m d : Nat) (st : Lz) (w : World) : Prop :=
  n = st.vs.length ∧ en = st.rs.length ∧ m = st.cs.length ∧ ∃ us, OwR lo hi 26 1 (.slice E en ec) en us w ∧ SSk lo hi (.slice A n c :: (us ++ [.slice C m d])) (lenOf (rowsL st)) (rowOf (rowsL st)) w
section
variable {lo hi lo' hi' n c en ec m d : Nat} {A E C : Option Addr} {st : Lz} {k : Int} {w w' : World}
theorem OwL.loc (lo hi : Nat) (A : Option Addr) (n c : Nat) (E : Option Addr) (en ec : Nat) (C : Option Addr) (m d : Nat) (st : Lz) : Loc lo hi (OwL lo hi A n c E en ec C m d st) := by
  rintro w w' ⟨h0, h0', h0'', vs, h1, h2⟩ hk
  exact ⟨h0, h0', h0'', vs, h1.keep hk, h2.keep hk⟩
theorem OwL.mono (h : OwL lo hi A n c E en ec C m d st w) (h1 : lo' ≤ lo) (h2 : hi ≤ hi') : OwL lo' hi' A n c E en ec C m d st w := by
  obtain ⟨h0, h0', h0'', vs, e1, e2⟩ := h
  exact ⟨h0, h0', h0'', vs, e1.mono h1 h2, e2.mono h1 h2⟩
theorem OwL.row0 (h : OwL lo hi A n c E en ec C m d st w) : OwR lo hi 3 1 (.slice A n c) n (st.vs.map (Value.int .i64)) w := by
  obtain ⟨h0, h0', h0'', us, e1, e2⟩ := h
  obtain ⟨A', m', c', r1, r2, r3⟩ := e2.row 0 (by simp)
  simp only [List.getElem?_cons_zero, Option.some.injEq, Value.slice.injEq] at r1
  obtain ⟨rfl, rfl, rfl⟩ := r1
  exact r3
theorem rowsL_mid (st : Lz) (j : Nat) (h : j < st.rs.length) : (rowsL st).getD (j + 1) [] = st.rs.getD j [] := by
  unfold rowsL
  simp [List.getD, List.getElem?_append_left h]
theorem rowsL_last (st : Lz) : (rowsL st).getD (st.rs.length + 1) [] = st.cs := by
  unfold rowsL
  simp [List.getD]
theorem OwL.rowC (h : OwL lo hi A n c E en ec C m d st w) : OwR lo hi 3 1 (.slice C m d) m (st.cs.map (Value.int .i64)) w := by
  obtain ⟨h0, h0', h0'', us, e1, e2⟩ := h
  have hul : us.length = en := by have := e1.1.1; omega
  obtain ⟨A', m', c', r1, r2, r3⟩ := e2.row (st.rs.length + 1) (by simp; omega)
  rw [List.getElem?_cons_succ, ← h0', ← hul] at r1
  simp only [List.getElem?_concat_length, Option.some.injEq, Value.slice.injEq] at r1
  obtain ⟨rfl, rfl, rfl⟩ := r1
  have : rowOf (rowsL st) (st.rs.length + 1) = st.cs.map (Value.int .i64) := by unfold rowOf; rw [rowsL_last]
  rw [this] at r3
  exact r3
theorem OwL.lists (h : OwL lo hi A n c E en ec C m d st w) : OwSS lo hi (.slice E en ec) en st.rs w := by
  obtain ⟨h0, h0', h0'', us, e1, e2⟩ := h
  have hul : us.length = en := by have := e1.1.1; omega
  refine ⟨h0', us, e1, ⟨fun j hj => ?_, fun i j v u k hij h1 h2 => ?_⟩⟩
  · obtain ⟨A', m', c', r1, r2, r3⟩ := e2.row (j + 1) (by simp; omega)
    rw [List.getElem?_cons_succ, List.getElem?_append_left hj] at r1
    have hm := rowsL_mid st j (by omega)
    refine ⟨A', m', c', r1, by rw [r2]; unfold lenOf; rw [hm], ?_⟩
    have : rowOf (rowsL st) (j + 1) = rowOf st.rs j := by unfold rowOf; rw [hm]
    rw [← this]; exact r3
  · have l1 : i < us.length := by
      rcases Nat.lt_or_ge i us.length with h3 | h3
      · exact h3
      · rw [List.getElem?_eq_none h3] at h1; cases h1
    have l2 : j < us.length := by
      rcases Nat.lt_or_ge j us.length with h3 | h3
      · exact h3
      · rw [List.getElem?_eq_none h3] at h2; cases h2
    exact e2.apart (i + 1) (j + 1) v u k (by omega) (by rw [List.getElem?_cons_succ, List.getElem?_append_left l1]; exact h1) (by rw [List.getElem?_cons_succ, List.getElem?_append_left l2]; exact h2)
theorem OwL.reads (h : OwL lo hi A n c E en ec C m d st w) : LS3 w hi A E C st := ⟨h.row0.ints, h.lists.lists, h.rowC.ints⟩
theorem lazy_start (h : OwL lo w.heap.size A n c E en ec C m d st w) : As lo w.heap.size (OwL lo w.heap.size A n c E en ec C m d st) w := ⟨h, Nat.le_refl _, OwL.loc _ _ _ _ _ _ _ _ _ _ _ _⟩
theorem As.lazy (h : As lo hi (OwL lo hi A n c E en ec C m d st) w) : LS3 w w.heap.size A E C st := h.it.reads.more h.le
/-- Three parts that lie apart make a state. -/
theorem OwL.of_apart {us : List Value} (h1 : OwR lo hi 3 1 (.slice A n c) n (st.vs.map (Value.int .i64)) w) (hn : n = st.vs.length) (hen : en = st.rs.length) (h2 : OwR lo hi 26 1 (.slice E en ec) en us w) (h3 : SSk lo hi us (lenOf st.rs) (rowOf st.rs) w) (h4 : OwR lo hi 3 1 (.slice C m d) m (st.cs.map (Value.int .i64)) w) (hm : m = st.cs.length)
    (a1 : ∀ (j : Nat) (u : Value) (k : Nat), us[j]? = some u → (Value.slice A n c).ownBlock = some k → u.ownBlock ≠ some k) (a2 : ∀ (j : Nat) (u : Value) (k : Nat), us[j]? = some u → (Value.slice C m d).ownBlock = some k → u.ownBlock ≠ some k) (a3 : ∀ k, (Value.slice A n c).ownBlock = some k → (Value.slice C m d).ownBlock ≠ some k) : OwL lo hi A n c E en ec C m d st w := by
  have hul : us.length = st.rs.length := by have := h2.1.1; omega
  refine ⟨hn, hen, hm, us, h2, (h3.snoc hul h4 hm a2).cons h1 hn fun j u k hu hk => ?_⟩
  rcases Nat.lt_trichotomy j us.length with h5 | h5 | h5
  · rw [List.getElem?_append_left h5] at hu
    exact a1 j u k hu hk
  · subst h5
    simp only [List.getElem?_concat_length, Option.some.injEq] at hu
    subst hu
    exact a3 k hk
  · rw [List.getElem?_eq_none (by simp; omega)] at hu; cases hu
/-- .. made one after the other. -/
theorem OwL.join {mid mid2 : Nat} (h : OwR lo mid 3 1 (.slice A n c) n (st.vs.map (Value.int .i64)) w) (hn : n = st.vs.length) (h' : OwSS mid mid2 (.slice E en ec) en st.rs w) (h'' : OwR mid2 hi 3 1 (.slice C m d) m (st.cs.map (Value.int .i64)) w) (hm : m = st.cs.length) (h1 : lo ≤ mid) (h2 : mid ≤ mid2) (h3 : mid2 ≤ hi) : OwL lo hi A n c E en ec C m d st w := by
  obtain ⟨h0, us, e1, e2⟩ := h'
  refine OwL.of_apart (h.mono (Nat.le_refl _) (by omega)) hn h0 (e1.mono h1 h3) (e2.mono h1 h3) (h''.mono (by omega) (Nat.le_refl _)) hm (fun j u k hu hk hk' => ?_) (fun j u k hu hk hk' => ?_) (fun k hk hk' => ?_)
  · have b1 := (e2.lt j u k hu hk').1
    have b2 := h.2 k hk
    omega
  · have b1 := (e2.lt j u k hu hk').2
    have b2 := (h''.1.lt k hk).1
    omega
  · have b1 := (h''.1.lt k hk').1
    have b2 := h.2 k hk
    omega
theorem OwL.setCell (h : OwL lo hi A n c E en ec C m d st w) {a : Addr} (ha : a.block < lo) (u : Value) : OwL lo hi A n c E en ec C m d st (w.setCell a u) :=
  OwL.loc _ _ _ _ _ _ _ _ _ _ _ _ _ _ h fun k hk _ => Below.heap_setCell _ _ _ _ (by omega)
end
/-- Returns a state in fresh blocks. -/
def RetL (w : World) (st : Lz) (e : Ending) (w' : World) : Prop := ∃ A n c E en ec C m d, e = .returned (.agg #[.slice A n c, .slice E en ec, .slice C m d]) ∧ OwL w.heap.size w'.heap.size A n c E en ec C m d st w' ∧ Below w.heap.size w w'
theorem OwL.nil (lo hi : Nat) (w : World) (h : lo ≤ hi) : OwL lo hi none 0 0 none 0 0 none 0 0 ⟨[], [], []⟩ w := OwL.join (mid := hi) (mid2 := hi) (OwR.nil _ _ _ _ _) rfl (OwSS.nil _ _ _) (OwR.nil _ _ _ _ _) rfl h (Nat.le_refl _) (Nat.le_refl _)
theorem RetL.nil {w w' : World} (hb : Below w.heap.size w w') : RetL w ⟨[], [], []⟩ (.returned (.agg #[.slice none 0 0, .slice none 0 0, .slice none 0 0])) w' := ⟨_, _, _, _, _, _, _, _, _, rfl, OwL.nil _ _ _ hb.size, hb⟩
end Go.Proofs.Ytbnioefhfpahcaa

namespace Go.Proofs.Ytbnioefhfpahcaa
set_option linter.unusedSimpArgs false
set_option linter.unusedVariables false
open Go.RowKit
/-- The three cells of a box. -/
structure Bx3 (b : Nat) (x y z : Value) (w : World) : Prop where
  lt : b < w.heap.size
  c0 : w.cell? ⟨b, 0, none⟩ = some x
  c1 : w.cell? ⟨b, 1, none⟩ = some y
  c2 : w.cell? ⟨b, 2, none⟩ = some z
  f : ∀ j, w.frozen? ⟨b, j, none⟩ = false
theorem Bx3.step {b : Nat} {x y z : Value} {w w' : World} {C : Nat} (h : Bx3 b x y z w) (hb : Below C w w') (hC : b < C) : Bx3 b x y z w' :=
  ⟨Nat.lt_of_lt_of_le h.lt hb.size, (hb.cell (p := ⟨b, 0, none⟩) hC).trans h.c0, (hb.cell (p := ⟨b, 1, none⟩) hC).trans h.c1, (hb.cell (p := ⟨b, 2, none⟩) hC).trans h.c2, fun j => (hb.frozen (p := ⟨b, j, none⟩) hC).trans (h.f j)⟩
theorem Bx3.other {b g j : Nat} {x y z u : Value} {w : World} (h : Bx3 b x y z w) (hg : b ≠ g) : Bx3 b x y z (w.setCell ⟨g, j, none⟩ u) := by
  have k (i : Nat) : (w.setCell ⟨g, j, none⟩ u).cell? ⟨b, i, none⟩ = w.cell? ⟨b, i, none⟩ := World.cell?_setCell_other _ _ _ _ (by intro e; cases e; exact hg rfl)
  exact ⟨by simpa [World.setCell] using h.lt, (k 0).trans h.c0, (k 1).trans h.c1, (k 2).trans h.c2, fun i => (World.frozen?_setCell _ _ _ _).trans (h.f i)⟩
theorem Bx3.set0 {b : Nat} {x y z u : Value} {w : World} (h : Bx3 b x y z w) : Bx3 b u y z (w.setCell ⟨b, 0, none⟩ u) :=
  ⟨by simpa [World.setCell] using h.lt, World.cell?_setCell_same _ _ _ h.c0, (World.cell?_setCell_other _ _ _ _ (by simp)).trans h.c1, (World.cell?_setCell_other _ _ _ _ (by simp)).trans h.c2, fun i => (World.frozen?_setCell _ _ _ _).trans (h.f i)⟩
theorem Bx3.set1 {b : Nat} {x y z u : Value} {w : World} (h : Bx3 b x y z w) : Bx3 b x u z (w.setCell ⟨b, 1, none⟩ u) :=
  ⟨by simpa [World.setCell] using h.lt, (World.cell?_setCell_other _ _ _ _ (by simp)).trans h.c0, World.cell?_setCell_same _ _ _ h.c1, (World.cell?_setCell_other _ _ _ _ (by simp)).trans h.c2, fun i => (World.frozen?_setCell _ _ _ _).trans (h.f i)⟩
theorem box3_start (w : World) (x y z : Value) (t : TypeId) : Bx3 w.heap.size x y z (w.alloc (.cells #[x, y, z] t)) :=
  ⟨by simp, by go_simp, by go_simp, by go_simp, fun j => by go_simp⟩
theorem Bx3.alloc {b : Nat} {x y z : Value} {w : World} (h : Bx3 b x y z w) (o : Obj) : Bx3 b x y z (w.alloc o) := h.step ((Below.refl w.heap.size w).alloc (Nat.le_refl _) o) h.lt
end Go.Proofs.Ytbnioefhfpahcaa
