/- Words and contracts for memory that the texts behind use. -/
import Derived.Test.YtdiabclcnkbglaaS0b
import Derived.WalkKit
import Derived.Laws.OwnMore
import Derived.Deep.Draws
import Derived.Test.YtdiabclcnkbglaaProg
import Derived.WalkSpells
import Derived.WalkLawsBesides
import Derived.Outline
import Derived.Lib.Hide
import Derived.BigQuiet
import Derived.Deep.QuietTactic
import Derived.StillTailTactics
import Derived.Deep.LoopGhost
import Derived.Laws.MakeOwn
import Derived.WalkSmall
import Derived.RegionTactic
import Derived.BigRegion
import Derived.Deep.RegionWith
import Derived.Deep.RegionHeld3
import Derived.Maps.AppendAt
import Derived.Laws.CopyOwn
import Derived.Deep.AppendLies
import Derived.Test.YtdiabclcnkbglaaRows
import Derived.ProofKit
import Derived.OpenShut
import Derived.ShutString
import Derived.ChangeOld
import Derived.Below
import Derived.Deep.Slices
import Derived.Deep.Fields

namespace Go.Proofs.Ytdiabclcnkbglaa
set_option linter.unusedSimpArgs false
set_option linter.unusedVariables false
open Go.RowKit
/-- A node of the list ahead that is no effect. -/
def rdA (gs : List Nd) (x : Int) : Bool := decide (x < (gs.length : Int)) && !((gs.getD x.toNat default).k == 2)
theorem rdA_take (gs : List Nd) (i : Nat) (hi : i ≤ gs.length) (x : Int) (hx : 0 ≤ x) : rdA (gs.take i) x = rdOK gs i x := by
  unfold rdA rdOK
  rw [List.length_take, Nat.min_eq_left hi]
  by_cases h : x < (i : Int)
  · have : (gs.take i).getD x.toNat default = gs.getD x.toNat default := by
      simp only [List.getD, List.getElem?_take, if_pos (show x.toNat < i by omega)]
    rw [this]
  · rw [decide_eq_false h]; rfl
theorem GS.take {w : World} {B : Nat} {A : Option Addr} {gs : List Nd} (h : GS w B A gs) (i : Nat) (hi : i ≤ gs.length) : GS w B A (gs.take i) := by
  intro hn
  rw [List.length_take, Nat.min_eq_left hi] at hn
  obtain ⟨b, off, e, hb, hc⟩ := h (by omega)
  refine ⟨b, off, e, hb, fun j hj => ?_⟩
  rw [List.length_take, Nat.min_eq_left hi] at hj
  have : (gs.take i).getD j default = gs.getD j default := by
    simp only [List.getD, List.getElem?_take, if_pos hj]
  rw [this]
  exact hc j (by omega)
set_option maxRecDepth 100000 in
set_option maxHeartbeats 1600000 in
theorem impl_areReadable (A A' : Option Addr) (n c l c' : Nat) (gs : List Nd) (L : List Int) (w : World) (B : Nat) (hB : B ≤ w.heap.size) (hn : n = gs.length) (hl : l = L.length) (h : GS w B A gs) (h' : IS w B A' L) (hs : n ≤ 2000000) (hs' : l ≤ 2000000) (hbd : ∀ j, j < l → 0 ≤ L.getD j 0) :
    Calls Try.prog 51 #[.slice A n c, .slice A' l c'] w fun e w' => e = .returned (.bool (L.all (rdA gs))) ∧ w = w' := by
  have H := Lib.hid h
  have HI := Lib.hid h'
  have HN := Lib.hid hn
  have HL := Lib.hid hl
  have HBD := Lib.hid hbd
  clear h h' hn hl hbd
  go_enter Try.func51, Try.ntmps51
  go_wp2
  go_loop [9] (fun u => ∃ k : Nat, k ≤ l ∧ u = .int .i64 k ∧ Hid (∀ j, j < k → rdA gs (L.getD j 0) = true)) (fun u => l - (intOf u).toNat)
  case atStart => exact ⟨0, by omega, rfl, by intro j hj; omega⟩
  case round =>
    obtain ⟨k, hk, rfl, HK⟩ := hrel
    by_cases hlt : k < l
    · obtain ⟨b', off', rfl, hb', hc⟩ := HI.out (by have := HL.out; omega)
      have hx := hc k (by have := HL.out; omega)
      have hx0 := HBD.out k hlt
      clear hc
      generalize hxx : L.getD k 0 = x at *
      have HX := Lib.hid hxx
      clear hxx
      obtain ⟨t, rfl⟩ : ∃ t : Nat, x = (t : Int) := ⟨x.toNat, by omega⟩
      by_cases htn : t < n
      · obtain ⟨b, off, rfl, hbB, c3, _⟩ := H.out.at_ t (by have := HN.out; omega)
        have hro : rdA gs (t : Int) = !((gs.getD t default).k == 2) := by unfold rdA; rw [decide_eq_true (by have := HN.out; omega)]; simp
        generalize gs.getD t default = q at *
        cases hq : (q.k == 2)
        all_goals
          have HR := Lib.hid hro
          have HQ := Lib.hid hq
          clear hro
          go_wp2
        · go_round
          case rel => exact ⟨k + 1, by omega, by go_num, fun j hj => by
            rcases Nat.lt_or_ge j k with h1 | h1
            · exact HK.out j h1
            · obtain rfl : j = k := by omega
              rw [HX.out, HR.out, HQ.out]; rfl⟩
          case measure => simp [intOf]; omega
        · go_ret
          refine ⟨ret_b ?_, rfl⟩
          exact (all_bad L (rdA gs) k (by have := HL.out; omega) (by rw [HX.out, HR.out, HQ.out]; rfl)).symm
      · have hro : rdA gs (t : Int) = false := by unfold rdA; rw [decide_eq_false (by have := HN.out; omega)]; rfl
        have HR := Lib.hid hro
        clear hro
        go_wp2
        go_ret
        refine ⟨ret_b ?_, rfl⟩
        exact (all_bad L (rdA gs) k (by have := HL.out; omega) (by rw [HX.out, HR.out])).symm
    · go_wp2
      go_ret
      refine ⟨ret_b ?_, rfl⟩
      exact (all_good L (rdA gs) fun j hj => HK.out j (by have := HL.out; omega)).symm
/-- Whether a node fits behind others. -/
def fitsB (gs : List Nd) (d : Nd) : Bool :=
  if d.k == 0 then decide (d.ps.length = 0)
  else if d.k == 1 then validF d.ps && (mayR d.ps).all (rdA gs)
  else if d.k == 2 then validF d.ps && (mayR d.ps).all (rdA gs)
  else false
theorem fits_node (gs : List Nd) (i : Nat) (hi : i ≤ gs.length) : fitsB (gs.take i) (gs.getD i default) = nodeOK gs i := by
  unfold fitsB nodeOK goodRd
  have e : (mayR (gs.getD i default).ps).all (rdA (gs.take i)) = (mayR (gs.getD i default).ps).all (rdOK gs i) := by
    rw [Bool.eq_iff_iff, List.all_eq_true, List.all_eq_true]
    constructor
    · intro h x hx; rw [← rdA_take gs i hi x (mem_mayR_bd _ _ hx).1]; exact h x hx
    · intro h x hx; rw [rdA_take gs i hi x (mem_mayR_bd _ _ hx).1]; exact h x hx
  rw [e]
set_option maxRecDepth 100000 in
set_option maxHeartbeats 1600000 in
theorem impl_fitsBehind (A A1 : Option Addr) (n c n1 c1 : Nat) (gs : List Nd) (k : Int) (ps : List Pt) (w : World) (B : Nat) (hB : B ≤ w.heap.size) (hn : n = gs.length) (hn1 : n1 = ps.length) (h : GS w B A gs) (h1 : PS w B A1 ps) (hs : n ≤ 2000000) (hs1 : n1 ≤ 1999999) :
    Calls Try.prog 44 #[.slice A n c, .agg #[.int .i64 k, .slice A1 n1 c1]] w fun e w' => e = .returned (.bool (fitsB gs ⟨k, ps⟩)) ∧ Below w.heap.size w w' := by
  have H := Lib.hid h
  have H1 := Lib.hid h1
  have HN := Lib.hid hn
  have HN1 := Lib.hid hn1
  have hfe : fitsB gs ⟨k, ps⟩ = if k == 0 then decide (ps.length = 0) else if k == 1 then validF ps && (mayR ps).all (rdA gs) else if k == 2 then validF ps && (mayR ps).all (rdA gs) else false := rfl
  cases h0 : (k == 0)
  · by_cases h12 : (k == 1) = true ∨ (k == 2) = true
    · have hfe2 : fitsB gs ⟨k, ps⟩ = (validF ps && (mayR ps).all (rdA gs)) := by
        rw [hfe, h0]
        rcases h12 with e | e
        · rw [e]; rfl
        · rw [e]; cases (k == 1) <;> rfl
      rw [hfe2]
      have HVF := Lib.hid fun (w : World) (hB : B ≤ w.heap.size) (h : PS w B A1 ps) => impl_ValidFormula A1 n1 c1 ps w B hB hn1 h (by omega)
      have HMR := Lib.hid fun (w : World) (hB : B ≤ w.heap.size) (h : PS w B A1 ps) => impl_MayRead A1 n1 c1 ps w B hB hn1 h (by omega)
      clear h h1 hn hn1 hfe hfe2
      cases hv : validF ps
      · rw [hv] at HVF
        clear hv HMR
        rw [show (false && (mayR ps).all (rdA gs)) = false from rfl]
        cases ha : (k == 1)
        · have hb : (k == 2) = true := by rcases h12 with e | e; rw [ha] at e; cases e; exact e
          clear h12
          go_enter Try.func44, Try.ntmps44
          go_wp2_with fail
          refine (HVF.out _ (by simp; omega) (H1.out.alloc hB _)).mono ?_
          rintro e w1 ⟨rfl, hb1⟩
          go_wp2
          go_ret
          exact ⟨rfl, ((Below.refl _ _).alloc (Nat.le_refl _) _).trans (hb1.mono (by simp))⟩
        · clear h12
          go_enter Try.func44, Try.ntmps44
          go_wp2_with fail
          refine (HVF.out _ (by simp; omega) (H1.out.alloc hB _)).mono ?_
          rintro e w1 ⟨rfl, hb1⟩
          go_wp2
          go_ret
          exact ⟨rfl, ((Below.refl _ _).alloc (Nat.le_refl _) _).trans (hb1.mono (by simp))⟩
      · have hmf : mayF ps = mayR ps := by simp [mayF, hv]
        rw [hv] at HVF
        rw [hmf] at HMR
        have hlen := mayR_len ps 10
        rw [mayR_below] at hlen
        have hbd := mayR_getD_bd ps
        clear hv hmf
        generalize mayR ps = L at *
        generalize hl : L.length = l at *
        have HL := Lib.hid hl
        have HAR := Lib.hid fun (A' : Option Addr) (c' : Nat) (w : World) (B : Nat) (hB : B ≤ w.heap.size) (h : GS w B A gs) (h' : IS w B A' L) => impl_areReadable A A' n c l c' gs L w B hB HN.out hl.symm h h' hs (by omega) (fun j hj => (hbd j hj).1)
        clear hl hbd
        rw [show (true && L.all (rdA gs)) = L.all (rdA gs) from Bool.true_and _]
        generalize L.all (rdA gs) = r at *
        cases ha : (k == 1)
        · have hb : (k == 2) = true := by rcases h12 with e | e; rw [ha] at e; cases e; exact e
          clear h12
          go_enter Try.func44, Try.ntmps44
          go_wp2_with fail
          refine (HVF.out _ (by simp; omega) (H1.out.alloc hB _)).mono ?_
          rintro e w1 ⟨rfl, hb1⟩
          have hz1 : w.heap.size < w1.heap.size := by have := hb1.size; simp at this; omega
          have hbx : w1.cell? ⟨w.heap.size, 1, none⟩ = some (.slice A1 n1 c1) := (hb1.cell (p := ⟨w.heap.size, 1, none⟩) (by simp)).trans (by go_simp)
          have HP1 := Lib.hid ((H1.out.alloc hB (.cells #[.int .i64 k, .slice A1 n1 c1] 51)).below hb1 (by simp; omega))
          have HG1 := Lib.hid ((H.out.alloc hB (.cells #[.int .i64 k, .slice A1 n1 c1] 51)).below hb1 (by simp; omega))
          have hB1 : Below w.heap.size w w1 := ((Below.refl _ _).alloc (Nat.le_refl _) _).trans (hb1.mono (by simp))
          clear hb1
          go_wp2_with fail
          refine (HMR.out _ (by omega) HP1.out).mono ?_
          rintro e w2 ⟨v2, rfl, hown, hb2⟩
          obtain ⟨A2, c2, rfl, hI⟩ := hown.form
          have HI := Lib.hid hI
          have HG2 := Lib.hid ((HG1.out.below hb2 (by omega)).more (B' := w2.heap.size) (by have := hb2.size; omega))
          rw [HL.out]
          clear hI hown
          go_wp2_with fail
          refine (HAR.out _ _ _ _ (Nat.le_refl _) HG2.out HI.out).mono ?_
          rintro e w3 ⟨rfl, rfl⟩
          go_wp2
          go_ret
          exact ⟨rfl, hB1.trans (hb2.mono (by omega))⟩
        · clear h12
          go_enter Try.func44, Try.ntmps44
          go_wp2_with fail
          refine (HVF.out _ (by simp; omega) (H1.out.alloc hB _)).mono ?_
          rintro e w1 ⟨rfl, hb1⟩
          have hz1 : w.heap.size < w1.heap.size := by have := hb1.size; simp at this; omega
          have hbx : w1.cell? ⟨w.heap.size, 1, none⟩ = some (.slice A1 n1 c1) := (hb1.cell (p := ⟨w.heap.size, 1, none⟩) (by simp)).trans (by go_simp)
          have HP1 := Lib.hid ((H1.out.alloc hB (.cells #[.int .i64 k, .slice A1 n1 c1] 51)).below hb1 (by simp; omega))
          have HG1 := Lib.hid ((H.out.alloc hB (.cells #[.int .i64 k, .slice A1 n1 c1] 51)).below hb1 (by simp; omega))
          have hB1 : Below w.heap.size w w1 := ((Below.refl _ _).alloc (Nat.le_refl _) _).trans (hb1.mono (by simp))
          clear hb1
          go_wp2_with fail
          refine (HMR.out _ (by omega) HP1.out).mono ?_
          rintro e w2 ⟨v2, rfl, hown, hb2⟩
          obtain ⟨A2, c2, rfl, hI⟩ := hown.form
          have HI := Lib.hid hI
          have HG2 := Lib.hid ((HG1.out.below hb2 (by omega)).more (B' := w2.heap.size) (by have := hb2.size; omega))
          rw [HL.out]
          clear hI hown
          go_wp2_with fail
          refine (HAR.out _ _ _ _ (Nat.le_refl _) HG2.out HI.out).mono ?_
          rintro e w3 ⟨rfl, rfl⟩
          go_wp2
          go_ret
          exact ⟨rfl, hB1.trans (hb2.mono (by omega))⟩
    · have ha : (k == 1) = false := by cases e : (k == 1); rfl; exact absurd (.inl e) h12
      have hb : (k == 2) = false := by cases e : (k == 2); rfl; exact absurd (.inr e) h12
      rw [hfe, h0, ha, hb]
      clear h h1 hn hn1 hfe h12
      go_enter Try.func44, Try.ntmps44
      go_wp2
      go_ret
      exact ⟨rfl, (Below.refl _ _).alloc (Nat.le_refl _) _⟩
  · rw [hfe, h0]
    clear h h1 hn hn1 hfe
    go_enter Try.func44, Try.ntmps44
    go_wp2
    go_ret
    refine ⟨ret_b ?_, (Below.refl _ _).alloc (Nat.le_refl _) _⟩
    rw [HN1.out]
    cases ps <;> simp
    omega
set_option maxRecDepth 100000 in
set_option maxHeartbeats 1600000 in
theorem impl_ValidGraph (A : Option Addr) (n c : Nat) (gs : List Nd) (w : World) (B : Nat) (hB : B ≤ w.heap.size) (hn : n = gs.length) (h : GS w B A gs) (hs : GB gs) (hnc : n ≤ c) :
    Calls Try.prog 35 #[.agg #[.slice A n c]] w fun e w' => e = .returned (.bool (validG gs)) ∧ Below w.heap.size w w' := by
  have hn1 : n ≤ 1048576 := by rw [hn]; exact hs.1
  by_cases h10 : 10 < n
  · rw [validG_long gs (by omega)]
    clear h hn hs
    go_enter Try.func35, Try.ntmps35
    go_wp2
    go_ret
    exact ⟨rfl, (Below.refl _ _).alloc (Nat.le_refl _) _⟩
  have H := Lib.hid h
  have HN := Lib.hid hn
  have HS := Lib.hid hs
  clear h hn hs
  go_enter Try.func35, Try.ntmps35
  go_wp2
  go_loopw [12] (fun u wr => ∃ k : Nat, k ≤ n ∧ u = .int .i64 k ∧ Hid (∀ j, j < k → nodeOK gs j = true) ∧ Below (w.heap.size + 1) (w.alloc (.cells #[.slice A n c] 33)) wr) (fun u _ => n - (intOf u).toNat)
  case atStart => exact ⟨0, by omega, rfl, by intro j hj; omega, Below.refl _ _⟩
  case round =>
    obtain ⟨k, hk, rfl, HK, hbr⟩ := hrel
    have hbox : wr.cell? ⟨w.heap.size, 0, none⟩ = some (.slice A n c) := (hbr.cell (p := ⟨w.heap.size, 0, none⟩) (by simp)).trans (by go_simp)
    have hwr : w.heap.size + 1 ≤ wr.heap.size := by have := hbr.size; simpa using this
    have hws : w.heap.size < wr.heap.size := by omega
    by_cases hlt : k < n
    · obtain ⟨b, off, rfl, hbB, c0, A1, n1, c1, c2, hn1', hps⟩ := H.out.at_ k (by have := HN.out; omega)
      have hx := HS.out.2 k
      have b0 : wr.cell? ⟨b, off + k * 2, none⟩ = _ := ((hbr.cell (p := ⟨b, off + k * 2, none⟩) (by simp; omega)).trans (World.cell?_alloc_lt _ _ _ (by simp; omega))).trans c0
      have b1 : wr.cell? ⟨b, off + k * 2 + 1, none⟩ = _ := ((hbr.cell (p := ⟨b, off + k * 2 + 1, none⟩) (by simp; omega)).trans (World.cell?_alloc_lt _ _ _ (by simp; omega))).trans c2
      have HPS := Lib.hid ((hps.alloc hB (.cells #[.slice (some ⟨b, off, none⟩) n c] 33)).below hbr (by omega))
      have HGS := Lib.hid (((H.out.take k (by have := HN.out; omega)).alloc hB (.cells #[.slice (some ⟨b, off, none⟩) n c] 33)).below hbr (by omega))
      have hfn := fits_node gs k (by have := HN.out; omega)
      have hlen : k = (gs.take k).length := by rw [List.length_take]; have := HN.out; omega
      clear c0 c2 hps
      generalize gs.getD k default = d at *
      have hy1 : n1 ≤ 1999999 := by omega
      have HFB := Lib.hid fun (w : World) (hB : B ≤ w.heap.size) (h : GS w B (some ⟨b, off, none⟩) (gs.take k)) (h1 : PS w B A1 d.ps) => impl_fitsBehind (some ⟨b, off, none⟩) A1 k c n1 c1 (gs.take k) d.k d.ps w B hB hlen hn1' h h1 (by omega) hy1
      rw [show fitsB (gs.take k) ⟨d.k, d.ps⟩ = nodeOK gs k from hfn] at HFB
      have HNK := Lib.hid fun (h : nodeOK gs k = false) => validG_bad gs k (by have := HN.out; omega) h
      have HNT : Hid (nodeOK gs k = true → ∀ j, j < k + 1 → nodeOK gs j = true) := fun h j hj => by
        rcases Nat.lt_or_ge j k with h1 | h1
        · exact HK.out j h1
        · obtain rfl : j = k := by omega
          exact h
      clear hfn hlen hn1' hx
      generalize nodeOK gs k = r at *
      cases r
      all_goals
        go_wp2
        obtain ⟨W2, hW2⟩ : ∃ W2, W2 = wr.alloc (.cells #[.int .i64 d.k, .slice A1 n1 c1] 51) := ⟨_, rfl⟩
        have q0 : W2.cell? ⟨w.heap.size, 0, none⟩ = some (.slice (some ⟨b, off, none⟩) n c) := by rw [hW2]; exact (World.cell?_alloc_lt _ _ _ hws).trans hbox
        have q1 : W2.cell? ⟨wr.heap.size, 0, none⟩ = some (.int .i64 d.k) := by rw [hW2]; go_simp
        have q2 : W2.cell? ⟨wr.heap.size, 1, none⟩ = some (.slice A1 n1 c1) := by rw [hW2]; go_simp
        have HP2 : Hid (PS W2 B A1 d.ps) := by rw [hW2]; exact HPS.out.alloc (by omega) _
        have HG2 : Hid (GS W2 B (some ⟨b, off, none⟩) (gs.take k)) := by rw [hW2]; exact HGS.out.alloc (by omega) _
        have hb2 : Below (w.heap.size + 1) (w.alloc (.cells #[.slice (some ⟨b, off, none⟩) n c] 33)) W2 := by rw [hW2]; exact hbr.alloc (by omega) _
        have hz2 : w.heap.size + 1 < W2.heap.size := by rw [hW2]; simp; omega
        have hkc : k ≤ c := by omega
        rw [← hW2]
        clear hW2 HPS HGS b0 b1
        go_still_tail 5, (by kernel_rfl)
        go_wp2_with fail
        refine (HFB.out W2.drew (show B ≤ W2.heap.size by omega) HG2.out HP2.out).mono ?_
        rintro e w3 ⟨rfl, hb3⟩
        have hB3 := hb2.drew.trans (hb3.mono (show w.heap.size + 1 ≤ W2.heap.size by omega))
        go_wp2
      · go_ret
        exact ⟨ret_b (HNK.out trivial).symm, ((Below.refl _ _).alloc (Nat.le_refl _) _).trans (hB3.mono (by omega))⟩
      · go_roundw
        case rel => exact ⟨k + 1, by omega, by go_num, HNT.out trivial, hB3⟩
        case measure => simp [intOf]; omega
    · go_wp2
      go_ret
      refine ⟨ret_b ?_, ((Below.refl _ _).alloc (Nat.le_refl _) _).trans (hbr.mono (by omega))⟩
      rw [validG_fin gs fun j hj => HK.out j (by have := HN.out; omega)]
      have := HN.out
      simp
      omega
end Go.Proofs.Ytdiabclcnkbglaa

namespace Go.Proofs.Ytdiabclcnkbglaa
set_option linter.unusedSimpArgs false
set_option linter.unusedVariables false
open Go.RowKit
set_option maxRecDepth 100000 in
set_option maxHeartbeats 1600000 in
theorem spec_validCells (A A' : Option Addr) (n c m c' : Nat) (gs : List Nd) (xs : List Int) (w : World) (B : Nat) (hB : B ≤ w.heap.size) (hn : n = gs.length) (hm : m = xs.length) (h : GS w B A gs) (h' : IS w B A' xs) (hs : n ≤ 2000000) (hs' : m ≤ 2000000) :
    Calls Try.prog 18 #[.agg #[.slice A n c], .slice A' m c'] w fun e w' => e = .returned (.bool (validC gs xs)) ∧ Below w.heap.size w w' := by
  by_cases hl : m = n
  · have hne : ((m : Int) != (n : Int)) = false := by simp [hl]
    have HE := Lib.hid hl
    have H := Lib.hid h
    have HI := Lib.hid h'
    have HN := Lib.hid hn
    have HM := Lib.hid hm
    clear h h' hn hm hl
    go_enter Try.func18, Try.ntmps18
    go_wp2
    go_loopw [5] (fun u wr => ∃ k : Nat, k ≤ m ∧ u = .int .i64 k ∧ Hid (∀ j, j < k → cellOK gs xs j = true) ∧ wr = w.alloc (.cells #[.slice A n c] 33)) (fun u _ => m - (intOf u).toNat)
    case atStart => exact ⟨0, by omega, rfl, by intro j hj; omega, rfl⟩
    case round =>
      obtain ⟨k, hk, rfl, HK, rfl⟩ := hrel
      by_cases hlt : k < m
      · have hkn : k < n := by have := HE.out; omega
        obtain ⟨b, off, rfl, hbB, c0, _⟩ := H.out.at_ k (by have := HN.out; omega)
        obtain ⟨b', off', rfl, hb', hc⟩ := HI.out (by have := HM.out; omega)
        have hx := hc k (by have := HM.out; omega)
        clear hc
        have hbw : b < w.heap.size := by omega
        have hbw' : b' < w.heap.size := by omega
        have hco : cellOK gs xs k = (rng (xs.getD k 0) 0 999 && ((gs.getD k default).k == 0 || xs.getD k 0 == 0)) := rfl
        have HNK := Lib.hid fun (h : cellOK gs xs k = false) => validC_bad gs xs k (by have := HN.out; omega) h
        have HNT : Hid (cellOK gs xs k = true → ∀ j, j < k + 1 → cellOK gs xs j = true) := fun h j hj => by
          rcases Nat.lt_or_ge j k with h1 | h1
          · exact HK.out j h1
          · obtain rfl : j = k := by omega
            exact h
        generalize cellOK gs xs k = r at *
        generalize gs.getD k default = d at *
        generalize xs.getD k 0 = x at *
        subst hco
        cases hr : rng x 0 999
        · go_wp2_with (go_at_call 32; refine (spec_inRange _ _ _ _).mono ?_; rintro e w' ⟨rfl, rfl⟩)
          go_ret
          exact ⟨ret_b (HNK.out (by rw [hr]; rfl)).symm, (Below.refl _ _).alloc (Nat.le_refl _) _⟩
        · cases hd : (d.k == 0)
          · have hd' : (d.k != 0) = true := by simp [bne, hd]
            cases hz : (x == 0)
            · have hz' : (x != 0) = true := by simp [bne, hz]
              go_wp2_with (go_at_call 32; refine (spec_inRange _ _ _ _).mono ?_; rintro e w' ⟨rfl, rfl⟩)
              go_ret
              exact ⟨ret_b (HNK.out (by rw [hd, hz]; simp)).symm, (Below.refl _ _).alloc (Nat.le_refl _) _⟩
            · have hz' : (x != 0) = false := by simp [bne, hz]
              have HR := Lib.hid hr
              have HD := Lib.hid hd
              have HZ := Lib.hid hz
              go_wp2_with (go_at_call 32; refine (spec_inRange _ _ _ _).mono ?_; rintro e w' ⟨rfl, rfl⟩)
              go_roundw
              case rel => exact ⟨k + 1, by omega, by go_num, HNT.out (by rw [HR.out, HD.out, HZ.out]; rfl), by first | rfl | trivial⟩
              case measure => simp [intOf]; omega
          · have hd' : (d.k != 0) = false := by simp [bne, hd]
            have HR := Lib.hid hr
            have HD := Lib.hid hd
            go_wp2_with (go_at_call 32; refine (spec_inRange _ _ _ _).mono ?_; rintro e w' ⟨rfl, rfl⟩)
            go_roundw
            case rel => exact ⟨k + 1, by omega, by go_num, HNT.out (by rw [HR.out, HD.out]; rfl), by first | rfl | trivial⟩
            case measure => simp [intOf]; omega
      · go_wp2
        go_ret
        refine ⟨ret_b ?_, (Below.refl _ _).alloc (Nat.le_refl _) _⟩
        exact (validC_fin gs xs (by have := HN.out; have := HM.out; have := HE.out; omega) fun j hj => HK.out j (by have := HN.out; have := HE.out; omega)).symm
  · have hne : ((m : Int) != (n : Int)) = true := by simp; omega
    rw [validC_len gs xs (by omega)]
    clear hl hn hm h h'
    go_enter Try.func18, Try.ntmps18
    go_wp2
    go_ret
    exact ⟨rfl, (Below.refl _ _).alloc (Nat.le_refl _) _⟩
set_option maxRecDepth 100000 in
set_option maxHeartbeats 1600000 in
theorem impl_ValidCells (A A' : Option Addr) (n c m c' : Nat) (gs : List Nd) (xs : List Int) (w : World) (B : Nat) (hB : B ≤ w.heap.size) (hn : n = gs.length) (hnc : n ≤ c) (hm : m = xs.length) (h : GS w B A gs) (h' : IS w B A' xs) (hs : GB gs) (hs' : m ≤ 2000000) :
    Calls Try.prog 21 #[.agg #[.slice A n c], .slice A' m c'] w fun e w' => e = .returned (.bool (okC gs xs)) ∧ Below w.heap.size w w' := by
  have hn1 : n ≤ 1048576 := by rw [hn]; exact hs.1
  have HVG := Lib.hid fun (w' : World) (hB : B ≤ w'.heap.size) (h : GS w' B A gs) => impl_ValidGraph A n c gs w' B hB hn h hs hnc
  have hok : okC gs xs = (validG gs && validC gs xs) := rfl
  cases hv : validG gs
  · have : okC gs xs = false := by rw [hok, hv]; rfl
    rw [this]
    rw [hv] at HVG
    have H := Lib.hid h
    clear this h h' hn hm hok hv
    go_enter Try.func21, Try.ntmps21
    go_wp2_with fail
    refine (HVG.out _ (by simp; omega) (H.out.alloc hB _)).mono ?_
    rintro e w1 ⟨rfl, hb⟩
    go_wp2
    go_ret
    exact ⟨rfl, ((Below.refl _ _).alloc (Nat.le_refl _) _).trans (hb.mono (by simp))⟩
  have : okC gs xs = validC gs xs := by rw [hok, hv]; rfl
  rw [this]
  rw [hv] at HVG
  have h10 := (validG_parts gs hv).1
  have hn10 : n ≤ 10 := by omega
  clear this hok hv h10
  by_cases hl : m = n
  · have hne : ((m : Int) != (n : Int)) = false := by simp [hl]
    have hlx : xs.length ≤ 10 := by omega
    have hdx : decide (xs.length ≤ 10) = true := by simpa using hlx
    have HAR := Lib.hid fun (w' : World) (hB : B ≤ w'.heap.size) (h : IS w' B A' xs) => impl_allInRange A' m c' xs 999 w' B hB hm h hs'
    rw [hdx] at HAR
    have H := Lib.hid h
    have HI := Lib.hid h'
    have HN := Lib.hid hn
    have HM := Lib.hid hm
    have HE := Lib.hid hl
    clear h h' hn hm hl hlx hdx
    cases ha : allR xs 0 999
    · rw [validC_range gs xs ha]
      rw [ha] at HAR
      clear ha
      go_enter Try.func21, Try.ntmps21
      go_wp2_with fail
      refine (HVG.out _ (by simp; omega) (H.out.alloc hB _)).mono ?_
      rintro e w1 ⟨rfl, hb⟩
      have q : w1.cell? ⟨w.heap.size, 0, none⟩ = some (.slice A n c) := (hb.cell (p := ⟨w.heap.size, 0, none⟩) (by simp)).trans (by go_simp)
      have HI1 := Lib.hid ((HI.out.alloc hB (.cells #[.slice A n c] 33)).below hb (by simp; omega))
      have hz : B ≤ w1.heap.size := by have := hb.size; simp at this; omega
      go_wp2_with fail
      refine (HAR.out _ hz HI1.out).mono ?_
      rintro e w2 ⟨rfl, rfl⟩
      go_wp2
      go_ret
      exact ⟨rfl, ((Below.refl _ _).alloc (Nat.le_refl _) _).trans (hb.mono (by simp))⟩
    · have HALL := Lib.hid ha
      rw [ha] at HAR
      clear ha
      go_enter Try.func21, Try.ntmps21
      go_wp2_with fail
      refine (HVG.out _ (by simp; omega) (H.out.alloc hB _)).mono ?_
      rintro e w1 ⟨rfl, hb⟩
      have q : w1.cell? ⟨w.heap.size, 0, none⟩ = some (.slice A n c) := (hb.cell (p := ⟨w.heap.size, 0, none⟩) (by simp)).trans (by go_simp)
      have HI1 := Lib.hid ((HI.out.alloc hB (.cells #[.slice A n c] 33)).below hb (by simp; omega))
      have HG1 := Lib.hid ((H.out.alloc hB (.cells #[.slice A n c] 33)).below hb (by simp; omega))
      have hz : B ≤ w1.heap.size := by have := hb.size; simp at this; omega
      have hB1 : Below w.heap.size w w1 := ((Below.refl _ _).alloc (Nat.le_refl _) _).trans (hb.mono (by simp))
      clear hb H HI
      go_wp2_with fail
      refine (HAR.out _ hz HI1.out).mono ?_
      rintro e w2 ⟨rfl, rfl⟩
      go_wp2
      go_loopw [26] (fun u wr => ∃ k : Nat, k ≤ n ∧ u = .int .i64 k ∧ Hid (∀ j, j < k → cellOK gs xs j = true) ∧ Below w1.heap.size w1 wr) (fun u _ => n - (intOf u).toNat)
      case atStart => exact ⟨0, by omega, rfl, by intro j hj; omega, Below.refl _ _⟩
      case round =>
        obtain ⟨k, hk, rfl, HK, hbr⟩ := hrel
        by_cases hlt : k < n
        · have hkm : k < m := by have := HE.out; omega
          obtain ⟨b, off, rfl, hbB, c0, A1, n1, c1, c2, _⟩ := HG1.out.at_ k (by have := HN.out; omega)
          obtain ⟨b', off', rfl, hb', hc⟩ := HI1.out (by have := HM.out; omega)
          have hx := hc k (by have := HM.out; omega)
          clear hc
          have e0 := (hbr.cell (p := ⟨b, off + k * 2, none⟩) (by simp; omega)).trans c0
          have e1 := (hbr.cell (p := ⟨b, off + k * 2 + 1, none⟩) (by simp; omega)).trans c2
          have e2 := (hbr.cell (p := ⟨b', off' + k, none⟩) (by simp; omega)).trans hx
          have hbw : b < wr.heap.size := by have := hbr.size; omega
          have hbw' : b' < wr.heap.size := by have := hbr.size; omega
          have hco : cellOK gs xs k = (rng (xs.getD k 0) 0 999 && ((gs.getD k default).k == 0 || xs.getD k 0 == 0)) := rfl
          have hrg : rng (xs.getD k 0) 0 999 = true := by
            have := HALL.out
            unfold allR at this
            rw [List.all_eq_true] at this
            exact this _ (by have := HM.out; have h2 : k < xs.length := by omega
                             simp [List.getD, h2])
          have HNK := Lib.hid fun (h : cellOK gs xs k = false) => validC_bad gs xs k (by have := HN.out; omega) h
          have HNT : Hid (cellOK gs xs k = true → ∀ j, j < k + 1 → cellOK gs xs j = true) := fun h j hj => by
            rcases Nat.lt_or_ge j k with h1 | h1
            · exact HK.out j h1
            · obtain rfl : j = k := by omega
              exact h
          generalize cellOK gs xs k = r at *
          generalize gs.getD k default = d at *
          generalize xs.getD k 0 = x at *
          subst hco
          have HR := Lib.hid hrg
          clear c0 c2 hx hrg
          cases hd : (d.k == 0)
          · have hd' : (d.k != 0) = true := by simp [bne, hd]
            have HD := Lib.hid hd
            cases hz' : (x == 0)
            · have hz2 : (x != 0) = true := by simp [bne, hz']
              have HZ := Lib.hid hz'
              go_wp2
              go_ret
              exact ⟨ret_b (HNK.out (by rw [HR.out, HD.out, HZ.out]; rfl)).symm, hB1.trans ((hbr.alloc (by have := hbr.size; omega) _).mono hB1.size)⟩
            · have hz2 : (x != 0) = false := by simp [bne, hz']
              have HZ := Lib.hid hz'
              go_wp2
              go_roundw
              case rel => exact ⟨k + 1, by omega, by go_num, HNT.out (by rw [HR.out, HD.out, HZ.out]; rfl), hbr.alloc (by have := hbr.size; omega) _⟩
              case measure => simp [intOf]; omega
          · have hd' : (d.k != 0) = false := by simp [bne, hd]
            have HD := Lib.hid hd
            go_wp2
            go_roundw
            case rel => exact ⟨k + 1, by omega, by go_num, HNT.out (by rw [HR.out, HD.out]; rfl), hbr.alloc (by have := hbr.size; omega) _⟩
            case measure => simp [intOf]; omega
        · go_wp2
          go_ret
          refine ⟨ret_b ?_, hB1.trans (hbr.mono hB1.size)⟩
          exact (validC_fin gs xs (by have := HN.out; have := HM.out; have := HE.out; omega) fun j hj => HK.out j (by have := HN.out; omega)).symm
  · have hne : ((m : Int) != (n : Int)) = true := by simp; omega
    rw [validC_len gs xs (by omega)]
    have H := Lib.hid h
    clear hl hn hm h h'
    go_enter Try.func21, Try.ntmps21
    go_wp2_with fail
    refine (HVG.out _ (by simp; omega) (H.out.alloc hB _)).mono ?_
    rintro e w1 ⟨rfl, hb⟩
    have q : w1.cell? ⟨w.heap.size, 0, none⟩ = some (.slice A n c) := (hb.cell (p := ⟨w.heap.size, 0, none⟩) (by simp)).trans (by go_simp)
    go_wp2
    go_ret
    exact ⟨rfl, ((Below.refl _ _).alloc (Nat.le_refl _) _).trans (hb.mono (by simp))⟩
end Go.Proofs.Ytdiabclcnkbglaa

namespace Go.Proofs.Ytdiabclcnkbglaa
set_option linter.unusedSimpArgs false
set_option linter.unusedVariables false
open Go.RowKit
/-- Returns a node of fresh parts. -/
def RetNd (w : World) (d : Nd) (e : Ending) (w' : World) : Prop := ∃ (A : Option Addr) (n c : Nat), e = .returned (.agg #[.int .i64 d.k, .slice A n c]) ∧ n = d.ps.length ∧ w'.ownsRow w.heap.size 72 5 (.slice A n c) n (d.ps.flatMap Pt.cells) ∧ Below w.heap.size w w'
set_option maxHeartbeats 800000 in
theorem laws_toNode (A : Option Addr) (k : Int) (n c : Nat) (ps : List Pt) (w : World) (B : Nat) (hB : B ≤ w.heap.size) (hn : n = ps.length) (h : PS w B A ps) (hs : n ≤ 2000000) :
    Calls Try.prog 34 #[.agg #[.int .i64 k, .slice A n c]] w fun e w' => RetNd w ⟨k, ps⟩ e w' := by
  have H := Lib.hid h
  have HN := Lib.hid hn
  clear hn h
  go_enter Try.func34, Try.ntmps34
  go_wp2_with fail
  refine (laws_toFormula A n c ps _ B (by simp; omega) HN.out (((H.out.alloc hB _).alloc (by simp; omega) _).alloc (by simp; omega) _) hs).mono ?_
  rintro e w1 ⟨A1, n1, c1, rfl, hn1, hown, hb⟩
  obtain ⟨hc, hf⟩ := bcell hb
  have HO := Lib.hid hown
  have HN1 := Lib.hid hn1
  clear hown hn1
  have hw1 : w.heap.size + 3 ≤ w1.heap.size := by have := hb.size; simp at this; omega
  have q1 : w1.cell? ⟨w.heap.size + 1, 0, none⟩ = some (.int .i64 0) := by rw [hc _ _ (by simp)]; go_simp
  have q2 : w1.cell? ⟨w.heap.size + 1, 1, none⟩ = some (.slice none 0 0) := by rw [hc _ _ (by simp)]; go_simp
  have q3 : w1.cell? ⟨w.heap.size + 1 + 1, 0, none⟩ = some (.int .i64 k) := by rw [hc _ _ (by simp)]; go_simp
  have q4 : w1.cell? ⟨w.heap.size + 1 + 1, 1, none⟩ = some (.slice none 0 0) := by rw [hc _ _ (by simp)]; go_simp
  have q5 : w1.frozen? ⟨w.heap.size + 1, 0, none⟩ = false := by rw [hf _ _ (by simp)]; go_simp
  have q6 : w1.frozen? ⟨w.heap.size + 1, 1, none⟩ = false := by rw [hf _ _ (by simp)]; go_simp
  have q7 : w1.frozen? ⟨w.heap.size + 1 + 1, 0, none⟩ = false := by rw [hf _ _ (by simp)]; go_simp
  have q8 : w1.frozen? ⟨w.heap.size + 1 + 1, 1, none⟩ = false := by rw [hf _ _ (by simp)]; go_simp
  clear hc hf
  go_wp2
  refine bodyPost_ret (v := .agg #[.int .i64 k, .slice A1 n1 c1]) (by simp [results, Try.results34, go_sem, q1, q2, q3, q4]) rfl ?_
  have o1 := ownsRow_setCell_below HO.out (a := ⟨w.heap.size + 1 + 1, 1, none⟩) (by simp) (.slice A1 n1 c1)
  have o2 := ownsRow_setCell_below o1 (a := ⟨w.heap.size + 1, 0, none⟩) (by simp) (.int .i64 k)
  have o3 := ownsRow_setCell_below o2 (a := ⟨w.heap.size + 1, 1, none⟩) (by simp) (.slice A1 n1 c1)
  refine ⟨A1, n1, c1, rfl, HN1.out, own_mono o3 (by simp; omega), ?_⟩
  exact (((((((Below.refl _ _).alloc (Nat.le_refl _) _).alloc (by simp) _).alloc (by simp; omega) _).trans (hb.mono (by simp; omega))).setCell (by simp; omega) _).setCell (by simp) _).setCell (by simp) _
/-- Two cells written one after the other. -/
def set2 (xs : List Value) (j : Nat) (x y : Value) : List Value := (xs.set j x).set (j + 1) y
theorem set2_get (xs : List Value) (j : Nat) (x y : Value) (h : j + 1 < xs.length) : (set2 xs j x y)[j]? = some x ∧ (set2 xs j x y)[j + 1]? = some y ∧ ∀ i, i ≠ j → i ≠ j + 1 → (set2 xs j x y)[i]? = xs[i]? := by
  unfold set2
  refine ⟨?_, ?_, fun i h1 h2 => ?_⟩
  · rw [List.getElem?_set, if_neg (by omega), List.getElem?_set, if_pos rfl, if_pos (by omega)]
  · rw [List.getElem?_set, if_pos rfl, if_pos (by simpa using h)]
  · rw [List.getElem?_set, if_neg (by omega), List.getElem?_set, if_neg (by omega)]
theorem own_set2 {w : World} {base e size n cap g : Nat} {xs : List Value} (h : w.ownsRow base e size (.slice (some ⟨g, 0, none⟩) n cap) n xs) (j : Nat) (x y : Value) :
    ((w.setCell ⟨g, j, none⟩ x).setCell ⟨g, j + 1, none⟩ y).ownsRow base e size (.slice (some ⟨g, 0, none⟩) n cap) n (set2 xs j x y) :=
  ((h.stored j x).1.stored (j + 1) y).1
theorem NdO.setCell {lo hi : Nat} {d : Nd} {x y : Value} {w : World} (h : NdO lo hi d x y w) {a : Addr} (ha : a.block < lo) (u : Value) : NdO lo hi d x y (w.setCell a u) :=
  h.keep fun k hk _ => Below.heap_setCell _ _ _ _ (by omega)
theorem info_node : (Try.prog.info? 51).map (fun i => (i.zero, i.size, i.bytes)) = some (some (.agg #[.int .i64 0, .slice none 0 0]), 2, 32) := by kernel_rfl
set_option maxRecDepth 100000 in
set_option maxHeartbeats 800000 in
theorem laws_toNodeS (A : Option Addr) (n c : Nat) (gs : List Nd) (w : World) (B : Nat) (hB : B ≤ w.heap.size) (hn : n = gs.length) (h : GS w B A gs) (hs : GB gs) :
    Calls Try.prog 20 #[.slice A n c] w fun e w' => e = .returned (.slice (some ⟨w.heap.size, 0, none⟩) n n) ∧ OwG w.heap.size w'.heap.size (.slice (some ⟨w.heap.size, 0, none⟩) n n) n gs w' ∧ Below w.heap.size w w' := by
  have hn1 : n ≤ 1048576 := by rw [hn]; exact hs.1
  obtain ⟨i0, hi, hz0, hz1, hz2⟩ := info_parts info_node
  obtain ⟨w0, hmk, hown0, hgr0⟩ := run_make_full (P := Try.prog) w w.heap.size 31 51 i0 _ 2 Try.underlying31 hi hz0 hz1 .i64 .i64 n (by rw [hz2]; omega) (by unfold maxLen; omega) (Nat.le_refl _)
  have H := Lib.hid h
  have HN := Lib.hid hn
  have HS := Lib.hid hs
  clear hn h hs
  go_enter Try.func20, Try.ntmps20
  go_wp2
  go_loopw [4] (fun i wr => ∃ (k : Nat) (xs : List Value), k ≤ n ∧ i = .int .i64 k ∧ Hid (wr.ownsRow w.heap.size 51 2 (.slice (some ⟨w.heap.size, 0, none⟩) n n) n xs) ∧ Hid (∀ j, j < k → ∃ x y, xs[j * 2]? = some x ∧ xs[j * 2 + 1]? = some y ∧ NdO (w.heap.size + 1) wr.heap.size (gs.getD j default) x y wr) ∧ Below w.heap.size w wr ∧ w.heap.size < wr.heap.size) (fun i _ => n - (intOf i).toNat)
  case atStart => exact ⟨0, _, Nat.zero_le _, rfl, hown0, by intro j hj; omega, ⟨hgr0.os, hgr0.tape, hgr0.output, hgr0.size, fun k hk => hgr0.block k hk (by simp)⟩, (hown0.lt _ rfl).2⟩
  case round =>
    obtain ⟨k, xs, hk, rfl, HO, HT, hb, hsz⟩ := hrel
    by_cases hlt : k < n
    · obtain ⟨b, off, rfl, hbB, hc⟩ := H.out (by have := HN.out; omega)
      obtain ⟨c0, A1, n1, c1, c2, hn1', hps⟩ := hc k (by have := HN.out; omega)
      have hnb := HS.out.2 k
      clear hc H
      have b0 := (hb.cell (p := ⟨b, off + k * 2, none⟩) (by simp; omega)).trans c0
      have b1 := (hb.cell (p := ⟨b, off + k * 2 + 1, none⟩) (by simp; omega)).trans c2
      have HPS := Lib.hid (hps.below hb hB)
      clear c0 c2 hps
      generalize hp : gs.getD k default = d at *
      have HP := Lib.hid hp
      have HN1 := Lib.hid hn1'
      have hn1b : n1 ≤ 2000000 := by omega
      clear hp hn1'
      go_wp2_with fail
      refine (laws_toNode A1 d.k n1 c1 d.ps _ B (by omega) HN1.out HPS.out hn1b).mono ?_
      rintro e w1 ⟨A2, n2, c2, rfl, hn2, hown2, hb1⟩
      have hO1 := own_below HO.out hb1
      have hxl : xs.length = n * 2 := hO1.1
      have u0 := hO1.cellAt (k * 2) (by omega)
      have u1 := hO1.cellAt (k * 2 + 1) (by omega)
      rw [List.getElem?_eq_getElem (by omega)] at u0 u1
      have f0 := hO1.frozenAt (k * 2)
      have f1 := hO1.frozenAt (k * 2 + 1)
      generalize xs[k * 2]'(by omega) = v0 at u0
      generalize xs[k * 2 + 1]'(by omega) = v1 at u1
      have HO1 := Lib.hid hO1
      have HXL := Lib.hid hxl
      have HOW2 := Lib.hid hown2
      have HN2 := Lib.hid hn2
      clear hO1 hxl HO hown2 hn2
      go_wp2
      go_roundw
      case rel =>
        obtain ⟨s0, s1, s2⟩ := set2_get xs (k * 2) (.int .i64 d.k) (.slice A2 n2 c2) (by have := HXL.out; omega)
        refine ⟨k + 1, _, by omega, by go_num, own_set2 HO1.out (k * 2) _ _, ?_, ((hb.trans (hb1.mono hb.size)).setCell (Nat.le_refl _) _).setCell (Nat.le_refl _) _, by have := hb1.size; simp [World.setCell]; omega⟩
        intro j hj
        have hnew : NdO (w.heap.size + 1) w1.heap.size d (.int .i64 d.k) (.slice A2 n2 c2) w1 := ⟨rfl, A2, n2, c2, rfl, HN2.out, own_mono HOW2.out (by omega), fun k' hk' => (HOW2.out.lt k' hk').2⟩
        rcases Nat.lt_or_ge j k with h1 | h1
        · obtain ⟨x, y, hx, hy, hd⟩ := HT.out j h1
          refine ⟨x, y, by rw [s2 _ (by omega) (by omega)]; exact hx, by rw [s2 _ (by omega) (by omega)]; exact hy, ?_⟩
          have := ((hd.keep fun q _ hq => hb1.block q hq).mono (Nat.le_refl _) hb1.size : NdO (w.heap.size + 1) w1.heap.size _ x y w1)
          simpa [World.setCell] using (this.setCell (a := ⟨w.heap.size, k * 2, none⟩) (by simp) (.int .i64 d.k)).setCell (a := ⟨w.heap.size, k * 2 + 1, none⟩) (by simp) (.slice A2 n2 c2)
        · obtain rfl : j = k := by omega
          refine ⟨_, _, s0, s1, ?_⟩
          rw [HP.out]
          simpa [World.setCell] using (hnew.setCell (a := ⟨w.heap.size, j * 2, none⟩) (by simp) (.int .i64 d.k)).setCell (a := ⟨w.heap.size, j * 2 + 1, none⟩) (by simp) (.slice A2 n2 c2)
      case measure => simp [intOf]; omega
    · go_wp2
      go_ret
      have hkn : k = n := by omega
      subst hkn
      refine ⟨by simp, ⟨HN.out, xs, OwR.start HO.out, fun j hj => ?_⟩, hb⟩
      obtain ⟨x, y, hx, hy, hd⟩ := HT.out j hj
      exact ⟨x, y, hx, hy, hd.mono (by omega) (Nat.le_refl _)⟩
/-- Returns a graph of fresh nodes. -/
def RetGr (w : World) (gs : List Nd) (e : Ending) (w' : World) : Prop := ∃ (A : Option Addr) (n c : Nat), e = .returned (.agg #[.slice A n c]) ∧ n = gs.length ∧ OwG w.heap.size w'.heap.size (.slice A n c) n gs w' ∧ Below w.heap.size w w'
theorem OwG.setCell {lo hi n : Nat} {v : Value} {gs : List Nd} {w : World} (h : OwG lo hi v n gs w) {a : Addr} (ha : a.block < lo) (u : Value) : OwG lo hi v n gs (w.setCell a u) :=
  OwG.loc _ _ _ _ _ _ _ h fun k hk _ => Below.heap_setCell _ _ _ _ (by omega)
set_option maxHeartbeats 800000 in
theorem laws_toGraph (A : Option Addr) (n c : Nat) (gs : List Nd) (w : World) (B : Nat) (hB : B ≤ w.heap.size) (hn : n = gs.length) (h : GS w B A gs) (hs : GB gs) :
    Calls Try.prog 6 #[.agg #[.slice A n c]] w fun e w' => RetGr w gs e w' := by
  have H := Lib.hid h
  have HN := Lib.hid hn
  have HS := Lib.hid hs
  clear hn h hs
  go_enter Try.func6, Try.ntmps6
  go_wp2_with fail
  refine (laws_toNodeS _ _ _ gs _ B (by simp; omega) HN.out (((H.out.alloc hB _).alloc (by simp; omega) _).alloc (by simp; omega) _) HS.out).mono ?_
  rintro e w1 ⟨rfl, hown, hb⟩
  obtain ⟨hc, hf⟩ := bcell hb
  have HO := Lib.hid hown
  clear hown
  have hw1 : w.heap.size + 3 ≤ w1.heap.size := by have := hb.size; simp at this; omega
  have q1 : w1.cell? ⟨w.heap.size + 1, 0, none⟩ = some (.slice none 0 0) := by rw [hc _ _ (by simp)]; go_simp
  have q2 : w1.cell? ⟨w.heap.size + 1 + 1, 0, none⟩ = some (.slice none 0 0) := by rw [hc _ _ (by simp)]; go_simp
  have q3 : w1.frozen? ⟨w.heap.size + 1, 0, none⟩ = false := by rw [hf _ _ (by simp)]; go_simp
  have q4 : w1.frozen? ⟨w.heap.size + 1 + 1, 0, none⟩ = false := by rw [hf _ _ (by simp)]; go_simp
  clear hc hf
  go_wp2
  refine bodyPost_ret (v := .agg #[.slice (some ⟨w.heap.size + 1 + 1 + 1, 0, none⟩) n n]) (by simp [results, Try.results6, go_sem, q1]) rfl ?_
  have o1 := HO.out.setCell (a := ⟨w.heap.size + 1 + 1, 0, none⟩) (by simp) (.slice (some ⟨w.heap.size + 1 + 1 + 1, 0, none⟩) n n)
  have o2 := o1.setCell (a := ⟨w.heap.size + 1, 0, none⟩) (by simp) (.slice (some ⟨w.heap.size + 1 + 1 + 1, 0, none⟩) n n)
  have o3 := o2.mono (lo' := w.heap.size) (hi' := w1.heap.size) (by simp; omega) (Nat.le_refl _)
  simp only [World.size_alloc] at o3
  refine ⟨_, n, n, rfl, HN.out, by simpa [World.setCell] using o3, ?_⟩
  exact ((((((Below.refl _ _).alloc (Nat.le_refl _) _).alloc (by simp) _).alloc (by simp; omega) _).trans (hb.mono (by simp; omega))).setCell (by simp; omega) _).setCell (by simp) _
end Go.Proofs.Ytdiabclcnkbglaa

namespace Go.Proofs.Ytdiabclcnkbglaa
set_option linter.unusedSimpArgs false
set_option linter.unusedVariables false
open Go.RowKit
set_option maxHeartbeats 800000 in
theorem laws_szNode (A : Option Addr) (k : Int) (n c : Nat) (l : Int) (w : World) (hl0 : 0 ≤ l) (hl : l ≤ 2000000) (hn : n ≤ 9223372036854775807) :
    Calls Try.prog 29 #[.agg #[.int .i64 k, .slice A n c], .int .i64 l] w fun e w' => e = .returned (.int .i64 (if l - n < 0 then -1 else l - n)) ∧ Below w.heap.size w w' := by
  have HS := laws_szFormula A n c l
  by_cases h : l - n < 0
  · rw [if_pos h]
    have HC : ∀ w : World, Calls Try.prog 39 #[.agg #[.slice A n c], .int .i64 l] w fun e w' => e = .returned (.int .i64 (-1)) ∧ Below w.heap.size w w' := fun w => by
      have := HS w hl0 hl hn
      rwa [if_pos h] at this
    have HH := Lib.hid HC
    clear HC HS
    go_enter Try.func29, Try.ntmps29
    go_wp2_with fail
    refine (HH.out _).mono ?_
    rintro e w' ⟨rfl, hb⟩
    go_wp2
    go_ret
    exact ⟨rfl, ((Below.refl _ _).alloc (Nat.le_refl _) _).trans (hb.mono (by simp))⟩
  · rw [if_neg h]
    have HC : ∀ w : World, Calls Try.prog 39 #[.agg #[.slice A n c], .int .i64 l] w fun e w' => e = .returned (.int .i64 (l - n)) ∧ Below w.heap.size w w' := fun w => by
      have := HS w hl0 hl hn
      rwa [if_neg h] at this
    have HH := Lib.hid HC
    clear HC HS
    go_enter Try.func29, Try.ntmps29
    go_wp2_with fail
    refine (HH.out _).mono ?_
    rintro e w' ⟨rfl, hb⟩
    go_wp2
    go_ret
    exact ⟨rfl, ((Below.refl _ _).alloc (Nat.le_refl _) _).trans (hb.mono (by simp))⟩
/-- What is left of a size. -/
def leftOf (l : Int) (s : Nat) : Int := if (s : Int) ≤ l then l - s else -1
set_option maxRecDepth 100000 in
set_option maxHeartbeats 800000 in
theorem laws_szNodeS (A : Option Addr) (n c : Nat) (gs : List Nd) (l : Int) (w : World) (B : Nat) (hB : B ≤ w.heap.size) (hn : n = gs.length) (h : GS w B A gs) (hl0 : 0 ≤ l) (hl : l ≤ 2000000) (hm : n ≤ 9223372036854775807) (hm' : ∀ j, (gs.getD j default).ps.length ≤ 9223372036854775807) :
    Calls Try.prog 16 #[.slice A n c, .int .i64 l] w fun e w' => e = .returned (.int .i64 (leftOf l (gsz gs))) ∧ Below w.heap.size w w' := by
  by_cases hln : l - n < 0
  · have e : leftOf l (gsz gs) = -1 := by unfold leftOf; rw [if_neg (by unfold gsz; omega)]
    rw [e]
    clear e h hn hm'
    go_enter Try.func16, Try.ntmps16
    go_wp2
    go_ret
    exact ⟨rfl, Below.refl _ _⟩
  have H := Lib.hid h
  have HN := Lib.hid hn
  have HM := Lib.hid hm'
  clear hn h hm'
  go_enter Try.func16, Try.ntmps16
  go_wp2
  go_loopw [5, 1] (fun i u wr => ∃ (k : Nat) (q : Int), k ≤ n ∧ i = .int .i64 k ∧ u = .int .i64 q ∧ 0 ≤ q ∧ q ≤ 2000000 ∧ Hid (q = l - n - (((gs.take k).map fun d => d.ps.length).sum : Nat)) ∧ Below w.heap.size w wr) (fun i _ _ => n - (intOf i).toNat)
  case atStart => exact ⟨0, l - n, Nat.zero_le _, rfl, rfl, by omega, by omega, by simp [Hid], Below.refl _ _⟩
  case round =>
    obtain ⟨k, q, hk, rfl, rfl, hq0, hq, HQ, hb⟩ := hrel
    by_cases hlt : k < n
    · obtain ⟨b, off, rfl, hbB, hc⟩ := H.out (by have := HN.out; omega)
      obtain ⟨c0, A1, n1, c1, c2, hn1', hps⟩ := hc k (by have := HN.out; omega)
      have hnb := HM.out k
      clear hc H hps
      have b0 := (hb.cell (p := ⟨b, off + k * 2, none⟩) (by simp; omega)).trans c0
      have b1 := (hb.cell (p := ⟨b, off + k * 2 + 1, none⟩) (by simp; omega)).trans c2
      clear c0 c2
      have hst := sum_take_succ gs k (by have := HN.out; omega)
      have htl := sum_take_le gs (k + 1)
      generalize gs.getD k default = d at *
      have hnb1 : n1 ≤ 9223372036854775807 := by omega
      have HST := Lib.hid hst
      have HTL := Lib.hid htl
      have HN1 := Lib.hid hn1'
      clear hst htl hn1' hnb
      by_cases h1 : q - n1 < 0
      · have HC : ∀ w : World, Calls Try.prog 29 #[.agg #[.int .i64 d.k, .slice A1 n1 c1], .int .i64 q] w fun e w' => e = .returned (.int .i64 (-1)) ∧ Below w.heap.size w w' := fun w => by
          have := laws_szNode A1 d.k n1 c1 q w hq0 hq hnb1
          rwa [if_pos h1] at this
        have HH := Lib.hid HC
        clear HC
        go_wp2_with fail
        refine (HH.out _).mono ?_
        rintro e w' ⟨rfl, hb1⟩
        go_wp2
        go_ret
        refine ⟨ret_i ?_, hb.trans (hb1.mono hb.size)⟩
        unfold leftOf
        rw [if_neg]
        have a1 := HST.out; have a2 := HTL.out; have a3 := HN1.out; have a4 := HQ.out; have a5 := HN.out
        unfold gsz
        omega
      · have HC : ∀ w : World, Calls Try.prog 29 #[.agg #[.int .i64 d.k, .slice A1 n1 c1], .int .i64 q] w fun e w' => e = .returned (.int .i64 (q - n1)) ∧ Below w.heap.size w w' := fun w => by
          have := laws_szNode A1 d.k n1 c1 q w hq0 hq hnb1
          rwa [if_neg h1] at this
        have HH := Lib.hid HC
        clear HC
        go_wp2_with fail
        refine (HH.out _).mono ?_
        rintro e w' ⟨rfl, hb1⟩
        go_wp2
        go_roundw
        case rel => exact ⟨k + 1, q - n1, by omega, by go_num, rfl, by omega, by omega, by have a1 := HST.out; have a3 := HN1.out; have a4 := HQ.out; show q - n1 = _; omega, hb.trans (hb1.mono hb.size)⟩
        case measure => simp [intOf]; omega
    · obtain rfl : k = n := by omega
      go_wp2
      go_ret
      refine ⟨ret_i ?_, hb⟩
      have a4 := HQ.out
      have a5 := HN.out
      rw [a5, List.take_of_length_le (Nat.le_refl _)] at a4
      unfold leftOf
      rw [if_pos (by unfold gsz; omega), a4]
      unfold gsz
      omega
set_option maxHeartbeats 800000 in
theorem laws_szGraph (A : Option Addr) (n c : Nat) (gs : List Nd) (l : Int) (w : World) (B : Nat) (hB : B ≤ w.heap.size) (hn : n = gs.length) (h : GS w B A gs) (hl0 : 0 ≤ l) (hl : l ≤ 2000000) (hm : n ≤ 9223372036854775807) (hm' : ∀ j, (gs.getD j default).ps.length ≤ 9223372036854775807) :
    Calls Try.prog 4 #[.agg #[.slice A n c], .int .i64 l] w fun e w' => e = .returned (.int .i64 (leftOf l (gsz gs))) ∧ Below w.heap.size w w' := by
  have H := Lib.hid h
  have HC := Lib.hid fun (w : World) (hB : B ≤ w.heap.size) (h : GS w B A gs) => laws_szNodeS A n c gs l w B hB hn h hl0 hl hm hm'
  have hL : leftOf l (gsz gs) = -1 ∨ 0 ≤ leftOf l (gsz gs) := by unfold leftOf; split <;> omega
  generalize leftOf l (gsz gs) = L at *
  clear h hn hm'
  rcases hL with rfl | hL
  all_goals
    go_enter Try.func4, Try.ntmps4
    go_wp2_with fail
    refine (HC.out _ (by simp; omega) (H.out.alloc hB _)).mono ?_
    rintro e w' ⟨rfl, hb⟩
    go_wp2
    go_ret
    exact ⟨rfl, ((Below.refl _ _).alloc (Nat.le_refl _) _).trans (hb.mono (by simp))⟩
def eqNd (d e : Nd) : Bool := decide (d = e)
theorem eqNd_iff (d e : Nd) : eqNd d e = true ↔ d = e := by simp [eqNd]
set_option maxHeartbeats 800000 in
theorem laws_eqNode (A A' : Option Addr) (k k' : Int) (n n' c c' : Nat) (ps qs : List Pt) (w : World) (B : Nat) (hB : B ≤ w.heap.size) (hn : n = ps.length) (hn' : n' = qs.length) (h : PS w B A ps) (h' : PS w B A' qs) (hs : n ≤ 2000000) (hs' : n' ≤ 2000000) :
    Calls Try.prog 37 #[.agg #[.int .i64 k, .slice A n c], .agg #[.int .i64 k', .slice A' n' c']] w fun e w' => e = .returned (.bool (eqNd ⟨k, ps⟩ ⟨k', qs⟩)) ∧ Below w.heap.size w w' := by
  have hd : eqNd ⟨k, ps⟩ ⟨k', qs⟩ = (!(k != k') && decide (ps = qs)) := by
    simp only [eqNd, Nd.mk.injEq]
    by_cases h1 : k = k' <;> by_cases h2 : ps = qs <;> simp [h1, h2]
  rw [hd]
  have H := Lib.hid h
  have H' := Lib.hid h'
  have HN := Lib.hid hn
  have HN' := Lib.hid hn'
  clear hn hn' h h' hd
  cases hk : (k != k')
  · go_enter Try.func37, Try.ntmps37
    go_wp2_with fail
    refine (laws_eqFormula _ _ _ _ _ _ ps qs _ B (by simp; omega) HN.out HN'.out ((H.out.alloc hB _).alloc (by simp; omega) _) ((H'.out.alloc hB _).alloc (by simp; omega) _) hs hs').mono ?_
    rintro e w1 ⟨rfl, hb⟩
    go_wp2
    all_goals
      go_ret
      exact ⟨ret_b (by simp_all), ((Below.refl _ _).alloc (Nat.le_refl _) _).alloc (by simp) _ |>.trans (hb.mono (by simp; omega))⟩
  · go_enter Try.func37, Try.ntmps37
    go_wp2
    go_ret
    exact ⟨rfl, ((Below.refl _ _).alloc (Nat.le_refl _) _).alloc (by simp) _⟩
set_option maxRecDepth 100000 in
set_option maxHeartbeats 1600000 in
theorem laws_eqNodeS (A A' : Option Addr) (n n' c c' : Nat) (gs hs : List Nd) (w : World) (B : Nat) (hB : B ≤ w.heap.size) (hn : n = gs.length) (hn' : n' = hs.length) (h : GS w B A gs) (h' : GS w B A' hs) (hb1 : GB gs) (hb2 : GB hs) :
    Calls Try.prog 24 #[.slice A n c, .slice A' n' c'] w fun e w' => e = .returned (.bool (decide (gs = hs))) ∧ Below w.heap.size w w' := by
  have hm1 : n ≤ 1048576 := by rw [hn]; exact hb1.1
  have hm2 : n' ≤ 1048576 := by rw [hn']; exact hb2.1
  by_cases hl : n = n'
  · have hne : ((n : Int) != (n' : Int)) = false := by simp [hl]
    have HL := Lib.hid hl
    have HN := Lib.hid hn
    have HN' := Lib.hid hn'
    have H := Lib.hid h
    have H' := Lib.hid h'
    have HB1 := Lib.hid hb1
    have HB2 := Lib.hid hb2
    clear hl hn hn' h h' hb1 hb2
    go_enter Try.func24, Try.ntmps24
    go_wp2
    go_loopw [5] (fun i wr => ∃ k : Nat, k ≤ n ∧ i = .int .i64 k ∧ Hid (gs.take k = hs.take k) ∧ Below w.heap.size w wr) (fun i _ => n - (intOf i).toNat)
    case atStart => exact ⟨0, Nat.zero_le _, rfl, by simp [Hid], Below.refl _ _⟩
    case round =>
      obtain ⟨k, hk, rfl, HT, hb⟩ := hrel
      by_cases hlt : k < n
      · obtain ⟨b, off, rfl, hbB, hc⟩ := H.out (by have := HN.out; omega)
        obtain ⟨b', off', rfl, hbB', hc'⟩ := H'.out (by have := HN'.out; have := HL.out; omega)
        obtain ⟨c0, A1, n1, c1, c2, hn1', hps⟩ := hc k (by have := HN.out; omega)
        obtain ⟨d0, A2, n2, d1, d2, hn2', hqs⟩ := hc' k (by have := HN'.out; have := HL.out; omega)
        have hx1 := HB1.out.2 k
        have hx2 := HB2.out.2 k
        clear hc hc' H H'
        have hlt' : k < n' := by have := HL.out; omega
        have b0 := (hb.cell (p := ⟨b, off + k * 2, none⟩) (by simp; omega)).trans c0
        have b1 := (hb.cell (p := ⟨b, off + k * 2 + 1, none⟩) (by simp; omega)).trans c2
        have e0 := (hb.cell (p := ⟨b', off' + k * 2, none⟩) (by simp; omega)).trans d0
        have e1 := (hb.cell (p := ⟨b', off' + k * 2 + 1, none⟩) (by simp; omega)).trans d2
        have HPS := Lib.hid (hps.below hb hB)
        have HQS := Lib.hid (hqs.below hb hB)
        clear c0 c2 d0 d2 hps hqs
        generalize hp : gs.getD k default = p at *
        generalize hq : hs.getD k default = q at *
        have HP := Lib.hid hp
        have HQ := Lib.hid hq
        have HN1 := Lib.hid hn1'
        have HN2 := Lib.hid hn2'
        have hy1 : n1 ≤ 2000000 := by omega
        have hy2 : n2 ≤ 2000000 := by omega
        clear hp hq hn1' hn2' hx1 hx2
        go_wp2
        go_still_tail 8, (by kernel_rfl)
        go_wp2_with (go_at_call 37; refine (laws_eqNode _ _ _ _ _ _ _ _ p.ps q.ps wr.drew B (Nat.le_trans hB hb.size) HN1.out HN2.out HPS.out HQS.out hy1 hy2).mono ?_; rintro e w1 ⟨rfl, hb1⟩)
        · have ht : (!eqNd p q) = true := by assumption
          go_ret
          refine ⟨ret_b ?_, hb.drew.trans (hb1.mono hb.size)⟩
          have hne : gs.getD k default ≠ hs.getD k default := by
            rw [HP.out, HQ.out]; intro e; rw [(eqNd_iff p q).2 e] at ht; cases ht
          simp [getD_ne gs hs k hne]
        · have ht : (!eqNd p q) = false := by assumption
          have he : gs.getD k default = hs.getD k default := by
            rw [HP.out, HQ.out]; exact (eqNd_iff p q).1 (by simpa using ht)
          have hts := take_step gs hs k (by have := HN.out; omega) (by have := HN'.out; omega) HT.out he
          clear he
          go_roundw
          case rel => exact ⟨k + 1, by omega, by go_num, hts, hb.drew.trans (hb1.mono hb.size)⟩
          case measure => simp [intOf]; omega
      · go_wp2
        go_ret
        refine ⟨ret_b ?_, hb⟩
        have hkn : k = n := by omega
        have := take_all_eq gs hs n HN.out (HL.out.trans HN'.out) (by rw [← hkn]; exact HT.out)
        simp [this]
  · have hne : ((n : Int) != (n' : Int)) = true := by simp; omega
    have hf : decide (gs = hs) = false := by
      rw [decide_eq_false_iff_not]; rintro rfl; omega
    rw [hf]
    clear hl hn hn' h h' hf hb1 hb2
    go_enter Try.func24, Try.ntmps24
    go_wp2
    go_ret
    exact ⟨rfl, Below.refl _ _⟩
set_option maxHeartbeats 400000 in
theorem laws_eqGraph (A A' : Option Addr) (n n' c c' : Nat) (gs hs : List Nd) (w : World) (B : Nat) (hB : B ≤ w.heap.size) (hn : n = gs.length) (hn' : n' = hs.length) (h : GS w B A gs) (h' : GS w B A' hs) (hb1 : GB gs) (hb2 : GB hs) :
    Calls Try.prog 10 #[.agg #[.slice A n c], .agg #[.slice A' n' c']] w fun e w' => e = .returned (.bool (decide (gs = hs))) ∧ Below w.heap.size w w' := by
  have H := Lib.hid h
  have H' := Lib.hid h'
  have HN := Lib.hid hn
  have HN' := Lib.hid hn'
  have HB1 := Lib.hid hb1
  have HB2 := Lib.hid hb2
  clear hn hn' h h' hb1 hb2
  go_enter Try.func10, Try.ntmps10
  go_wp2_with fail
  refine (laws_eqNodeS _ _ _ _ _ _ gs hs _ B (by simp; omega) HN.out HN'.out ((H.out.alloc hB _).alloc (by simp; omega) _) ((H'.out.alloc hB _).alloc (by simp; omega) _) HB1.out HB2.out).mono ?_
  rintro e w1 ⟨rfl, hb⟩
  go_wp2
  all_goals
    go_ret
    exact ⟨ret_b (by simp_all), ((Below.refl _ _).alloc (Nat.le_refl _) _).alloc (by simp) _ |>.trans (hb.mono (by simp; omega))⟩
end Go.Proofs.Ytdiabclcnkbglaa

namespace Go.Proofs.Ytdiabclcnkbglaa
set_option linter.unusedSimpArgs false
set_option linter.unusedVariables false
open Go.RowKit
/-- What a mark leaves, where the marks do not matter. -/
def MkW (lo hi : Nat) (w : World) (k top : Int) (e : Ending) (w' : World) : Prop := ∃ k' : Int, e = .returned (.int .i64 k') ∧ k ≤ k' ∧ k' ≤ top ∧ Tch lo hi w w'
set_option maxRecDepth 100000 in
set_option maxHeartbeats 1600000 in
theorem laws_markNodeS (lo hi n : Nat) (v : Value) (k : Int) (w : World) (h : WkG lo hi v n w) (hs : n ≤ 1048576) (hk : 0 ≤ k) (hk' : k ≤ 562949953421312) (hhi : hi ≤ w.heap.size) :
    Calls Try.prog 25 #[v, .int .i64 k] w fun e w' => MkW lo hi w k (k + n * 5242881) e w' := by
  obtain ⟨A, c, rfl⟩ := own_form h.choose_spec.1.1
  have hch := h.choose_spec.1
  generalize h.choose = xs0 at hch
  rcases hch.1.2 with ⟨hv, rfl⟩ | ⟨g, cap, _, hv, hbg, hgh, hrest⟩
  · clear h hv hch
    go_enter Try.func25, Try.ntmps25
    go_wp2
    go_loopw [5, 1] (fun i u wr => i = .int .i64 0 ∧ u = .int .i64 k ∧ wr = w) (fun i _ _ => 0)
    case atStart => exact ⟨rfl, rfl, rfl⟩
    case round =>
      obtain ⟨rfl, rfl, rfl⟩ := hrel
      go_wp2
      go_ret
      exact ⟨k, rfl, Int.le_refl _, by simp, Tch.refl _ _ _⟩
  · cases hv
    have hgi : lo ≤ g ∧ g < hi := ⟨hbg, hch.2 g rfl⟩
    have HW := Lib.hid h
    clear h hgh hch hrest
    go_enter Try.func25, Try.ntmps25
    go_wp2
    go_loopw [5, 1] (fun i u wr => ∃ (j : Nat) (q : Int), j ≤ n ∧ i = .int .i64 j ∧ u = .int .i64 q ∧ k ≤ q ∧ q ≤ k + j * 5242881 ∧ Hid (WkG lo hi (.slice (some ⟨g, 0, none⟩) n c) n wr) ∧ Hid (Tch lo hi w wr)) (fun i _ _ => n - (intOf i).toNat)
    case atStart => exact ⟨0, k, by omega, rfl, rfl, by omega, by simp, HW.out, Tch.refl _ _ _⟩
    case round =>
      obtain ⟨j, q, hj, rfl, rfl, hq0, hq1, HY, HT⟩ := hrel
      by_cases hlt : j < n
      · have hq2 : q ≤ 568447512150016 := by omega
        have hq00 : 0 ≤ q := by omega
        have HY2 := Lib.hid (HY.out.kind j hlt q)
        obtain ⟨xs, ho, hx⟩ := HY.out
        obtain ⟨q', A1, m1, c1, hx0, hx1, hm1, ys, hr⟩ := hx j hlt
        have u0 := (ho.1.cellAt (j * 2) (by omega)).trans hx0
        have u1 := (ho.1.cellAt (j * 2 + 1) (by omega)).trans hx1
        have f0 := ho.1.frozenAt (j * 2)
        have hb : Tch lo hi wr (wr.setCell ⟨g, j * 2, none⟩ (.int .i64 q)) := Tch.of_grown (ho.1.stored (j * 2) (.int .i64 q)).2 fun k hk => by simp at hk; omega
        have HR : Hid (OwR lo hi 72 5 (.slice A1 m1 c1) m1 ys (wr.setCell ⟨g, j * 2, none⟩ (.int .i64 q))) := ⟨hr.1.kept (ho.1.stored (j * 2) (.int .i64 q)).2 (blocks_ne hr.1 ho.1 node_ne_part.symm), hr.2⟩
        have HB := Lib.hid hb
        clear hx ho hr hb hx0 hx1 HY
        go_wp2_with fail
        refine (laws_markPartS lo m1 _ ys (q + 1) _ HR.out.1 (by omega) (by omega) (by omega)).mono ?_
        rintro e w1 hm
        have he := hm.1
        have HY3 := Lib.hid (HY2.out.marked ⟨ys, HR.out.1⟩ hm)
        have HT3 : Hid (Tch lo hi w w1) := (HT.out.trans HB.out).trans (Tch.of_grown hm.2.2 fun k hk => ⟨(HR.out.1.lt k hk).1, HR.out.2 k hk⟩)
        obtain ⟨q3, hq3⟩ : ∃ q3 : Int, q3 = q + 1 + ((m1 * 5 : Nat) : Int) := ⟨_, rfl⟩
        rw [← hq3] at he
        have hq4 : k ≤ q3 := by omega
        have hq5 : q3 ≤ k + (j + 1) * 5242881 := by omega
        subst he
        clear hm hq3 HY2 HR HB HT
        go_wp2
        go_roundw
        case rel => exact ⟨j + 1, q3, by omega, by go_num, rfl, hq4, by simpa using hq5, HY3.out, HT3.out⟩
        case measure => simp [intOf]; omega
      · obtain rfl : j = n := by omega
        go_wp2
        go_ret
        exact ⟨q, rfl, hq0, by simpa using hq1, HT.out⟩
set_option maxHeartbeats 800000 in
theorem laws_markGraph (lo hi n c : Nat) (A : Option Addr) (k : Int) (w : World) (h : WkG lo hi (.slice A n c) n w) (hs : n ≤ 1048576) (hk : 0 ≤ k) (hk' : k ≤ 562949953421312) (hhi : hi ≤ w.heap.size) :
    Calls Try.prog 12 #[.agg #[.slice A n c], .int .i64 k] w fun e w' => MkW lo hi w k (k + n * 5242881) e w' := by
  have H := Lib.hid h
  clear h
  go_enter Try.func12, Try.ntmps12
  go_wp2_with fail
  refine (laws_markNodeS lo hi n _ k _ (H.out.step ((Below.refl _ _).alloc (Nat.le_refl _) _) hhi) hs hk hk' (by simp; omega)).mono ?_
  rintro e w1 ⟨k1, rfl, hk1, hk2, ht⟩
  go_wp2
  go_ret
  exact ⟨k1, rfl, hk1, hk2, (Tch.of_below ((Below.refl _ _).alloc (Nat.le_refl _) _)).trans ht⟩
end Go.Proofs.Ytdiabclcnkbglaa

namespace Go.Proofs.Ytdiabclcnkbglaa
set_option linter.unusedSimpArgs false
set_option linter.unusedVariables false
open Go.RowKit
/-- Of what was there when the law began nothing has turned. -/
def Bl (W wk : World) : Prop := Below W.heap.size W wk
theorem Bl.step {W wk wl : World} (h : Bl W wk) (hb : Below wk.heap.size wk wl) : Bl W wl := Below.trans h (hb.mono (Below.size h))
theorem Bl.alloc {W wk : World} (h : Bl W wk) (o : Obj) : Bl W (wk.alloc o) := h.step ((Below.refl _ _).alloc (Nat.le_refl _) o)
theorem Bl.turn {a b : Nat} {W wk wl : World} (h : Bl W wk) (ht : Tch a b wk wl) (ha : W.heap.size ≤ a) : Bl W wl := Below.trans h (ht.below ha (Below.size h))
theorem Bl.refl (W : World) : Bl W W := Below.refl _ _
theorem Bl.le {W wk : World} (h : Bl W wk) : W.heap.size ≤ wk.heap.size := Below.size h
theorem OwG.ncap {lo hi n c : Nat} {A : Option Addr} {gs : List Nd} {w : World} (h : OwG lo hi (.slice A n c) n gs w) : n ≤ c := by
  obtain ⟨_, xs, h1, _⟩ := h
  rcases h1.1.2 with ⟨hv, hz⟩ | ⟨g, cap, cur, hv, _, _, h2, _⟩
  · omega
  · simp only [Value.slice.injEq] at hv
    obtain ⟨_, _, rfl⟩ := hv
    exact h2
/-- A graph of the call's own, in blocks lo to hi - 1. -/
theorem graph_start {lo n c : Nat} {A : Option Addr} {gs : List Nd} {w : World} (h : OwG lo w.heap.size (.slice A n c) n gs w) : As lo w.heap.size (OwG lo w.heap.size (.slice A n c) n gs) w := ⟨h, Nat.le_refl _, OwG.loc _ _ _ _ _⟩
theorem As.graph {lo hi n c : Nat} {A : Option Addr} {gs : List Nd} {w : World} (h : As lo hi (OwG lo hi (.slice A n c) n gs) w) : GS w w.heap.size A gs := h.it.nodes.more h.le
/-- A row of numbers of the call's own, in blocks lo to hi - 1. -/
theorem row_start {lo size n : Nat} {e : TypeId} {v : Value} {xs : List Value} {w : World} (h : w.ownsRow lo e size v n xs) : As lo w.heap.size (OwR lo w.heap.size e size v n xs) w := ⟨OwR.start h, Nat.le_refl _, OwR.loc _ _ _ _ _ _ _⟩
theorem As.ints {lo hi n c : Nat} {A : Option Addr} {xs : List Int} {w : World} (h : As lo hi (OwR lo hi 3 1 (.slice A n c) n (xs.map (Value.int .i64))) w) : IS w w.heap.size A xs := h.it.ints.more h.le
theorem As.parts {lo hi n c : Nat} {A : Option Addr} {ps : List Pt} {w : World} (h : As lo hi (OwR lo hi 72 5 (.slice A n c) n (ps.flatMap Pt.cells)) w) : PS w w.heap.size A ps := h.it.parts.more h.le
/-- What a mark of an answer leaves. -/
def MkS (lo hi : Nat) (P : World → Prop) (w : World) (k' : Int) (e : Ending) (w' : World) : Prop := e = .returned (.int .i64 k') ∧ As lo hi P w' ∧ Tch lo hi w w'
theorem mark_ints (lo hi n : Nat) (v : Value) (xs : List Value) (k : Int) (w : World) (h : As lo hi (OwR lo hi 3 1 v n xs) w) (hk : 0 ≤ k) (hk' : k ≤ 562949953421312) (hs : n ≤ 2000000) :
    Calls Try.prog 13 #[v, .int .i64 k] w fun e w' => MkS lo hi (OwR lo hi 3 1 v n (mks k n)) w (k + n) e w' := by
  refine (laws_markIntS lo n v xs k w h.it.1 hk (by omega) hs).mono ?_
  rintro e w' ⟨he, ho, hg⟩
  have hl := h.it.1.lt
  rw [Nat.mul_one] at he ho
  exact ⟨he, ⟨⟨ho, h.it.2⟩, Nat.le_trans h.le hg.size, OwR.loc _ _ _ _ _ _ _⟩, Tch.of_grown hg fun k hk => ⟨(hl k hk).1, h.it.2 k hk⟩⟩
/-- The mark of an argument's copy. -/
theorem markw_ints (lo hi n : Nat) (v : Value) (xs : List Value) (k : Int) (w : World) (h : As lo hi (OwR lo hi 3 1 v n xs) w) (hk : 0 ≤ k) (hk' : k ≤ 562949953421312) (hs : n ≤ 2000000) :
    Calls Try.prog 13 #[v, .int .i64 k] w fun e w' => MkW lo hi w k (k + 6000000000000) e w' := by
  refine (mark_ints lo hi n v xs k w h hk hk' hs).mono ?_
  rintro e w' ⟨he, _, ht⟩
  exact ⟨_, he, by omega, by omega, ht⟩
theorem markw_graph (lo hi n c : Nat) (A : Option Addr) (gs : List Nd) (k : Int) (w : World) (h : As lo hi (OwG lo hi (.slice A n c) n gs) w) (hb : GB gs) (hk : 0 ≤ k) (hk' : k ≤ 562949953421312) :
    Calls Try.prog 12 #[.agg #[.slice A n c], .int .i64 k] w fun e w' => MkW lo hi w k (k + 6000000000000) e w' := by
  have hn : n ≤ 1048576 := by rw [h.it.1]; exact hb.1
  refine (laws_markGraph lo hi n c A k w (h.it.weak hb) hn hk hk' h.le).mono ?_
  rintro e w' ⟨k', he, h1, h2, ht⟩
  exact ⟨k', he, h1, by omega, ht⟩
theorem leftOf_no {l : Int} {s : Nat} (h : ¬ (s : Int) ≤ l) : leftOf l s = -1 := by unfold leftOf; rw [if_neg h]
theorem leftOf_ok {l : Int} {s : Nat} (h : (s : Int) ≤ l) : leftOf l s = l - s := by unfold leftOf; rw [if_pos h]
end Go.Proofs.Ytdiabclcnkbglaa

namespace Go.Proofs.Ytdiabclcnkbglaa
set_option linter.unusedSimpArgs false
set_option linter.unusedVariables false
open Go.RowKit
theorem OwnI.at_ {w : World} {base n : Nat} {v : Value} {xs : List Int} (h : OwnI w base v xs) (hn : xs.length = n) : ∃ A c, v = .slice A n c ∧ IS w w.heap.size A xs := by
  subst hn
  exact h.form
theorem own_heap {w : World} {base e n cap g : Nat} {xs : List Value} (h : w.ownsRow base e 1 (.slice (some ⟨g, 0, none⟩) n cap) n xs) : ∃ cur : List Value, w.heap[g]? = some (.cells cur.toArray e (0, 0)) ∧ cur.length = cap ∧ base ≤ g := by
  rcases h.2 with ⟨hv, _⟩ | ⟨g', cap', cur, hv, hb, hh, h1, h2, h3, h4⟩
  · simp at hv
  · simp only [Value.slice.injEq, Option.some.injEq, Addr.mk.injEq, and_true, true_and] at hv
    obtain ⟨rfl, rfl⟩ := hv
    exact ⟨cur.toList, by simpa using hh, by simpa using h3, hb⟩
set_option maxRecDepth 100000 in
set_option maxHeartbeats 1600000 in
theorem impl_copyOf (A : Option Addr) (n c : Nat) (xs : List Int) (w : World) (B : Nat) (hB : B ≤ w.heap.size) (hn : n = xs.length) (h : IS w B A xs) (hs : n ≤ 2000000) :
    Calls Try.prog 22 #[.slice A n c] w fun e w' => e = .returned (.slice (some ⟨w.heap.size, 0, none⟩) n n) ∧ w'.ownsRow w.heap.size 3 1 (.slice (some ⟨w.heap.size, 0, none⟩) n n) n (xs.map (Value.int .i64)) ∧ Below w.heap.size w w' := by
  obtain ⟨i0, hi, hz0, hz1, hz2⟩ := info_parts info_int
  obtain ⟨w0, hmk, hown0, hgr0⟩ := run_make_full (P := Try.prog) w w.heap.size 25 3 i0 _ 1 Try.underlying25 hi hz0 hz1 .i64 .i64 n (by rw [hz2]; omega) (by unfold maxLen; omega) (Nat.le_refl _)
  obtain ⟨cur, hcur, hcl, _⟩ := own_heap hown0
  have hb0 : Below w.heap.size w w0 := ⟨hgr0.os, hgr0.tape, hgr0.output, hgr0.size, fun k hk => hgr0.block k hk (by simp)⟩
  obtain ⟨cs, hcs⟩ : ∃ cs : List Value, cs = xs.map (Value.int .i64) := ⟨_, rfl⟩
  have hsz : (Try.prog.info? 3).map (·.size) = some 1 := by kernel_rfl
  have hcl2 : cs.length = n := by rw [hcs, List.length_map]; exact hn.symm
  have hsrc : 0 < cs.length → some (⟨w.heap.size, 0, none⟩ : Addr) = some ⟨w.heap.size, 0, none⟩ ∧ ∃ ad, A = some ad ∧ ∀ j v, cs[j]? = some v → w0.cell? (ad.add j) = some v := by
    intro hp
    obtain ⟨b, off, e, hb, hc⟩ := h (by omega)
    refine ⟨rfl, _, e, fun j v hv => ?_⟩
    have hj : j < xs.length := by
      rcases Nat.lt_or_ge j cs.length with h1 | h1
      · omega
      · rw [List.getElem?_eq_none h1] at hv; cases hv
    have hadd : (⟨b, off, none⟩ : Addr).add j = ⟨b, off + j, none⟩ := by unfold Addr.add; split <;> simp_all
    rw [hadd, hb0.cell (p := ⟨b, off + j, none⟩) (by simp; omega), hc j hj, ← hv, hcs]
    simp [List.getD, hj]
  have h1 : ∀ v ∈ cs, v.oneCell' = true := by
    intro v hv
    rw [hcs] at hv
    obtain ⟨x, _, rfl⟩ := List.mem_map.1 hv
    rfl
  have HCUR := Lib.hid hcur
  have HCL := Lib.hid hcl
  have HCL2 := Lib.hid hcl2
  have HCS := Lib.hid hcs
  have HSRC := Lib.hid hsrc
  have HONE := Lib.hid h1
  have HB0 := Lib.hid hb0
  have HSZ := Lib.hid hsz
  clear hcur hcl hcl2 hcs hsrc h1 hb0 hsz hown0 hgr0 h hn
  go_enter Try.func22, Try.ntmps22
  go_wp2_with (with_reducible refine wpList_copy_splice rfl (.tmp 7) (.tmp 8) 25 25 rfl 3 Try.underlying25 HSZ.out _ _ _ _ _ _ rfl rfl w.heap.size 0 cur 3 HCUR.out cs ?c1 HSRC.out ?c2 HONE.out w.heap.size w HB0.out (Nat.le_refl _) ?_)
  case c1 => have := HCL2.out; omega
  case c2 => have := HCL2.out; have := HCL.out; omega
  intro w2 HG2 hB2
  go_wp2
  go_ret
  have hsp : splice cur 0 cs = cs := by
    unfold splice
    rw [List.take_zero, List.nil_append, List.drop_of_length_le (by have := HCL2.out; have := HCL.out; omega), List.append_nil]
  have hg2 := HG2.out
  rw [hsp] at hg2
  refine ⟨by simp, ⟨by rw [← HCS.out, HCL2.out]; simp, .inr ⟨w.heap.size, n, cs.toArray, rfl, Nat.le_refl _, hg2, Nat.le_refl _, by unfold maxLen; omega, by simpa using HCL2.out, ?_⟩⟩, hB2⟩
  rw [← HCS.out]
  exact List.take_of_length_le (by have := HCL2.out; simp; omega)
end Go.Proofs.Ytdiabclcnkbglaa

namespace Go.Proofs.Ytdiabclcnkbglaa
set_option linter.unusedSimpArgs false
set_option linter.unusedVariables false
open Go.RowKit
theorem IS.take {w : World} {B : Nat} {A : Option Addr} {xs : List Int} (h : IS w B A xs) (k : Nat) : IS w B A (xs.take k) := by
  intro hn
  rw [List.length_take] at hn
  obtain ⟨b, off, e, hb, hc⟩ := h (by omega)
  refine ⟨b, off, e, hb, fun j hj => ?_⟩
  rw [List.length_take] at hj
  have : (xs.take k).getD j 0 = xs.getD j 0 := by simp only [List.getD, List.getElem?_take, if_pos (show j < k by omega)]
  rw [this]
  exact hc j (by omega)
end Go.Proofs.Ytdiabclcnkbglaa

namespace Go.Proofs.Ytdiabclcnkbglaa
set_option linter.unusedSimpArgs false
set_option linter.unusedVariables false
open Go.RowKit
theorem mean_len (gs : List Nd) (xs : List Int) : (mean gs xs).length = gs.length := meanTo_len _ _ _
theorem RetI.mono {w w0 w' : World} {xs : List Int} {e : Ending} (h : RetI w xs e w') (hb : Below w0.heap.size w0 w) : RetI w0 xs e w' := by
  obtain ⟨v, he, ho, hb'⟩ := h
  exact ⟨v, he, own_mono ho hb.size, hb.trans (hb'.mono hb.size)⟩
theorem RetI.nil {w w' : World} (hb : Below w.heap.size w w') : RetI w [] (.returned (.slice none 0 0)) w' := ⟨_, rfl, World.ownsRow_nil _ _ _ _, hb⟩
end Go.Proofs.Ytdiabclcnkbglaa

namespace Go.Proofs.Ytdiabclcnkbglaa
set_option linter.unusedSimpArgs false
set_option linter.unusedVariables false
open Go.RowKit
/-- The slice at A reads as the lists xss; all of it lies below block B. -/
def SS (w : World) (B : Nat) (A : Option Addr) (xss : List (List Int)) : Prop :=
  0 < xss.length → ∃ b off, A = some ⟨b, off, none⟩ ∧ b < B ∧ ∀ j, j < xss.length → ∃ A' n c, w.cell? ⟨b, off + j, none⟩ = some (.slice A' n c) ∧ n = (xss.getD j []).length ∧ IS w B A' (xss.getD j [])
section
variable {w w' : World} {B B' C : Nat} {A : Option Addr} {xss : List (List Int)}
theorem SS.keep (h : SS w B A xss) (hk : ∀ p : Addr, p.block < B → w'.cell? p = w.cell? p) : SS w' B A xss := by
  intro hn
  obtain ⟨b, off, e, hb, hc⟩ := h hn
  refine ⟨b, off, e, hb, fun j hj => ?_⟩
  obtain ⟨A', n, c, h1, h2, h3⟩ := hc j hj
  exact ⟨A', n, c, (hk _ hb).trans h1, h2, h3.keep hk⟩
theorem SS.more (h : SS w B A xss) (hB : B ≤ B') : SS w B' A xss := by
  intro hn
  obtain ⟨b, off, e, hb, hc⟩ := h hn
  refine ⟨b, off, e, by omega, fun j hj => ?_⟩
  obtain ⟨A', n, c, h1, h2, h3⟩ := hc j hj
  exact ⟨A', n, c, h1, h2, h3.more hB⟩
theorem SS.below (h : SS w B A xss) (hb : Below C w w') (hC : B ≤ C) : SS w' B A xss := h.keep fun _ hp => hb.cell (Nat.lt_of_lt_of_le hp hC)
theorem SS.alloc (h : SS w B A xss) (hB : B ≤ w.heap.size) (o : Obj) : SS (w.alloc o) B A xss := h.keep fun p hp => World.cell?_alloc_lt w o p (by omega)
theorem SS.nil (w : World) (B : Nat) (A : Option Addr) : SS w B A [] := fun h => absurd h (by simp)
end
theorem SS.step {A : Option Addr} {xss : List (List Int)} {wk wl : World} (h : SS wk wk.heap.size A xss) (hb : Below wk.heap.size wk wl) : SS wl wl.heap.size A xss := (h.below hb (Nat.le_refl _)).more hb.size
theorem SS.loc (B : Nat) (A : Option Addr) (xss : List (List Int)) : Loc 0 B fun w => SS w B A xss :=
  fun w w' h hk => h.keep fun p hp => World.cell?_of_block (hk p.block (Nat.zero_le _) hp)
/-- No more lists, and no longer ones, than a million. -/
def SB (xss : List (List Int)) : Prop := xss.length ≤ 1048576 ∧ ∀ j, (xss.getD j []).length ≤ 1048576
/-- The rows vs lie in blocks of their own and have contents cont. -/
structure SSk (lo hi : Nat) (vs : List Value) (lens : Nat → Nat) (cont : Nat → List Value) (w : World) : Prop where
  row : ∀ j, j < vs.length → ∃ A m c, vs[j]? = some (.slice A m c) ∧ m = lens j ∧ OwR lo hi 3 1 (.slice A m c) m (cont j) w
  apart : ∀ (i j : Nat) (v u : Value) (k : Nat), i ≠ j → vs[i]? = some v → vs[j]? = some u → v.ownBlock = some k → u.ownBlock ≠ some k
theorem SSk.keep {lo hi : Nat} {vs : List Value} {lens : Nat → Nat} {cont : Nat → List Value} {w w' : World} (h : SSk lo hi vs lens cont w) (hk : ∀ k, lo ≤ k → k < hi → w'.heap[k]? = w.heap[k]?) : SSk lo hi vs lens cont w' :=
  ⟨fun j hj => by obtain ⟨A, m, c, h1, h2, h3⟩ := h.row j hj; exact ⟨A, m, c, h1, h2, h3.keep hk⟩, h.apart⟩
theorem SSk.mono {lo hi lo' hi' : Nat} {vs : List Value} {lens : Nat → Nat} {cont : Nat → List Value} {w : World} (h : SSk lo hi vs lens cont w) (h1 : lo' ≤ lo) (h2 : hi ≤ hi') : SSk lo' hi' vs lens cont w :=
  ⟨fun j hj => by obtain ⟨A, m, c, e1, e2, e3⟩ := h.row j hj; exact ⟨A, m, c, e1, e2, e3.mono h1 h2⟩, h.apart⟩
/-- A row of another kind was written to. -/
theorem SSk.grown {lo hi : Nat} {vs : List Value} {lens : Nat → Nat} {cont : Nat → List Value} {w w' : World} {row : Option Nat} (h : SSk lo hi vs lens cont w) (hg : w.grownBy w' row) (hr : ∀ (j : Nat) (v : Value), vs[j]? = some v → v.ownBlock = none ∨ v.ownBlock ≠ row) : SSk lo hi vs lens cont w' :=
  ⟨fun j hj => by obtain ⟨A, m, c, h1, h2, h3⟩ := h.row j hj; exact ⟨A, m, c, h1, h2, h3.1.kept hg (hr j _ h1), h3.2⟩, h.apart⟩
theorem SSk.ne {lo hi lo' : Nat} {vs : List Value} {lens : Nat → Nat} {cont : Nat → List Value} {w : World} {e : TypeId} {size n : Nat} {u : Value} {xs : List Value} (h : SSk lo hi vs lens cont w) (hu : w.ownsRow lo' e size u n xs) (he : (3 : TypeId) ≠ e) : ∀ (j : Nat) (v : Value), vs[j]? = some v → v.ownBlock = none ∨ v.ownBlock ≠ u.ownBlock := by
  intro j v hv
  have hj : j < vs.length := by
    rcases Nat.lt_or_ge j vs.length with h1 | h1
    · exact h1
    · rw [List.getElem?_eq_none h1] at hv; cases hv
  obtain ⟨A, m, c, h1, h2, h3⟩ := h.row j hj
  rw [h1] at hv
  cases hv
  exact blocks_ne h3.1 hu he
theorem SSk.lt {lo hi : Nat} {vs : List Value} {lens : Nat → Nat} {cont : Nat → List Value} {w : World} (h : SSk lo hi vs lens cont w) : ∀ (j : Nat) (v : Value) (k : Nat), vs[j]? = some v → v.ownBlock = some k → lo ≤ k ∧ k < hi := by
  intro j v k hv hk
  have hj : j < vs.length := by
    rcases Nat.lt_or_ge j vs.length with h1 | h1
    · exact h1
    · rw [List.getElem?_eq_none h1] at hv; cases hv
  obtain ⟨A, m, c, h1, h2, h3⟩ := h.row j hj
  rw [h1] at hv
  cases hv
  exact ⟨(h3.1.lt k hk).1, h3.2 k hk⟩
/-- One row more, or another one in its place: it lies in new blocks. -/
theorem SSk.put {lo hi hi' : Nat} {vs vs' : List Value} {lens lens' : Nat → Nat} {cont cont' : Nat → List Value} {w : World} {A : Option Addr} {m c : Nat} (h : SSk lo hi vs lens cont w) (k : Nat) (hk : vs'[k]? = some (.slice A m c)) (hl : ∀ j, j ≠ k → vs'[j]? = vs[j]?)
    (hlen : ∀ j, j < vs'.length → j ≠ k → j < vs.length) (hm : m = lens' k) (hc : ∀ j, j ≠ k → lens' j = lens j ∧ cont' j = cont j) (hr : OwR hi hi' 3 1 (.slice A m c) m (cont' k) w) (h1 : lo ≤ hi) (h2 : hi ≤ hi') : SSk lo hi' vs' lens' cont' w := by
  refine ⟨fun j hj => ?_, fun i j v u q hij hi' hj' hv hu => ?_⟩
  · by_cases e : j = k
    · subst e
      exact ⟨A, m, c, hk, hm, hr.mono h1 (Nat.le_refl _)⟩
    · obtain ⟨A', m', c', e1, e2, e3⟩ := h.row j (hlen j hj e)
      obtain ⟨e4, e5⟩ := hc j e
      exact ⟨A', m', c', by rw [hl j e]; exact e1, by rw [e4]; exact e2, by rw [e5]; exact e3.mono (Nat.le_refl _) h2⟩
  · by_cases e : i = k
    · subst e
      rw [hk] at hi'
      cases hi'
      have a1 := (hr.1.lt q hv).1
      rw [hl j (fun e => hij e.symm)] at hj'
      have a2 := (h.lt j u q hj' hu).2
      omega
    · by_cases e' : j = k
      · subst e'
        rw [hk] at hj'
        cases hj'
        have a1 := (hr.1.lt q hu).1
        rw [hl i e] at hi'
        have a2 := (h.lt i v q hi' hv).2
        omega
      · rw [hl i e] at hi'
        rw [hl j e'] at hj'
        exact h.apart i j v u q hij hi' hj' hv hu
def lenOf (xss : List (List Int)) (j : Nat) : Nat := (xss.getD j []).length
def rowOf (xss : List (List Int)) (j : Nat) : List Value := (xss.getD j []).map (Value.int .i64)
def offOf (xss : List (List Int)) (j : Nat) : Nat := ((xss.take j).map List.length).sum
theorem offOf_succ (xss : List (List Int)) (j : Nat) (h : j < xss.length) : offOf xss (j + 1) = offOf xss j + lenOf xss j := by
  unfold offOf lenOf
  rw [List.take_succ_eq_append_getElem h, List.map_append, List.sum_append]
  simp [List.getD, h]
theorem offOf_all (xss : List (List Int)) : offOf xss xss.length = (xss.map List.length).sum := by unfold offOf; rw [List.take_of_length_le (Nat.le_refl _)]
theorem offOf_le (xss : List (List Int)) (j : Nat) : offOf xss j ≤ (xss.map List.length).sum := by
  have : (xss.map List.length).sum = offOf xss j + ((xss.drop j).map List.length).sum := by
    unfold offOf
    rw [← List.sum_append, ← List.map_append, List.take_append_drop]
  omega
/-- Lists of numbers of the call's own. -/
def OwSS (lo hi : Nat) (v : Value) (n : Nat) (xss : List (List Int)) (w : World) : Prop :=
  n = xss.length ∧ ∃ vs, OwR lo hi 25 1 v n vs w ∧ SSk lo hi vs (lenOf xss) (rowOf xss) w
theorem OwSS.loc (lo hi : Nat) (v : Value) (n : Nat) (xss : List (List Int)) : Loc lo hi (OwSS lo hi v n xss) := by
  rintro w w' ⟨h0, vs, h1, h2⟩ hk
  exact ⟨h0, vs, h1.keep hk, h2.keep hk⟩
theorem OwSS.mono {lo hi lo' hi' n : Nat} {v : Value} {xss : List (List Int)} {w : World} (h : OwSS lo hi v n xss w) (h1 : lo' ≤ lo) (h2 : hi ≤ hi') : OwSS lo' hi' v n xss w := by
  obtain ⟨h0, vs, e1, e2⟩ := h
  exact ⟨h0, vs, e1.mono h1 h2, e2.mono h1 h2⟩
theorem OwSS.form {lo hi n : Nat} {v : Value} {xss : List (List Int)} {w : World} (h : OwSS lo hi v n xss w) : ∃ A c, v = .slice A n c := by
  obtain ⟨_, xs, h1, _⟩ := h
  exact own_form h1.1
theorem OwSS.lists {lo hi n c : Nat} {A : Option Addr} {xss : List (List Int)} {w : World} (h : OwSS lo hi (.slice A n c) n xss w) : SS w hi A xss := by
  obtain ⟨h0, vs, h1, h2⟩ := h
  intro hn
  rcases h1.1.2 with ⟨_, hz⟩ | ⟨g, cap, cur, hv, _⟩
  · omega
  · have hg := h1.2 g (by rw [hv]; rfl)
    simp only [Value.slice.injEq] at hv
    obtain ⟨rfl, _, rfl⟩ := hv
    have hvl : vs.length = n := by have := h1.1.1; omega
    refine ⟨g, 0, rfl, hg, fun j hj => ?_⟩
    obtain ⟨A', m, c', e1, e2, e3⟩ := h2.row j (by omega)
    refine ⟨A', m, c', ?_, e2, e3.ints⟩
    rw [Nat.zero_add, h1.1.cellAt _ (by omega)]; exact e1
theorem As.lists {lo hi n c : Nat} {A : Option Addr} {xss : List (List Int)} {w : World} (h : As lo hi (OwSS lo hi (.slice A n c) n xss) w) : SS w w.heap.size A xss := h.it.lists.more h.le
theorem ints_ne_int : (3 : TypeId) ≠ 25 := by decide
set_option maxRecDepth 100000 in
set_option maxHeartbeats 1600000 in
theorem laws_eqIntSS (A A' : Option Addr) (n n' c c' : Nat) (xss yss : List (List Int)) (w : World) (B : Nat) (hB : B ≤ w.heap.size) (hn : n = xss.length) (hn' : n' = yss.length) (h : SS w B A xss) (h' : SS w B A' yss) (hb1 : SB xss) (hb2 : SB yss) :
    Calls Try.prog 23 #[.slice A n c, .slice A' n' c'] w fun e w' => e = .returned (.bool (decide (xss = yss))) ∧ Below w.heap.size w w' := by
  have hm1 : n ≤ 1048576 := by rw [hn]; exact hb1.1
  have hm2 : n' ≤ 1048576 := by rw [hn']; exact hb2.1
  by_cases hl : n = n'
  · have hne : ((n : Int) != (n' : Int)) = false := by simp [hl]
    have HL := Lib.hid hl
    have HN := Lib.hid hn
    have HN' := Lib.hid hn'
    have H := Lib.hid h
    have H' := Lib.hid h'
    have HB1 := Lib.hid hb1
    have HB2 := Lib.hid hb2
    clear hl hn hn' h h' hb1 hb2
    go_enter Try.func23, Try.ntmps23
    go_wp2
    go_loopw [5] (fun i wr => ∃ k : Nat, k ≤ n ∧ i = .int .i64 k ∧ Hid (xss.take k = yss.take k) ∧ Below w.heap.size w wr) (fun i _ => n - (intOf i).toNat)
    case atStart => exact ⟨0, Nat.zero_le _, rfl, by simp [Hid], Below.refl _ _⟩
    case round =>
      obtain ⟨k, hk, rfl, HT, hb⟩ := hrel
      by_cases hlt : k < n
      · obtain ⟨b, off, rfl, hbB, hc⟩ := H.out (by have := HN.out; omega)
        obtain ⟨b', off', rfl, hbB', hc'⟩ := H'.out (by have := HN'.out; have := HL.out; omega)
        obtain ⟨A1, n1, c1, c2, hn1', hps⟩ := hc k (by have := HN.out; omega)
        obtain ⟨A2, n2, d1, d2, hn2', hqs⟩ := hc' k (by have := HN'.out; have := HL.out; omega)
        have hx1 := HB1.out.2 k
        have hx2 := HB2.out.2 k
        clear hc hc' H H'
        have hlt' : k < n' := by have := HL.out; omega
        have b1 := (hb.cell (p := ⟨b, off + k, none⟩) (by simp; omega)).trans c2
        have e1 := (hb.cell (p := ⟨b', off' + k, none⟩) (by simp; omega)).trans d2
        have HPS := Lib.hid (hps.below hb hB)
        have HQS := Lib.hid (hqs.below hb hB)
        clear c2 d2 hps hqs
        have hpd : xss.getD k [] = xss.getD k default := rfl
        have hqd : yss.getD k [] = yss.getD k default := rfl
        rw [hpd] at *
        rw [hqd] at *
        clear hpd hqd
        generalize hp : xss.getD k default = p at *
        generalize hq : yss.getD k default = q at *
        have HP := Lib.hid hp
        have HQ := Lib.hid hq
        have HN1 := Lib.hid hn1'
        have HN2 := Lib.hid hn2'
        have hy1 : n1 ≤ 2000000 := by omega
        have hy2 : n2 ≤ 2000000 := by omega
        have HEQ := Lib.hid fun (w' : World) (hB : B ≤ w'.heap.size) (h : IS w' B A1 p) (h' : IS w' B A2 q) => laws_eqIntS A1 A2 n1 n2 c1 d1 p q w' B hB HN1.out HN2.out h h' hy1 hy2
        obtain ⟨r, hr⟩ : ∃ r : Bool, r = decide (p = q) := ⟨_, rfl⟩
        rw [← hr] at HEQ
        have HR := Lib.hid hr
        clear hp hq hn1' hn2' hx1 hx2 hr
        go_wp2
        go_still_tail 8, (by kernel_rfl)
        go_wp2_with fail
        refine (HEQ.out wr.drew (Nat.le_trans hB hb.size) HPS.out HQS.out).mono ?_
        rintro e w1 ⟨rfl, hb1⟩
        cases r
        · go_wp2
          go_ret
          refine ⟨ret_b ?_, hb.drew.trans (hb1.mono hb.size)⟩
          have hne : xss.getD k default ≠ yss.getD k default := by
            rw [HP.out, HQ.out]; exact of_decide_eq_false HR.out.symm
          simp [getD_ne xss yss k hne]
        · have he : xss.getD k default = yss.getD k default := by
            rw [HP.out, HQ.out]; exact of_decide_eq_true HR.out.symm
          have hts := take_step xss yss k (by have := HN.out; omega) (by have := HN'.out; omega) HT.out he
          have HTS := Lib.hid hts
          clear he hts
          go_wp2
          go_roundw
          case rel => exact ⟨k + 1, by omega, by go_num, HTS.out, hb.drew.trans (hb1.mono hb.size)⟩
          case measure => simp [intOf]; omega
      · go_wp2
        go_ret
        refine ⟨ret_b ?_, hb⟩
        have hkn : k = n := by omega
        have := take_all_eq xss yss n HN.out (HL.out.trans HN'.out) (by rw [← hkn]; exact HT.out)
        simp [this]
  · have hne : ((n : Int) != (n' : Int)) = true := by simp; omega
    have hf : decide (xss = yss) = false := by
      rw [decide_eq_false_iff_not]; rintro rfl; omega
    rw [hf]
    clear hl hn hn' h h' hf hb1 hb2
    go_enter Try.func23, Try.ntmps23
    go_wp2
    go_ret
    exact ⟨rfl, Below.refl _ _⟩
theorem SSk.mark {lo hi : Nat} {vs : List Value} {xss : List (List Int)} {k : Int} {w w' : World} {e : Ending} {A : Option Addr} {m c J : Nat} (h : SSk lo hi vs (lenOf xss) (fun j => if j < J then mks (k + offOf xss j) (lenOf xss j) else rowOf xss j) w) (hJ : vs[J]? = some (.slice A m c)) (hml : m = lenOf xss J)
    (hm : Marked w lo 3 1 (.slice A m c) m (k + offOf xss J) e w') : SSk lo hi vs (lenOf xss) (fun j => if j < J + 1 then mks (k + offOf xss j) (lenOf xss j) else rowOf xss j) w' := by
  refine ⟨fun j hj => ?_, h.apart⟩
  obtain ⟨A', m', c', e1, e2, e3⟩ := h.row j hj
  by_cases ej : j = J
  · subst ej
    rw [hJ] at e1
    cases e1
    refine ⟨A, m, c, hJ, hml, ?_, e3.2⟩
    rw [if_pos (by omega), ← hml]
    have := hm.2.1
    rwa [Nat.mul_one] at this
  · refine ⟨A', m', c', e1, e2, ?_, e3.2⟩
    have hne : (Value.slice A' m' c').ownBlock = none ∨ (Value.slice A' m' c').ownBlock ≠ (Value.slice A m c).ownBlock := by
      cases hb : (Value.slice A' m' c').ownBlock with
      | none => exact .inl rfl
      | some q => exact .inr fun e => h.apart j J _ _ q ej e1 hJ hb e.symm
    have := e3.1.kept hm.2.2 hne
    have hif : (if j < J + 1 then mks (k + offOf xss j) (lenOf xss j) else rowOf xss j) = (if j < J then mks (k + offOf xss j) (lenOf xss j) else rowOf xss j) := by
      by_cases h1 : j < J
      · rw [if_pos (by omega), if_pos h1]
      · rw [if_neg (by omega), if_neg h1]
    rw [hif]
    exact this
theorem OwSS.nil (lo hi : Nat) (w : World) : OwSS lo hi (.slice none 0 0) 0 [] w := ⟨rfl, [], OwR.nil _ _ _ _ _, ⟨fun j hj => by simp at hj, fun i j v u k _ h => by simp at h⟩⟩
end Go.Proofs.Ytdiabclcnkbglaa

namespace Go.Proofs.Ytdiabclcnkbglaa
set_option linter.unusedSimpArgs false
set_option linter.unusedVariables false
open Go.RowKit
/-- What a node reads with some values. -/
def depF (gs : List Nd) (vs : List Int) (i : Nat) : List Int := if (gs.getD i default).k == 0 then [] else firsts ((whole (gs.getD i default).ps).rds vs)
def depTo (gs : List Nd) (vs : List Int) (k : Nat) : List (List Int) := (List.range k).map (depF gs vs)
theorem OwSS.snoc {base k : Nat} {v v' : Value} {xss : List (List Int)} {D : List Int} {A : Option Addr} {m c : Nat} {wr w5 w6 : World} {vs : List Value} {o : Obj} (hrow : wr.ownsRow base 25 1 v k vs) (hss : SSk base wr.heap.size vs (lenOf xss) (rowOf xss) wr) (hk : k = xss.length) (hb : Below wr.heap.size wr w5)
    (hd : w5.ownsRow wr.heap.size 3 1 (.slice A m c) m (D.map (Value.int .i64))) (hm : m = D.length) (happ : w6.ownsRow base 25 1 v' (k + 1) (vs ++ [.slice A m c])) (hgrow : (w5.alloc o).grownBy w6 v.ownBlock) (hbs : base ≤ wr.heap.size) : OwSS base w6.heap.size v' (k + 1) (xss ++ [D]) w6 := by
  have hvl : vs.length = k := by have := hrow.1; omega
  have hrow5 := (own_below hrow hb).alloc o
  have hss5 : SSk base wr.heap.size vs (lenOf xss) (rowOf xss) (w5.alloc o) := (hss.keep fun q _ hq => hb.block q hq).keep fun q _ hq => Below.heap_alloc _ _ _ (Nat.lt_of_lt_of_le hq hb.size)
  have hss6 : SSk base wr.heap.size vs (lenOf xss) (rowOf xss) w6 := hss5.grown hgrow (hss5.ne hrow5 ints_ne_int)
  have hd6 : w6.ownsRow wr.heap.size 3 1 (.slice A m c) m (D.map (Value.int .i64)) := (hd.alloc o).kept hgrow (blocks_ne (hd.alloc o) hrow5 ints_ne_int)
  refine ⟨by rw [List.length_append, hk]; rfl, vs ++ [.slice A m c], OwR.start happ, ?_⟩
  refine hss6.put (hi' := w6.heap.size) (lens' := lenOf (xss ++ [D])) (cont' := rowOf (xss ++ [D])) (A := A) (m := m) (c := c) k ?_ ?_ ?_ ?_ ?_ ?_ hbs ?_
  · rw [List.getElem?_append_right (by omega), hvl, Nat.sub_self]; rfl
  · intro j hj
    rcases Nat.lt_or_ge j vs.length with h1 | h1
    · rw [List.getElem?_append_left h1]
    · rw [List.getElem?_eq_none h1, List.getElem?_eq_none (by simp; omega)]
  · intro j hj hjk; simp at hj; omega
  · rw [hm]; unfold lenOf; simp [List.getD, hk]
  · intro j hj
    have : (xss ++ [D]).getD j [] = xss.getD j [] := by
      rcases Nat.lt_or_ge j xss.length with h1 | h1
      · simp [List.getD, List.getElem?_append_left h1]
      · rw [List.getD, List.getElem?_eq_none (by simp; omega), List.getD, List.getElem?_eq_none h1]
    unfold lenOf rowOf
    rw [this]
    exact ⟨rfl, rfl⟩
  · refine ⟨?_, fun q hq => (hd6.lt q hq).2⟩
    have : rowOf (xss ++ [D]) k = D.map (Value.int .i64) := by unfold rowOf; simp [List.getD, hk]
    rw [this]; exact hd6
  · have h1 := hgrow.size; simp at h1; have := hb.size; omega
theorem info_ints1 : (Try.prog.info? 25).map (fun i => (i.zero, i.size, i.bytes)) = some (some (.slice none 0 0), 1, 24) := by kernel_rfl
end Go.Proofs.Ytdiabclcnkbglaa
