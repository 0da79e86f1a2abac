/- impl's copyEager, setValue and runNode; the closure that looks whether a node changed. -/
import Derived.Test.YtgakgmkonmgblaaGreatA7
import Derived.Test.YtgakgmkonmgblaaGreatT42

namespace Go.Proofs.YtgakgmkonmgblaaGreat
set_option linter.unusedSimpArgs false
set_option linter.unusedVariables false
open Go.RowKit

set_option maxRecDepth 100000 in
set_option maxHeartbeats 1600000 in
theorem impl_copyEager (A' A : Option Addr) (m c' n c : Nat) (xs : List Int) (xss : List (List Int)) (w : World) (B : Nat) (hB : B ≤ w.heap.size) (hm : m = xs.length) (hn : n = xss.length) (h' : IS w B A' xs) (h : SS w B A xss) (hs : SB xss) (hml : m ≤ 2000000) :
    Calls Tryz.prog 34 #[.agg #[.slice A' m c', .slice A n c]] w fun e w' => ∃ g, e = .returned (.agg #[.slice (some ⟨g, 0, none⟩) m m, .slice (some ⟨w.heap.size + 2, 0, none⟩) n n]) ∧ OwE w.heap.size w'.heap.size (some ⟨g, 0, none⟩) m m (some ⟨w.heap.size + 2, 0, none⟩) n n ⟨xs, xss⟩ w' ∧ Below w.heap.size w w' := by
  have hn1 : n ≤ 1048576 := by rw [hn]; exact hs.1
  obtain ⟨i1, hi, hz0, hz1, hz2⟩ := info_parts info_ints1
  obtain ⟨w3, hmk, hown3, hgr3⟩ := run_make_full (P := Tryz.prog) ((w.alloc (.cells #[.slice A' m c', .slice A n c] 29)).alloc (.cells #[.slice none 0 0, .slice none 0 0] 29)) (w.heap.size + 1 + 1) 27 26 i1 _ 1 Tryz.underlying27 hi hz0 hz1 .i64 .i64 n (by rw [hz2]; omega) (by unfold maxLen; omega) (by simp)
  simp only [World.size_alloc] at hmk hown3
  have hgl : w.heap.size + 1 + 1 < w3.heap.size := (hown3.lt _ rfl).2
  have hb03 : Below (w.heap.size + 1 + 1) ((w.alloc (.cells #[.slice A' m c', .slice A n c] 29)).alloc (.cells #[.slice none 0 0, .slice none 0 0] 29)) w3 := ⟨hgr3.os, hgr3.tape, hgr3.output, hgr3.size, fun k hk => hgr3.block k (by simpa using hk) (by simp)⟩
  have hb3 : Below w.heap.size w w3 := (((Below.refl _ _).alloc (Nat.le_refl _) _).alloc (by simp) _).trans (hb03.mono (by omega))
  have q0 : w3.cell? ⟨w.heap.size, 0, none⟩ = some (.slice A' m c') := (hb03.cell (p := ⟨w.heap.size, 0, none⟩) (by simp; omega)).trans (by go_simp)
  have q1 : w3.cell? ⟨w.heap.size, 1, none⟩ = some (.slice A n c) := (hb03.cell (p := ⟨w.heap.size, 1, none⟩) (by simp; omega)).trans (by go_simp)
  have X1 : Hid (Bx (w.heap.size + 1) [.slice none 0 0, .slice none 0 0] w3) := by
    have h1 := Bx.start (w.alloc (.cells #[.slice A' m c', .slice A n c] 29)) #[.slice none 0 0, .slice none 0 0] 29
    simp only [World.size_alloc] at h1
    exact h1.below hb03 (by omega)
  have HO3 : Hid (∃ vs, OwR (w.heap.size + 1 + 1) w3.heap.size 26 1 (.slice (some ⟨w.heap.size + 1 + 1, 0, none⟩) n n) n vs w3 ∧ SSk (w.heap.size + 1 + 1) w3.heap.size vs (lenOf (cpTo xss n 0)) (rowOf (cpTo xss n 0)) w3) := by
    have e : (madeCells (Value.slice none 0 0).cells (n * 1)).toList = List.replicate n (.slice none 0 0) := by simp [Value.cells, toList_madeCells_one]
    rw [e] at hown3
    refine ⟨_, OwR.start hown3, ⟨fun j hj => ?_, fun i j v u k _ h1 h2 hv => ?_⟩⟩
    · have hj' : j < n := by simpa using hj
      refine ⟨none, 0, 0, by simp [hj'], by simp [lenOf, cpTo, List.getD, hj'], ?_⟩
      have : rowOf (cpTo xss n 0) j = [] := by simp [rowOf, cpTo, List.getD, hj']
      rw [this]
      exact OwR.nil _ _ _ _ _
    · have : v = .slice none 0 0 := by
        rw [List.getElem?_replicate] at h1
        split at h1
        · cases h1; rfl
        · cases h1
      subst this
      simp [Value.ownBlock] at hv
  have H := Lib.hid h
  have HV := Lib.hid h'
  have HN := Lib.hid hn
  have HM := Lib.hid hm
  have HS := Lib.hid hs
  have HB3 := Lib.hid hb3
  have Q0 := Lib.hid q0
  clear hm hn h h' hs hown3 hgr3 hb3 hb03 q0
  go_enter Tryz.func34, Tryz.ntmps34
  go_wp2
  clear hmk q1
  go_loopw [13] (fun i wr => ∃ k : Nat, k ≤ n ∧ i = .int .i64 k ∧ Hid (∃ vs, OwR (w.heap.size + 1 + 1) wr.heap.size 26 1 (.slice (some ⟨w.heap.size + 1 + 1, 0, none⟩) n n) n vs wr ∧ SSk (w.heap.size + 1 + 1) wr.heap.size vs (lenOf (cpTo xss n k)) (rowOf (cpTo xss n k)) wr) ∧ Hid (Below (w.heap.size + 1 + 1) w3 wr) ∧ w3.heap.size ≤ wr.heap.size) (fun i _ => n - (intOf i).toNat)
  case atStart => exact ⟨0, Nat.zero_le _, rfl, HO3.out, Below.refl _ _, Nat.le_refl _⟩
  case round =>
    obtain ⟨k, hk, rfl, HO, HB, hwr⟩ := hrel
    by_cases hlt : k < n
    · obtain ⟨vs, hrow, hss⟩ := HO.out
      have hvl : vs.length = n := by have := hrow.1.1; omega
      have hkg : k < xss.length := by have := HN.out; omega
      obtain ⟨b, off, rfl, hbB, A1, n1, c1, c0, hn1', hps⟩ := H.out.at_ k hkg
      have hbw := HB3.out.trans (HB.out.mono (by omega))
      have e0 := (hbw.cell (p := ⟨b, off + k, none⟩) (by simp; omega)).trans c0
      have HPS := Lib.hid (hps.below hbw hB)
      have HAT := Lib.hid (cpTo_at xss n k hlt HN.out)
      have HOT := Lib.hid fun (j : Nat) (hj : j ≠ k) => cpTo_other xss n k j hlt HN.out hj
      have hnb := HS.out.2 k
      have HROW := Lib.hid hrow.1
      have HSS := Lib.hid hss
      have HVL := Lib.hid hvl
      generalize xss.getD k [] = D at *
      have HN1 := Lib.hid hn1'
      have hn2 : n1 ≤ 2000000 := by omega
      clear c0 hps hrow hss hvl hbw hn1' hnb
      go_wp2_with fail
      refine (impl_copyOf A1 n1 c1 D _ B (by omega) HN1.out HPS.out hn2).mono ?_
      rintro e w5 ⟨rfl, ho5, hb5⟩
      have hR5 := own_below HROW.out hb5
      have u5 := hR5.cellAt k (by omega)
      rw [List.getElem?_eq_getElem (by have := HVL.out; omega)] at u5
      have f5 := hR5.frozenAt k
      have hst := hR5.stored k (.slice (some ⟨wr.heap.size, 0, none⟩) n1 n1)
      have hw5 : wr.heap.size ≤ w5.heap.size := hb5.size
      have HNEW : Hid (∃ vs, OwR (w.heap.size + 1 + 1) w5.heap.size 26 1 (.slice (some ⟨w.heap.size + 1 + 1, 0, none⟩) n n) n vs (w5.setCell ⟨w.heap.size + 1 + 1, k, none⟩ (.slice (some ⟨wr.heap.size, 0, none⟩) n1 n1)) ∧ SSk (w.heap.size + 1 + 1) w5.heap.size vs (lenOf (cpTo xss n (k + 1))) (rowOf (cpTo xss n (k + 1))) (w5.setCell ⟨w.heap.size + 1 + 1, k, none⟩ (.slice (some ⟨wr.heap.size, 0, none⟩) n1 n1))) := by
        have hss5 := HSS.out.keep (w' := w5) fun q _ hq => hb5.block q hq
        have hss6 := hss5.grown hst.2 (hss5.ne hR5 ints_ne_int)
        have hd6 := ho5.kept hst.2 (blocks_ne ho5 hR5 ints_ne_int)
        have hrk : rowOf (cpTo xss n (k + 1)) k = D.map (Value.int .i64) := by unfold rowOf; rw [HAT.out]
        rw [← hrk] at hd6
        refine ⟨_, ⟨hst.1, fun q hq => by cases hq; exact Nat.lt_of_lt_of_le hgl (by omega)⟩, hss6.put (hi' := w5.heap.size) (A := some ⟨wr.heap.size, 0, none⟩) (m := n1) (c := n1) k ?_ ?_ ?_ ?_ ?_ ⟨own_mono hd6 (by omega), fun q hq => by have := (ho5.lt q hq).2; omega⟩ (by omega) (by omega)⟩
        · rw [List.getElem?_set, if_pos rfl, if_pos (by have := HVL.out; omega)]
        · intro j hj; rw [List.getElem?_set, if_neg (by omega)]
        · intro j hj _; simpa using hj
        · unfold lenOf; rw [HAT.out]; exact HN1.out
        · intro j hj; unfold lenOf rowOf; rw [HOT.out j hj]; exact ⟨rfl, rfl⟩
      have HB6 : Hid (Below (w.heap.size + 1 + 1) w3 (w5.setCell ⟨w.heap.size + 1 + 1, k, none⟩ (.slice (some ⟨wr.heap.size, 0, none⟩) n1 n1))) := (HB.out.trans (hb5.mono (by omega))).setCell (Nat.le_refl _) _
      have HSZ : Hid ((w5.setCell ⟨w.heap.size + 1 + 1, k, none⟩ (.slice (some ⟨wr.heap.size, 0, none⟩) n1 n1)).heap.size = w5.heap.size) := by simp [World.setCell, Hid]
      generalize vs[k]'_ = vv at u5
      clear hst hR5 ho5 hb5
      go_wp2
      go_roundw
      case rel => exact ⟨k + 1, by omega, by go_num, by rw [HSZ.out]; exact HNEW.out, HB6.out, by simp [World.setCell]; omega⟩
      case measure => simp [intOf]; omega
    · obtain rfl : k = n := by omega
      have HBW := Lib.hid (HB3.out.trans (HB.out.mono (by omega)))
      have hq := (HB.out.cell (p := ⟨w.heap.size, 0, none⟩) (by simp; omega)).trans Q0.out
      go_wp2_with fail
      refine (impl_copyOf A' m c' xs _ B (by omega) HM.out (HV.out.below HBW.out hB) hml).mono ?_
      rintro e w5 ⟨rfl, ho5, hb5⟩
      have x1 := (X1.out.below HB.out (by omega)).step hb5
      have r0 := x1.c 0 _ rfl
      have r1 := x1.c 1 _ rfl
      have f0 := x1.f 0
      have f1 := x1.f 1
      have HB5 := Lib.hid (HBW.out.trans (hb5.mono (by omega)))
      have hwl : w.heap.size + 1 < w5.heap.size := x1.lt
      have HJ : Hid (OwE (w.heap.size + 1 + 1) w5.heap.size (some ⟨wr.heap.size, 0, none⟩) m m (some ⟨w.heap.size + 1 + 1, 0, none⟩) k k ⟨xs, xss⟩ w5) := by
        obtain ⟨vs, hrow, hss⟩ := HO.out
        rw [cpTo_all xss k HN.out] at hss
        exact OwE.join2 (mid := wr.heap.size) ⟨ho5, fun q hq => (ho5.lt q hq).2⟩ HM.out ⟨HN.out, vs, ⟨own_below hrow.1 hb5, hrow.2⟩, hss.keep fun q _ hq => hb5.block q hq⟩ (by omega) hb5.size
      clear x1 hb5 ho5 hq
      go_wp2
      refine bodyPost_ret (v := .agg #[.slice (some ⟨wr.heap.size, 0, none⟩) m m, .slice (some ⟨w.heap.size + 1 + 1, 0, none⟩) k k]) (by simp [results, Tryz.results34, go_sem, r0, r1]) rfl ?_
      refine ⟨_, rfl, ?_, (HB5.out.setCell (by simp) _).setCell (by simp) _⟩
      exact ((HJ.out.setCell (by simp) _).setCell (by simp) _).mono (by omega) (by simp [World.setCell])

/-- One value is written in place. -/
theorem impl_setValue (gv n cv k : Nat) (E : Option Addr) (p ec : Nat) (z x : Int) (w : World) (hk : k < n) (hgv : gv < w.heap.size) (hz : w.cell? ⟨gv, k, none⟩ = some (.int .i64 z)) (hf : w.frozen? ⟨gv, k, none⟩ = false) :
    Calls Tryz.prog 35 #[.agg #[.slice (some ⟨gv, 0, none⟩) n cv, .slice E p ec], .int .i64 k, .int .i64 x] w fun e w' => e = .returned (.bool (!(z == x))) ∧ w' = (w.setCell ⟨gv, k, none⟩ (.int .i64 x)).alloc (.cells #[.slice (some ⟨gv, 0, none⟩) n cv, .slice E p ec] 29) := by
  have hz' : (w.alloc (.cells #[.slice (some ⟨gv, 0, none⟩) n cv, .slice E p ec] 29)).cell? ⟨gv, k, none⟩ = some (.int .i64 z) := ((Below.refl w.heap.size w).alloc (Nat.le_refl _) _).cell (p := ⟨gv, k, none⟩) hgv |>.trans hz
  have hf' : (w.alloc (.cells #[.slice (some ⟨gv, 0, none⟩) n cv, .slice E p ec] 29)).frozen? ⟨gv, k, none⟩ = false := ((Below.refl w.heap.size w).alloc (Nat.le_refl _) _).frozen (p := ⟨gv, k, none⟩) hgv |>.trans hf
  go_enter Tryz.func35, Tryz.ntmps35
  go_wp2
  go_ret
  exact ⟨by first | rfl | simp [bne], by first | rfl | trivial⟩

set_option maxRecDepth 100000 in
set_option maxHeartbeats 1600000 in
/-- A node runs in place. -/
theorem impl_runNode (A : Option Addr) (n c gr gv cv cr : Nat) (gs : List Nd) (U : List Value) (vs ch rn : List Int) (rs : List (List Int)) (i : Nat) (w : World) (B : Nat) (hB : B ≤ w.heap.size) (hn : n = gs.length) (hg : GS w w.heap.size A gs) (hW : WF B (some ⟨gr, 0, none⟩) cr n U vs ch rn rs w) (hU : U[0]? = some (.slice (some ⟨gv, 0, none⟩) n cv)) (hvg : validG gs = true) (hl : vs.length = gs.length) (hr : allR vs 0 999 = true) (hi : i < n) :
    Calls Tryz.prog 38 #[.agg #[.slice A n c], .agg #[.slice (some ⟨gv, 0, none⟩) n cv, .slice (some ⟨gr, 0, none⟩) n cr], .int .i64 i] w fun e w' => ∃ w2 Ad cd o, e = .returned (.bool (!(vs.getD i 0 == valE gs vs i))) ∧ Below w.heap.size w w2 ∧ w2.ownsRow w.heap.size 3 1 (.slice Ad (depF gs vs i).length cd) (depF gs vs i).length ((depF gs vs i).map (Value.int .i64)) ∧ w' = ((w2.setCell ⟨gr, i, none⟩ (.slice Ad (depF gs vs i).length cd)).setCell ⟨gv, i, none⟩ (.int .i64 (valE gs vs i))).alloc o := by
  have hm : n = vs.length := by omega
  obtain ⟨W1, hW1⟩ : ∃ W, W = (w.alloc (.cells #[.slice A n c] 25)).alloc (.cells #[.slice (some ⟨gv, 0, none⟩) n cv, .slice (some ⟨gr, 0, none⟩) n cr] 29) := ⟨_, rfl⟩
  have hb1 : Below w.heap.size w W1 := by rw [hW1]; exact ((Below.refl _ _).alloc (Nat.le_refl _) _).alloc (by simp) _
  have hs1 : W1.heap.size = w.heap.size + 2 := by rw [hW1]; simp
  have x1 : Bx (w.heap.size + 1) [.slice (some ⟨gv, 0, none⟩) n cv, .slice (some ⟨gr, 0, none⟩) n cr] W1 := by
    rw [hW1]
    have h1 := Bx.start (w.alloc (.cells #[.slice A n c] 25)) #[.slice (some ⟨gv, 0, none⟩) n cv, .slice (some ⟨gr, 0, none⟩) n cr] 29
    simpa only [World.size_alloc] using h1
  obtain ⟨A0, m0, c0, a1, a2, a3⟩ := hW.at_ 0 (by omega)
  rw [hU] at a1
  cases a1
  have hgv : gv < w.heap.size := (a3.lt _ rfl).2
  have hgr : gr < w.heap.size := (hW.top.lt _ rfl).2
  have hne : gv ≠ gr := fun h => (blocks_ne hW.top a3 ints_ne_int.symm).elim (fun h1 => by simp [Value.ownBlock] at h1) fun h1 => h1 (by rw [h]; rfl)
  have hI : IS w w.heap.size (some ⟨gv, 0, none⟩) vs := ints_of_own hm (by simpa [rowOf] using a3)
  have HRUN := Lib.hid (impl_runOf A (some ⟨gv, 0, none⟩) n c n cv gs vs i W1 w.heap.size (by omega) hn hm (hg.below hb1 (Nat.le_refl _)) (hI.below hb1 (Nat.le_refl _)) hvg hl hr hi)
  rw [hW1] at HRUN
  have c1 := (hW.cell i hi).1
  have f1 := (hW.cell i hi).2
  obtain ⟨A8, m8, c8, z8, -, -⟩ := hW.reads i hi
  have z0 : w.cell? ⟨gv, i, none⟩ = some (.int .i64 (vs.getD i 0)) := by
    rw [a3.cellAt i (by omega)]
    have hil : i < vs.length := by omega
    simp [rowOf, List.getD, hil]
  have f0 := a3.frozenAt i
  have HW1 := Lib.hid hW1
  have HB1 := Lib.hid hb1
  have X1 := Lib.hid x1
  obtain ⟨X, hX⟩ : ∃ X, X = valE gs vs i := ⟨_, rfl⟩
  obtain ⟨D, hD⟩ : ∃ D, D = depF gs vs i := ⟨_, rfl⟩
  obtain ⟨z, hz⟩ : ∃ z, z = vs.getD i 0 := ⟨_, rfl⟩
  rw [← hX, ← hD] at HRUN
  rw [← hX, ← hD, ← hz]
  rw [← hz] at z0
  have Z0 := Lib.hid z0
  have Z8 := Lib.hid z8
  have F0 := Lib.hid f0
  have F1 := Lib.hid f1
  clear hm a2 hX hD hz hW1 hb1 x1 a3 hI c1 z0 z8 f0 f1 hg hW hr hl hvg hn hU
  go_enter Tryz.func38, Tryz.ntmps38
  go_wp2_with fail
  refine HRUN.out.mono ?_
  rw [← HW1.out]
  rintro e w2 ⟨v, rfl, ho, hb⟩
  obtain ⟨Ad, cd, rfl, -⟩ := ho.form
  have x2 := X1.out.step hb
  have q0 := x2.c 0 _ rfl
  have q1 := x2.c 1 _ rfl
  have hb2 : Below w.heap.size w w2 := HB1.out.trans (hb.mono (by omega))
  have p8 := (hb2.cell (p := ⟨gr, i, none⟩) hgr).trans Z8.out
  have g8 := (hb2.frozen (p := ⟨gr, i, none⟩) hgr).trans F1.out
  have p0 := (hb2.cell (p := ⟨gv, i, none⟩) hgv).trans Z0.out
  have g0 := (hb2.frozen (p := ⟨gv, i, none⟩) hgv).trans F0.out
  have hs2 : w.heap.size + 2 ≤ w2.heap.size := by have := hb.size; omega
  have HB2 := Lib.hid hb2
  have HD2 : Hid (w2.ownsRow w.heap.size 3 1 (.slice Ad D.length cd) D.length (D.map (Value.int .i64))) := own_mono ho (by omega)
  have hgr2 : gr < w2.heap.size := by omega
  clear ho hb x2 hb2 X1 HRUN
  have HSV := Lib.hid (impl_setValue gv n cv i (some ⟨gr, 0, none⟩) n cr z X (w2.setCell ⟨gr, i, none⟩ (.slice Ad D.length cd)) hi (by simp [World.setCell]; omega) ((World.cell?_setCell_other _ _ _ _ (by simp)).trans p0) ((World.frozen?_setCell _ _ _ _).trans g0))
  have q0' : (w2.setCell ⟨gr, i, none⟩ (.slice Ad D.length cd)).cell? ⟨w.heap.size + 1, 0, none⟩ = some (.slice (some ⟨gv, 0, none⟩) n cv) := (World.cell?_setCell_other _ _ _ _ (by simp; try omega)).trans q0
  have q1' : (w2.setCell ⟨gr, i, none⟩ (.slice Ad D.length cd)).cell? ⟨w.heap.size + 1, 1, none⟩ = some (.slice (some ⟨gr, 0, none⟩) n cr) := (World.cell?_setCell_other _ _ _ _ (by simp; try omega)).trans q1
  clear p0 g0
  go_wp2_with fail
  refine HSV.out.mono ?_
  rintro e w3 ⟨rfl, rfl⟩
  go_wp2
  go_ret
  exact ⟨w2, Ad, cd, _, by first | rfl | trivial, HB2.out, HD2.out, by first | rfl | trivial⟩

/-- The array that says which nodes changed. -/
structure AR (b : Nat) (f : Nat → Bool) (w : World) : Prop where
  lt : b < w.heap.size
  c : ∀ j, j < 10 → w.cell? ⟨b, j, none⟩ = some (.bool (f j))
  z : ∀ j, w.frozen? ⟨b, j, none⟩ = false
  t : Tg b 65 w
section
variable {b : Nat} {f g : Nat → Bool} {w w' : World}
theorem AR.keepB (h : AR b f w) (e : w'.heap[b]? = w.heap[b]?) (hs : w.heap.size ≤ w'.heap.size) : AR b f w' :=
  ⟨Nat.lt_of_lt_of_le h.lt hs, fun j hj => (World.cell?_of_block (w := w) (a := ⟨b, j, none⟩) e).trans (h.c j hj), fun j => (World.frozen?_of_block (w := w) (a := ⟨b, j, none⟩) e).trans (h.z j), h.t.keep e⟩
theorem AR.step (h : AR b f w) (hb : Below w.heap.size w w') : AR b f w' := h.keepB (hb.block b h.lt) hb.size
theorem AR.grown {row : Option Nat} (h : AR b f w) (hg : w.grownBy w' row) (hr : row ≠ some b) : AR b f w' := h.keepB (hg.block b h.lt fun e => hr e.symm) hg.size
theorem AR.other (h : AR b f w) {a : Addr} (ha : a.block ≠ b) (u : Value) : AR b f (w.setCell a u) :=
  ⟨by simpa [World.setCell] using h.lt, fun j hj => (World.cell?_setCell_other _ _ _ _ (by intro e; apply ha; rw [e])).trans (h.c j hj), fun j => (World.frozen?_setCell _ _ _ _).trans (h.z j), h.t.set _ _⟩
theorem AR.put (h : AR b f w) {k : Nat} (hk : k < 10) (v : Bool) (hg : ∀ j, j < 10 → g j = if j = k then v else f j) : AR b g (w.setCell ⟨b, k, none⟩ (.bool v)) := by
  refine ⟨by simpa [World.setCell] using h.lt, fun j hj => ?_, fun j => (World.frozen?_setCell _ _ _ _).trans (h.z j), h.t.set _ _⟩
  rw [hg j hj]
  by_cases e : j = k
  · subst e
    rw [if_pos rfl]
    exact World.cell?_setCell_same _ _ _ (h.c j hj)
  · rw [if_neg e]
    exact (World.cell?_setCell_other _ _ _ _ (by simp; try omega)).trans (h.c j hj)
theorem AR.new (w : World) : AR w.heap.size (fun _ => false) (w.alloc (.cells #[.bool false, .bool false, .bool false, .bool false, .bool false, .bool false, .bool false, .bool false, .bool false, .bool false] 65)) := by
  have h := Bx.start w #[.bool false, .bool false, .bool false, .bool false, .bool false, .bool false, .bool false, .bool false, .bool false, .bool false] 65
  refine ⟨h.lt, fun j hj => h.c j _ ?_, h.f, Tg.new _ _ _ _⟩
  have : j = 0 ∨ j = 1 ∨ j = 2 ∨ j = 3 ∨ j = 4 ∨ j = 5 ∨ j = 6 ∨ j = 7 ∨ j = 8 ∨ j = 9 := by omega
  rcases this with rfl | rfl | rfl | rfl | rfl | rfl | rfl | rfl | rfl | rfl <;> rfl
theorem impl_changedAt {q : Nat} (h : AR b f w) (hq : q < 10) :
    Calls Tryz.prog 37 #[.int .i64 q, .pointer (some ⟨b, 0, none⟩)] w fun e w' => e = .returned (.bool (f q)) ∧ w' = w := by
  have hc := h.c q hq
  clear h
  generalize f q = r at *
  go_enter Tryz.func37, Tryz.ntmps37
  go_wp2
  go_ret
  exact ⟨rfl, by first | rfl | trivial⟩
end
end Go.Proofs.YtgakgmkonmgblaaGreat
