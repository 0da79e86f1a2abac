/- spec.spoil: the nodes behind a node are marked in place. -/
import Derived.Test.YtlcpgbbpjnkihaaGreatT26
import Derived.Test.YtlcpgbbpjnkihaaGreatL2
import Derived.Maps.AppendAt
import Derived.Deep.RegionHeld3

namespace Go.Proofs.YtlcpgbbpjnkihaaGreat
set_option linter.unusedSimpArgs false
set_option linter.unusedVariables false
open Go.RowKit

theorem Frm.grown {g : Nat} {w w1 w2 : World} {row : Option Nat} (h : Frm g w w1) (hg : w1.grownBy w2 row) (hr : ∀ r, row = some r → w.heap.size ≤ r) : Frm g w w2 :=
  ⟨hg.os.trans h.os, hg.tape.trans h.tape, hg.output.trans h.output, Nat.le_trans h.size hg.size, fun k hk hkg => (hg.block k (Nat.lt_of_lt_of_le hk h.size) (fun e => by have := hr k e.symm; omega)).trans (h.block k hk hkg)⟩

set_option maxRecDepth 100000 in
set_option maxHeartbeats 3200000 in
theorem spec_spoil (A Av : Option Addr) (n c nv cv gr gc cr cc : Nat) (gs : List Nd) (U : List Value) (vs cs rn : List Int) (rs : List (List Int)) (k : Nat) (w : World) (B : Nat) (hB : B ≤ w.heap.size) (hn : n = gs.length) (hn10 : n ≤ 10) (hi0 : Nat) (hH : hi0 ≤ w.heap.size) (hW : WQ B hi0 (some ⟨gr, 0, none⟩) cr n U vs cs rn rs w) (hU1 : U[1]? = some (.slice (some ⟨gc, 0, none⟩) n cc)) (hcl : cs.length = n) (hk : k < n) (hc : ∀ i, 0 ≤ cs.getD i 0 ∧ cs.getD i 0 ≤ 2) (hrl : ∀ j, (rs.getD j []).length ≤ 2000000) :
    Calls Tryz.prog 62 #[.agg #[.slice A n c], .agg #[.slice Av nv cv, .slice (some ⟨gr, 0, none⟩) n cr, .slice (some ⟨gc, 0, none⟩) n cc], .int .i64 k] w fun e w' => e = .returned (.tuple #[]) ∧ WQ B hi0 (some ⟨gr, 0, none⟩) cr n U vs (spoF rs cs k 2) rn rs w' ∧ Frm gc w w' := by
  obtain ⟨i0, hi, hz0, hz1, hz2⟩ := info_parts info_int
  obtain ⟨W2, hW2⟩ : ∃ W, W = (w.alloc (.cells #[.slice A n c] 36)).alloc (.cells #[.slice Av nv cv, .slice (some ⟨gr, 0, none⟩) n cr, .slice (some ⟨gc, 0, none⟩) n cc] 31) := ⟨_, rfl⟩
  have hb2 : Below w.heap.size w W2 := by rw [hW2]; exact ((Below.refl _ _).alloc (Nat.le_refl _) _).alloc (by simp) _
  have hs2 : W2.heap.size = w.heap.size + 2 := by rw [hW2]; simp
  have HX2 : Hid (Bx w.heap.size [.slice A n c] W2) := by rw [hW2]; exact (Bx.start w #[.slice A n c] _).alloc _
  have HY2 : Hid (Bx (w.heap.size + 1) [.slice Av nv cv, .slice (some ⟨gr, 0, none⟩) n cr, .slice (some ⟨gc, 0, none⟩) n cc] W2) := by
    rw [hW2]
    have h1 := Bx.start (w.alloc (.cells #[.slice A n c] 36)) #[.slice Av nv cv, .slice (some ⟨gr, 0, none⟩) n cr, .slice (some ⟨gc, 0, none⟩) n cc] 31
    simp only [World.size_alloc] at h1
    exact h1
  have HQ2 : Hid (WQ B hi0 (some ⟨gr, 0, none⟩) cr n U vs (spoT rs cs k 2 0) rn rs W2) := hW.keep fun q _ hq => hb2.block q (by omega)
  have hgc : gc < w.heap.size := by
    obtain ⟨A', m', c', a1, a2, a3⟩ := (hW.f hH).at_ 1 (by omega)
    rw [hU1] at a1
    cases a1
    exact (a3.lt _ rfl).2
  have hrn : n = rs.length := hW.rl
  have HFW : Hid (Frm gc w W2) := Frm.of_below hb2 (Nat.le_refl _)
  have HN := Lib.hid hn
  have HU1 := Lib.hid hU1
  have HCL := Lib.hid hcl
  have HRN := Lib.hid hrn
  have HS2 := Lib.hid hs2
  have hs2a : w.heap.size + 2 ≤ W2.heap.size := by omega
  have hs2b : W2.heap.size ≤ w.heap.size + 2 := by omega
  clear hW hn hU1 hcl hb2 hrn hs2
  go_enter Tryz.func62, Tryz.ntmps62
  go_upto_region 1 with fail
  rw [← hW2]
  clear hW2
  go_wp2
  go_loopw [6, 7] (fun mv iv wr => ∃ j : Nat, k + 1 + j ≤ n ∧ iv = .int .i64 ((k + 1 + j : Nat) : Int) ∧ Hid (OwnI wr W2.heap.size mv (metTo rs k j)) ∧ Hid (WQ B hi0 (some ⟨gr, 0, none⟩) cr n U vs (spoT rs cs k 2 j) rn rs wr) ∧ Hid (Frm gc W2 wr)) (fun _ iv _ => n - (intOf iv).toNat)
  case atStart =>
    have hb3 : Below W2.heap.size W2 (W2.alloc (.cells #[.int .i64 k] 3)) := (Below.refl _ _).alloc (Nat.le_refl _) _
    refine ⟨0, by omega, by go_num, ?_, HQ2.out.keep fun q _ hq => hb3.block q (by omega), Frm.of_below hb3 (Nat.le_refl _)⟩
    have := World.ownsRow_lit (e := 3) (size := 1) (base := W2.heap.size) W2 #[.int .i64 k] 1 (Nat.le_refl _) (by unfold maxLen; omega) (by simp)
    simpa [OwnI, Hid, metTo] using this
  case round =>
    obtain ⟨j, hjj0, rfl, HM, HF, HFR⟩ := hrel
    have hwr : W2.heap.size ≤ wr.heap.size := HFR.out.size
    have x0 := (HX2.out.frm HFR.out (by omega)).c 0 _ rfl
    have y1 := (HY2.out.frm HFR.out (by omega)).c 1 _ rfl
    have y2 := (HY2.out.frm HFR.out (by omega)).c 2 _ rfl
    by_cases hlt : k + 1 + j < n
    · have HST : Hid (spoT rs cs k 2 (j + 1) = if (k : Int) ∈ rs.getD (k + 1 + j) [] then (spoT rs cs k 2 j).set (k + 1 + j) (max (cs.getD (k + 1 + j) 0) 2) else if meetB (rs.getD (k + 1 + j) []) (metTo rs k j) then (spoT rs cs k 2 j).set (k + 1 + j) (max (cs.getD (k + 1 + j) 0) 1) else spoT rs cs k 2 j) := rfl
      have HMT : Hid (metTo rs k (j + 1) = if meetB (rs.getD (k + 1 + j) []) (metTo rs k j) then metTo rs k j ++ [((k + 1 + j : Nat) : Int)] else metTo rs k j) := rfl
      have HMN := Lib.hid fun (l : List Int) (h : (k : Int) ∈ l) => meet_of_n (rs := rs) (n := k) j h
      have hml := metTo_len (rs := rs) (n := k) j
      have hsg := spoT_get (rs := rs) (cs := cs) (n := k) (col := 2) j (k + 1 + j) (Nat.le_refl _)
      have hci := hc (k + 1 + j)
      have hll := hrl (k + 1 + j)
      have hF := HF.out.f (by omega)
      obtain ⟨A1, m1, c1, r0, hm1, hI1⟩ := hF.reads (k + 1 + j) (by omega)
      obtain ⟨A2, m2, c2, a1, a2, a3⟩ := hF.at_ 1 (by omega)
      rw [HU1.out] at a1
      cases a1
      have z0 : wr.cell? ⟨gc, k + 1 + j, none⟩ = some (.int .i64 (cs.getD (k + 1 + j) 0)) := by
        rw [a3.cellAt (k + 1 + j) (by omega), ← hsg]
        have hil : k + 1 + j < (spoT rs cs k 2 j).length := by rw [spoT_len, HCL.out]; exact hlt
        simp [rowOf, List.getD, hil]
      have f0 := a3.frozenAt (k + 1 + j)
      have HSET := Lib.hid fun x : Int => HF.out.setC (q := k + 1 + j) (by omega) HU1.out x
      have HGS := Lib.hid fun x : Int => (a3.stored (k + 1 + j) (.int .i64 x)).2
      have hdj : n - (k + 1 + (j + 1)) < n - (k + 1 + j) := by omega
      have hj1 : k + 1 + (j + 1) ≤ n := by omega
      generalize hie : k + 1 + j = i at *
      have HIE := Lib.hid hie
      clear hie
      have HM1 := Lib.hid hm1
      have HI1 := Lib.hid hI1
      obtain ⟨A4, c4, hv4, hI4⟩ := HM.out.form
      subst hv4
      have HMR := HM.out
      unfold OwnI at HMR
      generalize rs.getD i [] = L at *
      generalize cs.getD i 0 = z at *
      generalize metTo rs k j = M at *
      generalize spoT rs cs k 2 j = CT at *
      generalize hmm : M.length = mm at *
      have HMM := Lib.hid hmm
      have HI4 := Lib.hid hI4
      have HMR := Lib.hid HMR
      clear hm1 hI1 a2 a3 hF hc hrl hmm hI4
      go_wp2_with fail
      refine (spec_placeIn A1 m1 c1 L (k : Int) wr wr.heap.size (Nat.le_refl _) HM1.out HI1.out (by have := HM1.out; omega)).mono ?_
      rintro e w3 ⟨rfl, rfl⟩
      have hpl := plc_ge L (k : Int)
      generalize plc L (k : Int) = p0 at *
      by_cases hin : (k : Int) ∈ L
      · rw [decide_eq_true hin] at hpl
        have hp0 : (0 : Int) ≤ p0 := of_decide_eq_true hpl
        have HSTE : Hid (spoT rs cs k 2 (j + 1) = CT.set i 2) := by rw [HST.out, if_pos hin, Int.max_eq_right (by omega)]; exact rfl
        have HMTE : Hid (metTo rs k (j + 1) = M ++ [(i : Int)]) := by rw [HMT.out, HMN.out L hin, if_pos rfl]; exact rfl
        obtain ⟨W5, hW5⟩ : ∃ W, W = wr.setCell ⟨gc, i, none⟩ (.int .i64 2) := ⟨_, rfl⟩
        have hsz5 : W5.heap.size = wr.heap.size := by rw [hW5]; simp [World.setCell]
        have hsz5a : W2.heap.size ≤ W5.heap.size := by omega
        have HR5 : Hid (W5.ownsRow W2.heap.size 3 1 (.slice A4 mm c4) mm (M.map (Value.int .i64))) := by rw [hW5]; exact HMR.out.kept (HGS.out 2) (.inr fun e => by have := (HMR.out.lt gc e).1; omega)
        have HQ5 : Hid (WQ B hi0 (some ⟨gr, 0, none⟩) cr n U vs (CT.set i 2) rn rs W5) := by rw [hW5]; exact HSET.out 2
        have HF5 : Hid (Frm gc W2 W5) := by rw [hW5]; exact HFR.out.trans (Frm.set _ _ _ _)
        clear hin hpl HST HMT HMN HM HMR HI4 HI1 hsz5 HF HSET HGS HFR
        go_upto_region 7 with fail
        rw [← hW5]
        clear hW5 z0 f0 r0 x0 y1 y2
        have HR6 := Lib.hid (own_below HR5.out ((Below.refl W5.heap.size W5).alloc (Nat.le_refl _) (.cells #[.int .i64 (i : Int)] 3)))
        go_wp2_with (at_builtin; refine wpList_append_own_at _ rfl _ _ 25 rfl W2.heap.size 3 i0 (.int .i64 0) 1 8 Tryz.underlying25 hi hz0 hz1 hz2 rfl (by decide) _ _ _ rfl HR6.out ⟨W5.heap.size, 0, none⟩ 1 1 [.int .i64 (i : Int)] rfl rfl (cell_one_new W5 _ _) (by intro u hu; obtain rfl := List.mem_singleton.1 hu; rfl) (by unfold maxLen; omega) (by omega) (by simp; omega) ?_)
        intro v6 W6 hown6 hgr6 _ hbl6
        have hb5 : Below W5.heap.size W5 (W5.alloc (.cells #[.int .i64 (i : Int)] 3)) := (Below.refl _ _).alloc (Nat.le_refl _) _
        have hlt6 := HR6.out.lt
        have HF6 := Lib.hid ((HF5.out.trans (Frm.of_below hb5 (Nat.le_refl _))).grown hgr6 (fun r e => (hlt6 r e).1))
        have HQ6 : Hid (WQ B hi0 (some ⟨gr, 0, none⟩) cr n U vs (spoT rs cs k 2 (j + 1)) rn rs W6) := by
          rw [HSTE.out]
          refine (HQ5.out.keep (w' := W5.alloc (.cells #[.int .i64 (i : Int)] 3)) fun q _ hq => hb5.block q (by omega)).keep fun q _ hq => hgr6.block q (by simp; omega) (fun e => by have := (hlt6 q e.symm).1; omega)
        have HM6 : Hid (OwnI W6 W2.heap.size v6 (metTo rs k (j + 1))) := by
          rw [HMTE.out]
          have h := hown6
          unfold OwnI Hid
          rw [List.length_append, HMM.out, List.map_append]
          exact h
        clear hown6 hgr6 hbl6 hlt6 hb5 HR5 HR6 HQ5 HF5
        go_wp2
        go_roundw
        case rel => exact ⟨j + 1, hj1, by have := HIE.out; rw [show ((k + 1 + (j + 1) : Nat) : Int) = (i : Int) + 1 by omega]; (try go_num), HM6.out, HQ6.out, HF6.out⟩
        case measure => have := HIE.out; simp [intOf]; omega
      · rw [decide_eq_false hin] at hpl
        have hp0 : ¬ (0 : Int) ≤ p0 := of_decide_eq_false hpl
        have HST1 : Hid (spoT rs cs k 2 (j + 1) = if meetB L M then CT.set i (max z 1) else CT) := by rw [HST.out, if_neg hin]; exact rfl
        have HME := Lib.hid (spec_meets A1 A4 m1 mm c1 c4 L M wr wr.heap.size (Nat.le_refl _) HM1.out HMM.out.symm HI1.out HI4.out (by have := HM1.out; omega) (by omega))
        generalize meetB L M = mb at *
        clear hin hpl HST HMN HI1 HI4
        go_wp2_with fail
        refine HME.out.mono ?_
        rintro e w4 ⟨rfl, hb4⟩
        have hw4 : W2.heap.size ≤ w4.heap.size := by have := hb4.size; omega
        have HQ4 := Lib.hid (HF.out.keep (w' := w4) fun q _ hq => hb4.block q (by omega))
        have HF4 : Hid (Frm gc W2 w4) := HFR.out.trans (Frm.of_below hb4 (Nat.le_refl _))
        have HM4 := Lib.hid (own_below HMR.out hb4)
        have hgc4 : gc < wr.heap.size := by omega
        have z4 := (hb4.cell (p := ⟨gc, i, none⟩) hgc4).trans z0
        have f4 := (hb4.frozen (p := ⟨gc, i, none⟩) hgc4).trans f0
        have y4 := (hb4.cell (p := ⟨w.heap.size + 1, 2, none⟩) (by show w.heap.size + 1 < wr.heap.size; omega)).trans y2
        clear hb4 HME HF HSET HGS HFR HM HMR x0 y1 y2 z0 f0 r0
        cases mb
        · have HSTE : Hid (spoT rs cs k 2 (j + 1) = CT) := HST1.out
          have HMTE : Hid (metTo rs k (j + 1) = M) := HMT.out
          go_wp2
          go_roundw
          case rel => exact ⟨j + 1, hj1, by have := HIE.out; rw [show ((k + 1 + (j + 1) : Nat) : Int) = (i : Int) + 1 by omega]; (try go_num), by rw [HMTE.out]; unfold OwnI Hid; rw [HMM.out]; exact HM4.out, by rw [HSTE.out]; exact HQ4.out, HF4.out⟩
          case measure => have := HIE.out; simp [intOf]; omega
        · have HSTE : Hid (spoT rs cs k 2 (j + 1) = CT.set i (max z 1)) := HST1.out
          have HMTE : Hid (metTo rs k (j + 1) = M ++ [(i : Int)]) := HMT.out
          go_upto_region 9 with fail
          go_region
          obtain ⟨mz, hmz⟩ : ∃ m, m = max z 1 := ⟨_, rfl⟩
          have hmx : (if z < 1 then 1 else z) = mz := by rw [hmz]; split <;> omega
          rw [hmx]
          rw [← hmz] at HSTE
          obtain ⟨W5, hW5⟩ : ∃ W, W = (w4.setCell ⟨gc, i, none⟩ (.int .i64 mz)).drew := ⟨_, rfl⟩
          rw [← hW5]
          have hsz5 : W5.heap.size = w4.heap.size := by rw [hW5]; simp [World.setCell, World.drew]
          have hsz5a : W2.heap.size ≤ W5.heap.size := by omega
          have HST5 : Hid (w4.grownBy (w4.setCell ⟨gc, i, none⟩ (.int .i64 mz)) (some gc)) := by
            obtain ⟨A2, m2, c2, a1, a2, a3⟩ := (HQ4.out.f (by omega)).at_ 1 (by omega)
            rw [HU1.out] at a1
            cases a1
            exact (a3.stored i (.int .i64 mz)).2
          have HR5 : Hid (W5.ownsRow W2.heap.size 3 1 (.slice A4 mm c4) mm (M.map (Value.int .i64))) := by rw [hW5]; exact own_below (HM4.out.kept HST5.out (.inr fun e => by have := (HM4.out.lt gc e).1; omega)) (Below.refl _ _).drew
          have HQ5 : Hid (WQ B hi0 (some ⟨gr, 0, none⟩) cr n U vs (CT.set i mz) rn rs W5) := by rw [hW5]; exact (HQ4.out.setC (by omega) HU1.out mz).keep fun q _ hq => rfl
          have HF5 : Hid (Frm gc W2 W5) := by rw [hW5]; exact (HF4.out.trans (Frm.set _ _ _ _)).trans (Frm.of_below (Below.refl _ _).drew (Nat.le_refl _))
          clear HST1 HMT HST5 hsz5 HQ4 HF4 HM4 z4 f4 y4 hW5 hmx hmz
          have HR6 := Lib.hid (own_below HR5.out ((Below.refl W5.heap.size W5).alloc (Nat.le_refl _) (.cells #[.int .i64 (i : Int)] 3)))
          go_wp2_with (at_builtin; refine wpList_append_own_at _ rfl _ _ 25 rfl W2.heap.size 3 i0 (.int .i64 0) 1 8 Tryz.underlying25 hi hz0 hz1 hz2 rfl (by decide) _ _ _ rfl HR6.out ⟨W5.heap.size, 0, none⟩ 1 1 [.int .i64 (i : Int)] rfl rfl (cell_one_new W5 _ _) (by intro u hu; obtain rfl := List.mem_singleton.1 hu; rfl) (by unfold maxLen; omega) (by omega) (by simp; omega) ?_)
          intro v6 W6 hown6 hgr6 _ hbl6
          have hb5 : Below W5.heap.size W5 (W5.alloc (.cells #[.int .i64 (i : Int)] 3)) := (Below.refl _ _).alloc (Nat.le_refl _) _
          have hlt6 := HR6.out.lt
          have HF6 := Lib.hid ((HF5.out.trans (Frm.of_below hb5 (Nat.le_refl _))).grown hgr6 (fun r e => (hlt6 r e).1))
          have HQ6 : Hid (WQ B hi0 (some ⟨gr, 0, none⟩) cr n U vs (spoT rs cs k 2 (j + 1)) rn rs W6) := by
            rw [HSTE.out]
            refine (HQ5.out.keep (w' := W5.alloc (.cells #[.int .i64 (i : Int)] 3)) fun q _ hq => hb5.block q (by omega)).keep fun q _ hq => hgr6.block q (by simp; omega) (fun e => by have := (hlt6 q e.symm).1; omega)
          have HM6 : Hid (OwnI W6 W2.heap.size v6 (metTo rs k (j + 1))) := by
            rw [HMTE.out]
            have h := hown6
            unfold OwnI Hid
            rw [List.length_append, HMM.out, List.map_append]
            exact h
          clear hown6 hgr6 hbl6 hlt6 hb5 HR5 HR6 HQ5 HF5
          go_wp2
          go_roundw
          case rel => exact ⟨j + 1, hj1, by have := HIE.out; rw [show ((k + 1 + (j + 1) : Nat) : Int) = (i : Int) + 1 by omega]; (try go_num), HM6.out, HQ6.out, HF6.out⟩
          case measure => have := HIE.out; simp [intOf]; omega
    · have hjn : k + 1 + j = n := by omega
      have hjj : j = rs.length - (k + 1) := by have := HRN.out; omega
      have HQE : Hid (WQ B hi0 (some ⟨gr, 0, none⟩) cr n U vs (spoF rs cs k 2) rn rs wr) := by unfold spoF; rw [← hjj]; exact HF.out
      have HFE : Hid (Frm gc w wr) := HFW.out.trans HFR.out
      clear hc hrl HF HM hjj
      rw [hjn] at *
      go_wp2
      go_end0
      exact ⟨rfl, HQE.out, HFE.out⟩
end Go.Proofs.YtlcpgbbpjnkihaaGreat
