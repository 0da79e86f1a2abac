/- impl's markBehind and setValue of a lazy machine. -/
import Derived.Test.YtlcpgbbpjnkihaaGreatT26
import Derived.Test.YtlcpgbbpjnkihaaGreatL6
import Derived.Test.YtlcpgbbpjnkihaaGreatT45
import Derived.Test.YtlcpgbbpjnkihaaGreatM48
import Derived.Deep.RegionHeld3

namespace Go.Proofs.YtlcpgbbpjnkihaaGreat
set_option linter.unusedSimpArgs false
set_option linter.unusedVariables false
open Go.RowKit

theorem Frm.hi {g b j : Nat} {w w1 : World} (h : Frm g w w1) (hb : w.heap.size ≤ b) (v : Value) : Frm g w (w1.setCell ⟨b, j, none⟩ v) :=
  ⟨by simpa [World.setCell] using h.os, by simpa [World.setCell] using h.tape, by simpa [World.setCell] using h.output, by simpa [World.setCell] using h.size, fun k hk hg => (Below.heap_setCell _ _ _ _ (by simp; omega)).trans (h.block k hk hg)⟩
theorem WQ.reads {B hi gr n cr : Nat} {U : List Value} {vs ch rn : List Int} {rs : List (List Int)} {w : World} (h : WQ B hi (some ⟨gr, 0, none⟩) cr n U vs ch rn rs w) (hh : hi ≤ w.heap.size) (j : Nat) (hj : j < n) : ∃ A m c, w.cell? ⟨gr, j, none⟩ = some (.slice A m c) ∧ m = (rs.getD j []).length ∧ IS w hi A (rs.getD j []) := by
  have hul := h.ul
  obtain ⟨A, m, c, e1, e2, e3⟩ := h.fam.row (j + 3) (by omega)
  have e3' : OwR B hi 3 1 (.slice A m c) m ((rs.getD j []).map (Value.int .i64)) w := by simpa [rowOf] using e3
  exact ⟨A, m, c, ((h.f hh).cell j hj).1.trans e1, by rw [e2]; simp [lenOf], e3'.ints⟩
theorem impl_reachedAt {b q : Nat} {f : Nat → Bool} {w : World} (h : AR b f w) (hq : q < 10) :
    Calls Tryz.prog 73 #[.int .i64 q, .pointer (some ⟨b, 0, none⟩)] w fun e w' => e = .returned (.bool (f q)) ∧ w' = w := by
  have hc := h.c q hq
  clear h
  generalize f q = r at *
  go_enter Tryz.func73, Tryz.ntmps73
  go_wp2
  go_ret
  exact ⟨rfl, by first | rfl | trivial⟩

set_option maxRecDepth 100000 in
set_option maxHeartbeats 3200000 in
theorem impl_markBehind (mb : Nat) (Ag Av Ar : Option Addr) (ng cg nv cv lr dr n gr gc cr cc : Nat) (U : List Value) (vs cs rn : List Int) (rs : List (List Int)) (k : Nat) (col : Int) (w : World) (B : Nat) (hB : B ≤ w.heap.size) (hn10 : n ≤ 10) (hi0 : Nat) (hH : hi0 ≤ w.heap.size) (hW : WQ B hi0 (some ⟨gr, 0, none⟩) cr n U vs cs rn rs w) (hU1 : U[1]? = some (.slice (some ⟨gc, 0, none⟩) n cc)) (hcl : cs.length = n) (hk : k < n) (hah : ∀ i, i < n → ∀ x ∈ rs.getD i [], 0 ≤ x ∧ x < i) (hrl : ∀ j, (rs.getD j []).length ≤ 2000000)
    (hmb : Bx mb [.slice Ag ng cg, .slice Av nv cv, .slice (some ⟨gr, 0, none⟩) n cr, .slice (some ⟨gc, 0, none⟩) n cc, .slice Ar lr dr] w) (hne : mb ≠ gc) :
    Calls Tryz.prog 53 #[.pointer (some ⟨mb, 0, none⟩), .int .i64 k, .int .i64 col] w fun e w' => e = .returned (.tuple #[]) ∧ WQ B hi0 (some ⟨gr, 0, none⟩) cr n U vs (spoF rs cs k col) rn rs w' ∧ Frm gc w w' := by
  obtain ⟨W1, hW1⟩ : ∃ W, W = w.alloc (.cells #[.bool false, .bool false, .bool false, .bool false, .bool false, .bool false, .bool false, .bool false, .bool false, .bool false] 98) := ⟨_, rfl⟩
  obtain ⟨W2, hW2⟩ : ∃ W, W = W1.setCell ⟨w.heap.size, k, none⟩ (.bool true) := ⟨_, rfl⟩
  have hb1 : Below w.heap.size w W1 := by rw [hW1]; exact (Below.refl _ _).alloc (Nat.le_refl _) _
  have hA1 : AR w.heap.size (fun _ => false) W1 := by rw [hW1]; exact AR.new w
  have HA2 : Hid (AR w.heap.size (fun q => decide ((q : Int) ∈ metTo rs k 0)) W2) := by
    rw [hW2]
    refine hA1.put (by omega) true fun j _ => ?_
    by_cases e : j = k
    · rw [if_pos e, e]; simp [metTo]
    · rw [if_neg e]; simp [metTo]; omega
  have HF2 : Hid (Frm gc w W2) := by rw [hW2]; exact (Frm.of_below hb1 (Nat.le_refl _)).hi (Nat.le_refl _) _
  have HQ2 : Hid (WQ B hi0 (some ⟨gr, 0, none⟩) cr n U vs (spoT rs cs k col 0) rn rs W2) := hW.keep fun q _ hq => by
    rw [hW2]
    exact (Below.heap_setCell _ _ _ _ (by simp; omega)).trans (hb1.block q (by omega))
  have hF := hW.f hH
  have hgc : gc < w.heap.size := by
    obtain ⟨A', m', c', a1, a2, a3⟩ := hF.at_ 1 (by omega)
    rw [hU1] at a1
    cases a1
    exact (a3.lt _ rfl).2
  have hgr : gr < w.heap.size := (hF.top.lt _ rfl).2
  have hrn : n = rs.length := hW.rl
  have HU1 := Lib.hid hU1
  have HCL := Lib.hid hcl
  have HRN := Lib.hid hrn
  have HAH := Lib.hid hah
  have HRL := Lib.hid hrl
  have HMB := Lib.hid hmb
  have x1 := (hmb.frm HF2.out hne).c 2 _ rfl
  have c1 := hA1.c k (by omega)
  have z1 := hA1.z k
  have hw2 : w.heap.size + 1 ≤ W2.heap.size := by rw [hW2, hW1]; simp [World.setCell]
  clear hW hU1 hcl hb1 hrn hah hrl hmb hA1 hF
  go_enter Tryz.func53, Tryz.ntmps53
  go_upto_region 1 with fail
  rw [← hW1]
  clear hW1
  go_upto_region 2 with fail
  rw [← hW2]
  clear hW2 c1 z1
  go_wp2
  clear x1
  go_loopw [20] (fun iv wr => ∃ i : Nat, i ≤ n ∧ iv = .int .i64 i ∧ Hid (AR w.heap.size (fun q => decide ((q : Int) ∈ metTo rs k (i - (k + 1)))) wr) ∧ Hid (WQ B hi0 (some ⟨gr, 0, none⟩) cr n U vs (spoT rs cs k col (i - (k + 1))) rn rs wr) ∧ Hid (Frm gc w wr) ∧ w.heap.size + 1 ≤ wr.heap.size) (fun iv _ => n - (intOf iv).toNat)
  case atStart => exact ⟨0, Nat.zero_le _, rfl, by rw [Nat.zero_sub]; exact HA2.out, by rw [Nat.zero_sub]; exact HQ2.out, HF2.out, hw2⟩
  case round =>
    obtain ⟨i, hi, rfl, HA, HF, HFR, hwr⟩ := hrel
    by_cases hlt : i < n
    · have y3 := (HMB.out.frm HFR.out hne).c 3 _ rfl
      have hFw := HF.out.f (by omega)
      obtain ⟨A1, m1, c1, r0, hm1, hI1⟩ := HF.out.reads (by omega) i hlt
      have hll := HRL.out i
      have hai := HAH.out i hlt
      have HM1 := Lib.hid hm1
      have HI1 := Lib.hid hI1
      have HCF := Lib.hid (slices_ContainsFuncM 73 (.pointer (some ⟨w.heap.size, 0, none⟩)) (fun q => decide (q ∈ metTo rs k (i - (k + 1)))) A1 m1 c1 (rs.getD i []) (by omega) wr (fun q w => by kernel_rfl) (fun x hx => by
        obtain ⟨x0, x1⟩ := hai x hx
        obtain ⟨q, rfl⟩ : ∃ q : Nat, x = (q : Int) := ⟨x.toNat, by omega⟩
        exact impl_reachedAt HA.out (by omega)) hm1 hi0 hI1)
      by_cases hik : i ≤ k
      · have he0 : i - (k + 1) = 0 := by omega
        have he1 : i + 1 - (k + 1) = 0 := by omega
        have hany : ((rs.getD i []).any fun q => decide (q ∈ metTo rs k (i - (k + 1)))) = false := by
          rw [List.any_eq_false]
          intro x hx
          have := hai x hx
          rw [he0]
          simp [metTo]
          omega
        rw [hany] at HCF
        rw [he0] at HA HF
        have HE1 := Lib.hid he1
        clear hany hFw hm1 hI1 hai hll he0 he1
        go_wp2_with fail
        refine HCF.out.mono ?_
        rintro e w3 ⟨rfl, rfl⟩
        go_wp2
        go_roundw
        case rel => exact ⟨i + 1, by omega, by go_num, by rw [HE1.out]; exact HA.out, by rw [HE1.out]; exact HF.out, HFR.out, hwr⟩
        case measure => simp [intOf]; omega
      · obtain ⟨j, hj⟩ : ∃ j, i = k + 1 + j := ⟨i - (k + 1), by omega⟩
        have he0 : i - (k + 1) = j := by omega
        have he1 : i + 1 - (k + 1) = j + 1 := by omega
        rw [he0] at HA HF HCF hFw
        have HST : Hid (spoT rs cs k col (j + 1) = if (k : Int) ∈ rs.getD (k + 1 + j) [] then (spoT rs cs k col j).set (k + 1 + j) (max (cs.getD (k + 1 + j) 0) col) else if meetB (rs.getD (k + 1 + j) []) (metTo rs k j) then (spoT rs cs k col j).set (k + 1 + j) (max (cs.getD (k + 1 + j) 0) 1) else spoT rs cs k col j) := rfl
        have HMT : Hid (metTo rs k (j + 1) = if meetB (rs.getD (k + 1 + j) []) (metTo rs k j) then metTo rs k j ++ [((k + 1 + j : Nat) : Int)] else metTo rs k j) := rfl
        have HMN := Lib.hid fun (l : List Int) (h : (k : Int) ∈ l) => meet_of_n (rs := rs) (n := k) j h
        have hsg := spoT_get (rs := rs) (cs := cs) (n := k) (col := col) j i (by omega)
        rw [← hj] at HST HMT
        obtain ⟨A2, m2, c2, a1, a2, a3⟩ := hFw.at_ 1 (by omega)
        rw [HU1.out] at a1
        cases a1
        have z0 : wr.cell? ⟨gc, i, none⟩ = some (.int .i64 (cs.getD i 0)) := by
          rw [a3.cellAt i (by omega), ← hsg]
          have hil : i < (spoT rs cs k col j).length := by rw [spoT_len, HCL.out]; exact hlt
          simp [rowOf, List.getD, hil]
        have f0 := a3.frozenAt i
        have HE1 := Lib.hid he1
        have HJ := Lib.hid hj
        have hmb : ((rs.getD i []).any fun q => decide (q ∈ metTo rs k j)) = meetB (rs.getD i []) (metTo rs k j) := rfl
        rw [hmb] at HCF
        generalize rs.getD i [] = L at *
        generalize cs.getD i 0 = z at *
        generalize metTo rs k j = M at *
        generalize spoT rs cs k col j = CT at *
        obtain ⟨b, hb⟩ : ∃ b, b = meetB L M := ⟨_, rfl⟩
        rw [← hb] at HCF HST HMT
        have HBB := Lib.hid hb
        clear hFw hm1 hI1 hai a2 a3 he0 he1 hj hmb hsg hb
        go_wp2_with fail
        refine HCF.out.mono ?_
        rintro e w3 ⟨rfl, rfl⟩
        cases b
        · have HKN : Hid (¬ (k : Int) ∈ L) := fun h => by have := HMN.out L h; rw [← HBB.out] at this; cases this
          have HSTE : Hid (spoT rs cs k col (j + 1) = CT) := by rw [HST.out, if_neg HKN.out]; exact rfl
          have HMTE : Hid (metTo rs k (j + 1) = M) := HMT.out
          clear HST HMT HMN
          go_wp2
          go_roundw
          case rel => exact ⟨i + 1, by omega, by go_num, by rw [HE1.out, HMTE.out]; exact HA.out, by rw [HE1.out, HSTE.out]; exact HF.out, HFR.out, hwr⟩
          case measure => simp [intOf]; omega
        · have HMTE : Hid (metTo rs k (j + 1) = M ++ [(i : Int)]) := HMT.out
          obtain ⟨W5, hW5⟩ : ∃ W, W = w3.setCell ⟨w.heap.size, i, none⟩ (.bool true) := ⟨_, rfl⟩
          have HA5 : Hid (AR w.heap.size (fun q => decide ((q : Int) ∈ M ++ [(i : Int)])) W5) := by
            rw [hW5]
            refine HA.out.put (by omega) true fun j _ => ?_
            by_cases e : j = i
            · rw [if_pos e, e]; simp
            · rw [if_neg e]
              have : ¬ (j : Int) = (i : Int) := by omega
              simp [this]
          have HF5 : Hid (Frm gc w W5) := by rw [hW5]; exact HFR.out.hi (Nat.le_refl _) _
          have HQ5 : Hid (WQ B hi0 (some ⟨gr, 0, none⟩) cr n U vs CT rn rs W5) := HF.out.keep fun q _ hq => by rw [hW5]; exact Below.heap_setCell _ _ _ _ (by simp; omega)
          have y5 := (HMB.out.frm HF5.out hne).c 3 _ rfl
          have z5 : W5.cell? ⟨gc, i, none⟩ = some (.int .i64 z) := by rw [hW5]; exact (World.cell?_setCell_other _ _ _ _ (by simp; try omega)).trans z0
          have f5 : W5.frozen? ⟨gc, i, none⟩ = false := by rw [hW5]; exact (World.frozen?_setCell _ _ _ _).trans f0
          have hs5 : w.heap.size + 1 ≤ W5.heap.size := by rw [hW5]; simpa [World.setCell] using hwr
          have HI5 : Hid (IS W5 hi0 A1 L) := HI1.out.keep fun p hp => by rw [hW5]; exact World.cell?_setCell_other _ _ _ _ (by intro e; rw [← e] at hp; exact absurd hp (by show ¬ w.heap.size < hi0; omega))
          have HCT := Lib.hid (slices_Contains A1 m1 c1 L (k : Int) W5 hi0 (by omega) HM1.out HI5.out (by have := HM1.out; omega))
          have ca := HA.out.c i (by omega)
          have fa := HA.out.z i
          have hgc5 : gc < W5.heap.size := by omega
          clear HA HFR HF HI1 HI5 z0 f0 y3 r0 HCF HMT HMN HBB
          go_upto_region 8 with fail
          rw [← hW5]
          clear hW5 ca fa
          go_wp2_with fail
          refine HCT.out.mono ?_
          rintro e w6 ⟨rfl, rfl⟩
          clear HCT
          by_cases hin : (k : Int) ∈ L
          · have HSTE : Hid (spoT rs cs k col (j + 1) = CT.set i (max z col)) := by rw [HST.out, if_pos hin]; exact rfl
            rw [decide_eq_true hin]
            clear HST hin
            go_upto_region 11 with fail
            go_region
            obtain ⟨mz, hmz⟩ : ∃ m, m = max z (col) := ⟨_, rfl⟩
            have hmx : (if z < col then col else z) = mz := by rw [hmz]; split <;> omega
            rw [hmx]
            rw [← hmz] at HSTE
            obtain ⟨W7, hW7⟩ : ∃ W, W = (W5.setCell ⟨gc, i, none⟩ (.int .i64 mz)).drew := ⟨_, rfl⟩
            rw [← hW7]
            have HQ7 : Hid (WQ B hi0 (some ⟨gr, 0, none⟩) cr n U vs (CT.set i mz) rn rs W7) := by rw [hW7]; exact (HQ5.out.setC (by omega) HU1.out mz).keep fun q _ hq => rfl
            have HF7 : Hid (Frm gc w W7) := by rw [hW7]; exact (HF5.out.trans (Frm.set _ _ _ _)).trans (Frm.of_below (Below.refl _ _).drew (Nat.le_refl _))
            have HA7 : Hid (AR w.heap.size (fun q => decide ((q : Int) ∈ M ++ [(i : Int)])) W7) := by rw [hW7]; exact (HA5.out.other (a := ⟨gc, i, none⟩) (by show gc ≠ w.heap.size; omega) _).step (Below.refl _ _).drew
            have hs7 : w.heap.size + 1 ≤ W7.heap.size := by rw [hW7]; simpa [World.setCell, World.drew] using hs5
            clear HQ5 HF5 HA5 hW7 hmx hmz y5 z5 f5
            go_wp2
            go_roundw
            case rel => exact ⟨i + 1, by omega, by go_num, by rw [HE1.out, HMTE.out]; exact HA7.out, by rw [HE1.out, HSTE.out]; exact HQ7.out, HF7.out, hs7⟩
            case measure => simp [intOf]; omega
          · have HSTE : Hid (spoT rs cs k col (j + 1) = CT.set i (max z 1)) := by rw [HST.out, if_neg hin]; exact rfl
            rw [decide_eq_false hin]
            clear HST hin
            go_upto_region 11 with fail
            go_region
            obtain ⟨mz, hmz⟩ : ∃ m, m = max z 1 := ⟨_, rfl⟩
            have hmx : (if z < 1 then 1 else z) = mz := by rw [hmz]; split <;> omega
            rw [hmx]
            rw [← hmz] at HSTE
            obtain ⟨W7, hW7⟩ : ∃ W, W = (W5.setCell ⟨gc, i, none⟩ (.int .i64 mz)).drew := ⟨_, rfl⟩
            rw [← hW7]
            have HQ7 : Hid (WQ B hi0 (some ⟨gr, 0, none⟩) cr n U vs (CT.set i mz) rn rs W7) := by rw [hW7]; exact (HQ5.out.setC (by omega) HU1.out mz).keep fun q _ hq => rfl
            have HF7 : Hid (Frm gc w W7) := by rw [hW7]; exact (HF5.out.trans (Frm.set _ _ _ _)).trans (Frm.of_below (Below.refl _ _).drew (Nat.le_refl _))
            have HA7 : Hid (AR w.heap.size (fun q => decide ((q : Int) ∈ M ++ [(i : Int)])) W7) := by rw [hW7]; exact (HA5.out.other (a := ⟨gc, i, none⟩) (by show gc ≠ w.heap.size; omega) _).step (Below.refl _ _).drew
            have hs7 : w.heap.size + 1 ≤ W7.heap.size := by rw [hW7]; simpa [World.setCell, World.drew] using hs5
            clear HQ5 HF5 HA5 hW7 hmx hmz y5 z5 f5
            go_wp2
            go_roundw
            case rel => exact ⟨i + 1, by omega, by go_num, by rw [HE1.out, HMTE.out]; exact HA7.out, by rw [HE1.out, HSTE.out]; exact HQ7.out, HF7.out, hs7⟩
            case measure => simp [intOf]; omega
    · have hin : i = n := by omega
      have hjj : i - (k + 1) = rs.length - (k + 1) := by have := HRN.out; omega
      have HQE : Hid (WQ B hi0 (some ⟨gr, 0, none⟩) cr n U vs (spoF rs cs k col) rn rs wr) := by unfold spoF; rw [← hjj]; exact HF.out
      clear HF HA hjj
      rw [hin] at *
      go_wp2
      go_end0
      exact ⟨rfl, HQE.out, HFR.out⟩
end Go.Proofs.YtlcpgbbpjnkihaaGreat
