/- impl's setValue of a lazy machine; a machine of one's own. -/
import Derived.Test.YtlcpgbbpjnkihaaGreatT26
import Derived.Test.YtlcpgbbpjnkihaaGreatL7
import Derived.Test.YtlcpgbbpjnkihaaGreatT45
import Derived.Test.YtlcpgbbpjnkihaaGreatT46
import Derived.Test.YtlcpgbbpjnkihaaGreatT49
import Derived.Test.YtlcpgbbpjnkihaaGreatM48
import Derived.Deep.RegionHeld3

namespace Go.Proofs.YtlcpgbbpjnkihaaGreat
set_option linter.unusedSimpArgs false
set_option linter.unusedVariables false
open Go.RowKit

/-- Colours that lie in new blocks. -/
theorem WF.putC {B n cr m c : Nat} {Er A : Option Addr} {U : List Value} {vs ch rn D : List Int} {rs : List (List Int)} {w w' : World} (h : WF B Er cr n U vs ch rn rs w) (hB : B ≤ w.heap.size) (hb : Below w.heap.size w w') (hd : w'.ownsRow w.heap.size 3 1 (.slice A m c) m (D.map (Value.int .i64))) (hm : m = D.length) :
    WF B Er cr n (U.set 1 (.slice A m c)) vs D rn rs w' := by
  have hul := h.ul
  have hl : lenOf (vs :: D :: rn :: rs) 1 = D.length ∧ rowOf (vs :: D :: rn :: rs) 1 = D.map (Value.int .i64) := by simp [lenOf, rowOf]
  refine ⟨by rw [List.length_set]; exact hul, h.rl, ?_, ?_⟩
  · refine (h.fam.keep (w' := w') fun q _ hq => hb.block q hq).put (hi' := w'.heap.size) 1 ?_ (fun j hj => ?_) (fun j hj _ => ?_) (by rw [hl.1]; exact hm) (fun j hj => ?_) ⟨by rw [hl.2]; exact hd, fun q hq => (hd.lt q hq).2⟩ hB hb.size
    · rw [List.getElem?_set, if_pos rfl, if_pos (by omega)]
    · rw [List.getElem?_set, if_neg (by omega)]
    · simpa using hj
    · match j, hj with
      | 0, _ => simp [lenOf, rowOf]
      | 1, hj => exact absurd rfl hj
      | j + 2, _ => simp [lenOf, rowOf]
  · have e : (U.set 1 (.slice A m c)).drop 3 = U.drop 3 := by
      refine List.ext_getElem? fun i => ?_
      rw [List.getElem?_drop, List.getElem?_drop, List.getElem?_set, if_neg (by omega)]
    rw [e]
    exact own_below h.top hb

set_option maxRecDepth 100000 in
set_option maxHeartbeats 3200000 in
theorem impl_setValueL (mb : Nat) (Ag Ar : Option Addr) (ng cg lr dr n gv cv gr gc cr cc : Nat) (U : List Value) (st : Lz) (rn : List Int) (k : Nat) (x : Int) (w : World) (B : Nat) (hB : B ≤ w.heap.size) (hn10 : n ≤ 10) (hi0 : Nat) (hH : hi0 ≤ w.heap.size) (hW : WQ B hi0 (some ⟨gr, 0, none⟩) cr n U st.vs st.cs rn st.rs w) (hU0 : U[0]? = some (.slice (some ⟨gv, 0, none⟩) n cv)) (hU1 : U[1]? = some (.slice (some ⟨gc, 0, none⟩) n cc)) (hvl : st.vs.length = n) (hcl : st.cs.length = n) (hk : k < n) (hah : ∀ i, i < n → ∀ x ∈ st.rs.getD i [], 0 ≤ x ∧ x < i) (hrl : ∀ j, (st.rs.getD j []).length ≤ 2000000)
    (hmb : Bx mb [.slice Ag ng cg, .slice (some ⟨gv, 0, none⟩) n cv, .slice (some ⟨gr, 0, none⟩) n cr, .slice (some ⟨gc, 0, none⟩) n cc, .slice Ar lr dr] w) (hne : mb ≠ gc) (hne2 : mb ≠ gv) :
    Calls Tryz.prog 45 #[.pointer (some ⟨mb, 0, none⟩), .int .i64 k, .int .i64 x] w fun e w' => e = .returned (.tuple #[]) ∧ WQ B hi0 (some ⟨gr, 0, none⟩) cr n U (wlF st k x).vs (wlF st k x).cs rn (wlF st k x).rs w' ∧ Below B w w' ∧ w.heap.size ≤ w'.heap.size ∧ ∀ q, q < w.heap.size → q ≠ gv → q ≠ gc → w'.heap[q]? = w.heap[q]? := by
  have hF := hW.f hH
  obtain ⟨A0, m0, c0, a1, a2, a3⟩ := hF.at_ 0 (by omega)
  rw [hU0] at a1
  cases a1
  obtain ⟨A0, m0, c0, b1, -, b4⟩ := hF.at_ 1 (by omega)
  rw [hU1] at b1
  cases b1
  have hgv : gv < w.heap.size := (a3.lt _ rfl).2
  have hgvB : B ≤ gv := (a3.lt _ rfl).1
  have hgc : gc < w.heap.size := (b4.lt _ rfl).2
  have hgcB : B ≤ gc := (b4.lt _ rfl).1
  have z0 : w.cell? ⟨gv, k, none⟩ = some (.int .i64 (st.vs.getD k 0)) := by
    rw [a3.cellAt k (by omega)]
    have hil : k < st.vs.length := by omega
    simp [rowOf, List.getD, hil]
  have f0 := a3.frozenAt k
  have HQ := Lib.hid hW
  have HU0 := Lib.hid hU0
  have HU1 := Lib.hid hU1
  have HCL := Lib.hid hcl
  have HAH := Lib.hid hah
  have HRL := Lib.hid hrl
  have HMB := Lib.hid hmb
  have y0 := hmb.c 1 _ rfl
  have hwl : wlF st k x = if st.vs.getD k 0 = x then st else ⟨st.vs.set k x, st.rs, spoF st.rs st.cs k 2⟩ := rfl
  rw [hwl]
  generalize st.vs.getD k 0 = z at *
  clear hwl hW hU0 hU1 hcl hvl hah hrl hF a2 a3 b4 hmb
  by_cases hzx : z = x
  · subst hzx
    rw [if_pos rfl]
    have hne9 : (z != z) = false := by simp
    go_enter Tryz.func45, Tryz.ntmps45
    go_wp2
    go_end0
    exact ⟨rfl, HQ.out, Below.refl _ _, Nat.le_refl _, fun q _ _ _ => rfl⟩
  · rw [if_neg hzx]
    have hne9 : (z != x) = true := by simpa [bne] using hzx
    obtain ⟨w4, hw4⟩ : ∃ W, W = w.setCell ⟨gv, k, none⟩ (.int .i64 x) := ⟨_, rfl⟩
    have hs4 : w4.heap.size = w.heap.size := by rw [hw4]; simp [World.setCell]
    have Q4 : Hid (WQ B hi0 (some ⟨gr, 0, none⟩) cr n U (st.vs.set k x) st.cs rn st.rs w4) := by rw [hw4]; exact HQ.out.setV hH HU0.out x
    have M4 : Hid (Bx mb [.slice Ag ng cg, .slice (some ⟨gv, 0, none⟩) n cv, .slice (some ⟨gr, 0, none⟩) n cr, .slice (some ⟨gc, 0, none⟩) n cc, .slice Ar lr dr] w4) := by rw [hw4]; exact HMB.out.other _ (by show mb ≠ gv; exact hne2) _
    have B4 : Hid (Below B w w4) := by rw [hw4]; exact (Below.refl _ _).setCell hgvB _
    have F4 : Hid (Frm gv w w4) := by rw [hw4]; exact Frm.set _ _ _ _
    have hs4a : w.heap.size ≤ w4.heap.size := by omega
    have hs4b : w4.heap.size ≤ w.heap.size := by omega
    clear hs4 HQ HMB
    go_enter Tryz.func45, Tryz.ntmps45
    go_upto_region 2 with fail
    rw [← hw4]
    clear hw4 y0 z0 f0
    go_wp2_with fail
    refine (impl_markBehind mb Ag (some ⟨gv, 0, none⟩) Ar ng cg n cv lr dr n gr gc cr cc U (st.vs.set k x) st.cs rn st.rs k 2 w4 B (by omega) hn10 hi0 (by omega) Q4.out HU1.out HCL.out hk HAH.out HRL.out M4.out hne).mono ?_
    rintro e w5 ⟨rfl, hq, hfr⟩
    have Q5 := Lib.hid hq
    have F5 := Lib.hid hfr
    clear hq hfr
    go_wp2
    go_end0
    exact ⟨rfl, Q5.out, B4.out.trans (F5.out.below hgcB (by omega)), Nat.le_trans F4.out.size F5.out.size, fun q hq h1 h2 => (F5.out.block q (by have := F4.out.size; omega) h2).trans (F4.out.block q hq h1)⟩
end Go.Proofs.YtlcpgbbpjnkihaaGreat
