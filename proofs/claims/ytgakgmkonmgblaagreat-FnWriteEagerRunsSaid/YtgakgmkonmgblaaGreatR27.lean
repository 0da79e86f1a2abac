/- laws.written: cells with some written. -/
import Derived.Test.YtgakgmkonmgblaaGreatAa
import Derived.Test.YtgakgmkonmgblaaGreatM45

namespace Go.Proofs.YtgakgmkonmgblaaGreat
set_option linter.unusedSimpArgs false
set_option linter.unusedVariables false
open Go.RowKit

set_option maxHeartbeats 1600000 in
theorem laws_written (A1 A2 A3 : Option Addr) (n c m c2 c3 : Nat) (cs xs ys : List Int) (w : World) (hn : n = cs.length) (hp : 0 < n) (hs : n ≤ 2000000) (hm : m = xs.length) (hm3 : m = ys.length) (hms : m ≤ 2000000) (hx : ∀ k, k < m → ∃ q : Nat, xs.getD k 0 = q ∧ q < n) (h1 : IS w w.heap.size A1 cs) (h2 : IS w w.heap.size A2 xs) (h3 : IS w w.heap.size A3 ys) :
    Calls Tryz.prog 13 #[.slice A1 n c, .slice A2 m c2, .slice A3 m c3] w fun e w' => ∃ g cap, e = .returned (.slice (some ⟨g, 0, none⟩) n cap) ∧ w'.ownsRow w.heap.size 3 1 (.slice (some ⟨g, 0, none⟩) n cap) n ((wrC cs xs ys m).map (Value.int .i64)) ∧ Below w.heap.size w w' := by
  obtain ⟨i0, hi, hz0, hz1, hz2⟩ := info_parts info_int
  obtain ⟨b, off, rfl, hbB, hc⟩ := h1 (by omega)
  have hnew := World.ownsRow_lit (e := 3) (size := 1) (base := w.heap.size) w #[] 0 (Nat.le_refl _) (by unfold maxLen; omega) (by simp)
  have hnews := news_of_ints (n := n) (fun j hj => (World.cell?_alloc_lt w (.cells #[] 3) ⟨b, off + j, none⟩ (show b < w.heap.size by omega)).trans (hc j hj))
  have HNEW := Lib.hid hnew
  have HNS := Lib.hid hnews
  have HN := Lib.hid hn
  have HM := Lib.hid hm
  have HM3 := Lib.hid hm3
  have HX := Lib.hid hx
  have H2 := Lib.hid h2
  have H3 := Lib.hid h3
  clear hnew hnews hc hn hm hm3 hx h1 h2 h3
  go_enter Tryz.func13, Tryz.ntmps13
  go_wp2_with (at_builtin; refine wpList_append_own_at _ rfl _ _ 26 rfl w.heap.size 3 i0 (.int .i64 0) 1 8 Tryz.underlying26 hi hz0 hz1 hz2 rfl (by decide) _ _ _ rfl HNEW.out ⟨b, off, none⟩ n c (cs.map (Value.int .i64)) rfl ?d1 HNS.out (ints_one cs) ?d3 ?d4 ?d5 ?_)
  case d1 => have := HN.out; first | omega | (simp; omega)
  case d3 => unfold maxLen; omega
  case d4 => omega
  intro v' w3 hown' hgrow _ _
  have hown'' : w3.ownsRow w.heap.size 3 1 v' n (cs.map (Value.int .i64)) := by simpa using hown'
  obtain ⟨g, cap, rfl⟩ : ∃ g cap, v' = .slice (some ⟨g, 0, none⟩) n cap := by
    rcases hown''.2 with ⟨_, h0⟩ | ⟨g, cap, cur, hv, _⟩
    · omega
    · exact ⟨g, cap, hv⟩
  have HO3 := Lib.hid hown''
  have HB3 : Hid (Below w.heap.size w w3) := ((Below.refl _ _).alloc (Nat.le_refl _) (.cells #[] 3)).grown hgrow (by simp) (fun k hk => by simp [Value.ownBlock] at hk; omega)
  have hg1 : w.heap.size ≤ g := (hown''.lt _ rfl).1
  clear hown' hown'' hgrow
  go_wp2
  go_loopw [8] (fun u wr => ∃ k : Nat, k ≤ m ∧ u = .int .i64 k ∧ Hid (wr.ownsRow w.heap.size 3 1 (.slice (some ⟨g, 0, none⟩) n cap) n ((wrC cs xs ys k).map (Value.int .i64))) ∧ Hid (Below w.heap.size w wr)) (fun u _ => m - (intOf u).toNat)
  case atStart => exact ⟨0, Nat.zero_le _, rfl, HO3.out, HB3.out⟩
  case round =>
    obtain ⟨k, hk, rfl, HO, HB⟩ := hrel
    by_cases hlt : k < m
    · obtain ⟨b2, o2, rfl, hb2, e2⟩ := (H2.out.below HB.out (Nat.le_refl _)) (by have := HM.out; omega)
      have x2 := e2 k (by have := HM.out; omega)
      obtain ⟨b3, o3, rfl, hb3, e3⟩ := (H3.out.below HB.out (Nat.le_refl _)) (by have := HM3.out; omega)
      have y3 := e3 k (by have := HM3.out; omega)
      obtain ⟨q, hqx, hqn⟩ := HX.out k hlt
      have HS1 : Hid (wrC cs xs ys (k + 1) = (wrC cs xs ys k).set q (ys.getD k 0)) := by
        show wrC cs xs ys (k + 1) = _
        rw [wrC, hqx, Int.toNat_natCast]
      rw [hqx] at x2
      obtain ⟨y, hy⟩ : ∃ y, y = ys.getD k 0 := ⟨_, rfl⟩
      rw [← hy] at HS1 y3
      have u0 := HO.out.cellAt q (by omega)
      rw [List.getElem?_eq_getElem (by rw [List.length_map, wrC_len]; have := HN.out; omega)] at u0
      have f0 := HO.out.frozenAt q
      have hst := (HO.out.stored q (.int .i64 y)).1
      rw [← List.map_set, ← HS1.out] at hst
      have HST := Lib.hid hst
      have HBN := Lib.hid (HB.out.setCell (p := ⟨g, q, none⟩) hg1 (.int .i64 y))
      have hqi : (q : Int) < (n : Int) := by omega
      have hki : (k : Int) < (m : Int) := by omega
      generalize ((wrC cs xs ys k).map (Value.int .i64))[q]'_ = vv at u0
      clear hst e2 e3 hqx hy HO
      go_wp2
      go_region
      go_wp2
      go_roundw
      case rel => exact ⟨k + 1, by omega, by go_num, HST.out, HBN.out.drew⟩
      case measure => simp [intOf]; omega
    · obtain rfl : k = m := by omega
      go_wp2
      go_ret
      exact ⟨g, cap, rfl, HO.out, HB.out⟩
end Go.Proofs.YtgakgmkonmgblaaGreat
