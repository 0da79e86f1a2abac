/- Copies of lists of lists: spec.copyLists, impl.copyStates. -/
import Derived.Test.YtlliomnfbgdpfaaJ1
import Derived.Test.YtlliomnfbgdpfaaS3

namespace Go.Proofs.Ytlliomnfbgdpfaa
set_option linter.unusedSimpArgs false
set_option linter.unusedVariables false
open Go.RowKit

theorem take_snoc (xss : List (List Int)) (k : Nat) (h : k < xss.length) : xss.take (k + 1) = xss.take k ++ [xss.getD k []] := by
  rw [List.take_succ_eq_append_getElem h]; simp [List.getD, h]

set_option maxRecDepth 100000 in
set_option maxHeartbeats 1600000 in
theorem spec_copyLists (A : Option Addr) (n c : Nat) (xss : List (List Int)) (w : World) (B : Nat) (hB : B ≤ w.heap.size) (hn : n = xss.length) (h : SS w B A xss) (hs : SB xss) :
    Calls Try.prog 71 #[.slice A n c] w fun e w' => RetSS w xss e w' := by
  obtain ⟨i1, hi, hz0, hz1, hz2⟩ := info_parts info_ints1
  have hn1 : n ≤ 1048576 := by rw [hn]; exact hs.1
  have H := Lib.hid h
  have HN := Lib.hid hn
  have HS := Lib.hid hs
  clear hn h hs
  go_enter Try.func71, Try.ntmps71
  go_wp2
  go_loopw [3, 4] (fun v i wr => ∃ k : Nat, k ≤ n ∧ i = .int .i64 k ∧ Hid (OwSS w.heap.size wr.heap.size v k (xss.take k) wr) ∧ Hid (Below w.heap.size w wr)) (fun _ i _ => n - (intOf i).toNat)
  case atStart =>
    refine ⟨0, Nat.zero_le _, rfl, ⟨by simp, [], ?_, ⟨fun j hj => by simp at hj, fun i j v u k _ h => by simp at h⟩⟩, (Below.refl _ _).alloc (Nat.le_refl _) _⟩
    have := World.ownsRow_lit (e := 40) (size := 1) (base := w.heap.size) w #[] 0 (Nat.le_refl _) (by unfold maxLen; omega) rfl
    exact OwR.start this
  case round =>
    obtain ⟨k, hk, rfl, HO, HB⟩ := hrel
    have hwr := HB.out.size
    by_cases hlt : k < n
    · obtain ⟨b, off, rfl, hbB, A2, n2, c2, e0, hn2, hps⟩ := H.out.at_ k (by have := HN.out; omega)
      have e1 := (HB.out.cell (p := ⟨b, off + k, none⟩) (by simp; omega)).trans e0
      have HPS := Lib.hid (hps.below HB.out hB)
      have hnb := HS.out.2 k
      have HST := Lib.hid (take_snoc xss k (by have := HN.out; omega))
      have HTL := Lib.hid (show (xss.take k).length = k by rw [List.length_take]; have := HN.out; omega)
      generalize xss.getD k [] = D at *
      generalize xss.take k = T at *
      have HN2 := Lib.hid hn2
      have hn3 : n2 ≤ 2000000 := by omega
      clear e0 hn2 hps hnb
      go_wp2_with fail
      refine (spec_copyIntsA A2 n2 c2 D wr B (by omega) HN2.out HPS.out hn3).mono ?_
      rintro e w5 ⟨g, cap, rfl, ho5, hb5⟩
      have HO5 := Lib.hid ho5
      have HB5 := Lib.hid hb5
      have hw5 : w.heap.size ≤ w5.heap.size := Nat.le_trans hwr hb5.size
      obtain ⟨-, vs, hrow, hss⟩ := HO.out
      have HROW := Lib.hid hrow
      have HSS := Lib.hid hss
      have HR5 := Lib.hid (own_below hrow.1 hb5)
      clear hrow hss ho5 hb5
      go_wp2_with (at_builtin; refine wpList_append_own _ rfl _ _ 25 rfl w.heap.size 40 i1 (.slice none 0 0) 1 24 Try.underlying25 hi hz0 hz1 hz2 rfl (by decide) _ _ _ rfl (HR5.out.alloc _) ⟨_, 0, none⟩ 1 1 [.slice (some ⟨g, 0, none⟩) n2 cap] rfl rfl (cell_one_new _ _ _) ?c2 ?c3 ?c4 ?c5 ?_)
      case c2 => first | rfl | (intro u hu; simp at hu; subst hu; rfl)
      case c3 => unfold maxLen; omega
      case c4 => omega
      case c5 => first | omega | (simp; omega)
      intro v' w6 happ hgrow _
      have hpos := (HR5.out.alloc (.cells #[.slice (some ⟨g, 0, none⟩) n2 cap] 40)).lt
      have HB6 : Hid (Below w.heap.size w w6) := ((HB.out.trans (HB5.out.mono hwr)).alloc hw5 _).grown hgrow (by simp; omega) (fun q hq => (hpos q hq).1)
      have HO6 := Lib.hid (OwSS.snoc HROW.out.1 HSS.out HTL.out.symm HB5.out HO5.out HN2.out happ hgrow hwr)
      clear happ hgrow hpos
      go_wp2
      go_roundw
      case rel => exact ⟨k + 1, by omega, by go_num, by rw [HST.out]; exact HO6.out, HB6.out⟩
      case measure => simp [intOf]; omega
    · obtain rfl : k = n := by omega
      go_wp2
      go_ret
      have ho := HO.out
      rw [List.take_of_length_le (by have := HN.out; omega)] at ho
      exact ⟨_, rfl, by rw [← HN.out]; exact ho, HB.out⟩

set_option maxRecDepth 100000 in
set_option maxHeartbeats 1600000 in
theorem impl_copyStates (A : Option Addr) (n c : Nat) (xss : List (List Int)) (w : World) (B : Nat) (hB : B ≤ w.heap.size) (hn : n = xss.length) (h : SS w B A xss) (hs : SB xss) :
    Calls Try.prog 43 #[.slice A n c] w fun e w' => RetSS w xss e w' := by
  have hn1 : n ≤ 1048576 := by rw [hn]; exact hs.1
  obtain ⟨i1, hi, hz0, hz1, hz2⟩ := info_parts info_ints1
  obtain ⟨w3, hmk, hown3, hgr3⟩ := run_make_full (P := Try.prog) w w.heap.size 25 40 i1 _ 1 Try.underlying25 hi hz0 hz1 .i64 .i64 n (by rw [hz2]; omega) (by unfold maxLen; omega) (Nat.le_refl _)
  have hgl : w.heap.size < w3.heap.size := (hown3.lt _ rfl).2
  have hb3 : Below w.heap.size w w3 := ⟨hgr3.os, hgr3.tape, hgr3.output, hgr3.size, fun k hk => hgr3.block k hk (by simp)⟩
  have HO3 : Hid (∃ vs, OwR w.heap.size w3.heap.size 40 1 (.slice (some ⟨w.heap.size, 0, none⟩) n n) n vs w3 ∧ SSk w.heap.size w3.heap.size vs (lenOf (cpTo xss n 0)) (rowOf (cpTo xss n 0)) w3) := by
    have e : (madeCells (Value.slice none 0 0).cells (n * 1)).toList = List.replicate n (.slice none 0 0) := by simp [Value.cells, toList_madeCells_one]
    rw [e] at hown3
    refine ⟨_, OwR.start hown3, ⟨fun j hj => ?_, fun i j v u k _ h1 h2 hv => ?_⟩⟩
    · have hj' : j < n := by simpa using hj
      refine ⟨none, 0, 0, by simp [hj'], by simp [lenOf, cpTo, List.getD, hj'], ?_⟩
      have : rowOf (cpTo xss n 0) j = [] := by simp [rowOf, cpTo, List.getD, hj']
      rw [this]
      exact OwR.nil _ _ _ _ _
    · have : v = .slice none 0 0 := by
        rw [List.getElem?_replicate] at h1
        split at h1
        · cases h1; rfl
        · cases h1
      subst this
      simp [Value.ownBlock] at hv
  have H := Lib.hid h
  have HN := Lib.hid hn
  have HS := Lib.hid hs
  have HB3 := Lib.hid hb3
  clear hn h hs hown3 hgr3 hb3
  go_enter Try.func43, Try.ntmps43
  go_wp2
  clear hmk
  go_loopw [11] (fun i wr => ∃ k : Nat, k ≤ n ∧ i = .int .i64 k ∧ Hid (∃ vs, OwR w.heap.size wr.heap.size 40 1 (.slice (some ⟨w.heap.size, 0, none⟩) n n) n vs wr ∧ SSk w.heap.size wr.heap.size vs (lenOf (cpTo xss n k)) (rowOf (cpTo xss n k)) wr) ∧ Hid (Below w.heap.size w3 wr) ∧ w3.heap.size ≤ wr.heap.size) (fun i _ => n - (intOf i).toNat)
  case atStart => exact ⟨0, Nat.zero_le _, rfl, HO3.out, Below.refl _ _, Nat.le_refl _⟩
  case round =>
    obtain ⟨k, hk, rfl, HO, HB, hwr⟩ := hrel
    by_cases hlt : k < n
    · obtain ⟨vs, hrow, hss⟩ := HO.out
      have hvl : vs.length = n := by have := hrow.1.1; omega
      have hkg : k < xss.length := by have := HN.out; omega
      obtain ⟨b, off, rfl, hbB, A1, n1, c1, c0, hn1', hps⟩ := H.out.at_ k hkg
      have hbw := HB3.out.trans HB.out
      have e0 := (hbw.cell (p := ⟨b, off + k, none⟩) (by simp; omega)).trans c0
      have HPS := Lib.hid (hps.below hbw hB)
      have HAT := Lib.hid (cpTo_at xss n k hlt HN.out)
      have HOT := Lib.hid fun (j : Nat) (hj : j ≠ k) => cpTo_other xss n k j hlt HN.out hj
      have hnb := HS.out.2 k
      have HROW := Lib.hid hrow.1
      have HSS := Lib.hid hss
      have HVL := Lib.hid hvl
      generalize xss.getD k [] = D at *
      have HN1 := Lib.hid hn1'
      have hn2 : n1 ≤ 2000000 := by omega
      clear c0 hps hrow hss hvl hbw hn1' hnb
      go_wp2_with fail
      refine (impl_copyOf A1 n1 c1 D _ B (by omega) HN1.out HPS.out hn2).mono ?_
      rintro e w5 ⟨rfl, ho5, hb5⟩
      have hR5 := own_below HROW.out hb5
      have u5 := hR5.cellAt k (by omega)
      rw [List.getElem?_eq_getElem (by have := HVL.out; omega)] at u5
      have f5 := hR5.frozenAt k
      have hst := hR5.stored k (.slice (some ⟨wr.heap.size, 0, none⟩) n1 n1)
      have hw5 : wr.heap.size ≤ w5.heap.size := hb5.size
      have HNEW : Hid (∃ vs, OwR w.heap.size w5.heap.size 40 1 (.slice (some ⟨w.heap.size, 0, none⟩) n n) n vs (w5.setCell ⟨w.heap.size, k, none⟩ (.slice (some ⟨wr.heap.size, 0, none⟩) n1 n1)) ∧ SSk w.heap.size w5.heap.size vs (lenOf (cpTo xss n (k + 1))) (rowOf (cpTo xss n (k + 1))) (w5.setCell ⟨w.heap.size, k, none⟩ (.slice (some ⟨wr.heap.size, 0, none⟩) n1 n1))) := by
        have hss5 := HSS.out.keep (w' := w5) fun q _ hq => hb5.block q hq
        have hss6 := hss5.grown hst.2 (hss5.ne hR5 ints_ne_int)
        have hd6 := ho5.kept hst.2 (blocks_ne ho5 hR5 ints_ne_int)
        have hrk : rowOf (cpTo xss n (k + 1)) k = D.map (Value.int .i64) := by unfold rowOf; rw [HAT.out]
        rw [← hrk] at hd6
        refine ⟨_, ⟨hst.1, fun q hq => by cases hq; exact Nat.lt_of_lt_of_le hgl (by omega)⟩, hss6.put (hi' := w5.heap.size) (A := some ⟨wr.heap.size, 0, none⟩) (m := n1) (c := n1) k ?_ ?_ ?_ ?_ ?_ ⟨own_mono hd6 (by omega), fun q hq => by have := (ho5.lt q hq).2; omega⟩ (by omega) (by omega)⟩
        · rw [List.getElem?_set, if_pos rfl, if_pos (by have := HVL.out; omega)]
        · intro j hj; rw [List.getElem?_set, if_neg (by omega)]
        · intro j hj _; simpa using hj
        · unfold lenOf; rw [HAT.out]; exact HN1.out
        · intro j hj; unfold lenOf rowOf; rw [HOT.out j hj]; exact ⟨rfl, rfl⟩
      have HB6 : Hid (Below w.heap.size w3 (w5.setCell ⟨w.heap.size, k, none⟩ (.slice (some ⟨wr.heap.size, 0, none⟩) n1 n1))) := (HB.out.trans (hb5.mono (by omega))).setCell (Nat.le_refl _) _
      have HSZ : Hid ((w5.setCell ⟨w.heap.size, k, none⟩ (.slice (some ⟨wr.heap.size, 0, none⟩) n1 n1)).heap.size = w5.heap.size) := by simp [World.setCell, Hid]
      generalize vs[k]'_ = vv at u5
      clear hst hR5 ho5 hb5
      go_wp2
      go_roundw
      case rel => exact ⟨k + 1, by omega, by go_num, by rw [HSZ.out]; exact HNEW.out, HB6.out, by simp [World.setCell]; omega⟩
      case measure => simp [intOf]; omega
    · obtain rfl : k = n := by omega
      go_wp2
      go_ret
      refine ⟨_, rfl, ?_, HB3.out.trans HB.out⟩
      obtain ⟨vs, hrow, hss⟩ := HO.out
      rw [cpTo_all xss k HN.out] at hss
      rw [← HN.out]
      exact ⟨HN.out, vs, hrow, hss⟩

end Go.Proofs.Ytlliomnfbgdpfaa
