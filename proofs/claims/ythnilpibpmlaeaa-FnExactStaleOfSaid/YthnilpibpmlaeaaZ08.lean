/- Texts put together: T20 T21a T21b T21 O1 O2 O3 O4. -/
import Derived.Test.YthnilpibpmlaeaaZ07
import Derived.BigQuiet
import Derived.Deep.RegionHeld3
import Derived.Test.YthnilpibpmlaeaaRows
import Derived.WalkKit
import Derived.ProofKit
import Derived.OpenShut
import Derived.ShutString
import Derived.ChangeOld
import Derived.Below
import Derived.Deep.Slices
import Derived.Deep.Fields
/- Contracts on the way to ValidLazy: missing, areDifferentOf, hasCleanReads, isAsRun. -/
namespace Go.Proofs.Ythnilpibpmlaeaa
set_option linter.unusedSimpArgs false
set_option linter.unusedVariables false
open Go.RowKit

set_option maxRecDepth 100000 in
set_option maxHeartbeats 1600000 in
theorem spec_missing (A A' : Option Addr) (n c m c' : Nat) (a b : List Int) (w : World) (B : Nat) (hB : B ≤ w.heap.size) (hn : n = a.length) (hm : m = b.length) (h : IS w B A a) (h' : IS w B A' b) (hs : n ≤ 2000000) (hs' : m ≤ 2000000) :
    Calls Try.prog 68 #[.slice A n c, .slice A' m c'] w fun e w' => RetI w (missL a b) e w' := by
  obtain ⟨i0, hi, hz0, hz1, hz2⟩ := info_parts info_int
  have H := Lib.hid h
  have H' := Lib.hid h'
  have HN := Lib.hid hn
  have HM := Lib.hid hm
  have HALL := Lib.hid (missTo_all a b)
  clear hn h hm h'
  go_enter Try.func68, Try.ntmps68
  go_wp2
  go_loopw [5, 6] (fun v i wr => ∃ k : Nat, k ≤ n ∧ i = .int .i64 k ∧ Hid (OwnI wr w.heap.size v (missTo a b k)) ∧ Below w.heap.size w wr) (fun _ i _ => n - (intOf i).toNat)
  case atStart =>
    refine ⟨0, Nat.zero_le _, rfl, ?_, (Below.refl _ _).alloc (Nat.le_refl _) _⟩
    have := World.ownsRow_lit (e := 3) (size := 1) (base := w.heap.size) w #[] 0 (Nat.le_refl _) (by unfold maxLen; omega) rfl
    simpa [OwnI, Hid, missTo_zero] using this
  case round =>
    obtain ⟨k, hk, rfl, HO, hb⟩ := hrel
    by_cases hlt : k < n
    · obtain ⟨b1, off1, rfl, hb1, hc1⟩ := H.out (by have := HN.out; omega)
      have c1 := (hb.cell (p := ⟨b1, off1 + k, none⟩) (by simp; omega)).trans (hc1 k (by have := HN.out; omega))
      clear hc1
      have HST := Lib.hid (missTo_step a b k (by have := HN.out; omega))
      have hdl := missTo_len a b k
      have hwr : w.heap.size ≤ wr.heap.size := hb.size
      have HP := Lib.hid (spec_placeIn A' m c' b (a.getD k 0) wr B (by omega) HM.out (H'.out.below hb hB) hs')
      have HPL := Lib.hid (plc_lt b (a.getD k 0))
      generalize a.getD k 0 = x at *
      generalize missTo a b k = D at *
      cases hin : decide (x ∈ b)
      · have hd : decide (plc b x < 0) = true := by rw [HPL.out, hin]; rfl
        rw [hin] at HST
        clear hin HPL
        generalize plc b x = px at *
        go_wp2_with fail
        refine HP.out.mono ?_
        rintro e w' ⟨rfl, rfl⟩
        clear HP
        go_wp2_with (at_builtin; refine wpList_append_own _ rfl _ _ 25 rfl w.heap.size 3 i0 (.int .i64 0) 1 8 Try.underlying25 hi hz0 hz1 hz2 rfl (by decide) _ _ _ rfl (HO.out.alloc _) ⟨_, 0, none⟩ 1 1 [.int .i64 x] rfl rfl (cell_one_new _ _ _) ?c2 ?c3 ?c4 ?c5 ?_)
        case c2 => first | rfl | (intro u hu; simp at hu; subst hu; rfl)
        case c3 => unfold maxLen; omega
        case c4 => omega
        case c5 => first | omega | (simp; omega)
        intro v' w3 hown' hgrow _
        have hpos := (HO.out.alloc (.cells #[.int .i64 x] 3)).lt
        have HO' : Hid (OwnI w3 w.heap.size v' (missTo a b (k + 1))) := by
          rw [HST.out]
          simpa [OwnI, Hid] using hown'
        have HB' := Lib.hid ((hb.alloc hwr (.cells #[.int .i64 x] 3)).grown hgrow (by first | (simp; omega) | omega) (fun q hq => (hpos q hq).1))
        clear hown' hgrow hpos
        go_wp2
        go_roundw
        case rel => exact ⟨k + 1, by omega, by go_num, HO'.out, HB'.out⟩
        case measure => simp [intOf]; omega
      · have hd : decide (plc b x < 0) = false := by rw [HPL.out, hin]; rfl
        rw [hin] at HST
        clear hin HPL
        generalize plc b x = px at *
        go_wp2_with fail
        refine HP.out.mono ?_
        rintro e w' ⟨rfl, rfl⟩
        clear HP
        go_wp2
        go_roundw
        case rel => exact ⟨k + 1, by omega, by go_num, by show OwnI _ _ _ _; rw [HST.out]; simpa using HO.out, hb⟩
        case measure => simp [intOf]; omega
    · obtain rfl : k = n := by omega
      go_wp2
      go_ret
      refine ⟨_, rfl, ?_, hb⟩
      rw [← HALL.out, ← HN.out]
      exact HO.out

set_option maxRecDepth 100000 in
set_option maxHeartbeats 1600000 in
theorem impl_areDifferentOf (A A' : Option Addr) (n c m c' : Nat) (a b : List Int) (w : World) (B : Nat) (hB : B ≤ w.heap.size) (hn : n = a.length) (hm : m = b.length) (h : IS w B A a) (h' : IS w B A' b) (hs : n ≤ 2000000) (hs' : m ≤ 2000000) (hcap : m ≤ c') :
    Calls Try.prog 58 #[.slice A n c, .slice A' m c'] w fun e w' => e = .returned (.bool (apartL b && inL b a)) ∧ w = w' := by
  have H := Lib.hid h
  have H' := Lib.hid h'
  have HN := Lib.hid hn
  have HM := Lib.hid hm
  have HBAD := Lib.hid (dif_bad b a)
  have HFIN := Lib.hid (dif_fin b a)
  clear hn h hm h'
  go_enter Try.func58, Try.ntmps58
  go_wp2
  go_loop [9] (fun i => ∃ k : Nat, k ≤ m ∧ i = .int .i64 k ∧ Hid (∀ i, i < k → difB b a i = true)) (fun i => m - (intOf i).toNat)
  case atStart => exact ⟨0, Nat.zero_le _, rfl, fun i hi => by omega⟩
  case round =>
    obtain ⟨k, hk, rfl, HT⟩ := hrel
    by_cases hlt : k < m
    · obtain ⟨b1, off1, rfl, hb1, hc1⟩ := H'.out (by have := HM.out; omega)
      have c1 := hc1 k (by have := HM.out; omega)
      have HTK := Lib.hid (show IS w B (some ⟨b1, off1, none⟩) (b.take k) from fun hn => ⟨b1, off1, rfl, hb1, fun j hj => by
        rw [List.length_take] at hj
        rw [show (b.take k).getD j 0 = b.getD j 0 by simp only [List.getD, List.getElem?_take, if_pos (show j < k by omega)]]
        exact hc1 j (by omega)⟩)
      clear hc1
      have hd : difB b a k = (decide (b.getD k 0 ∈ a) && !decide (b.getD k 0 ∈ b.take k)) := rfl
      have HBK := Lib.hid (HBAD.out k (by have := HM.out; omega))
      have HNT : Hid (difB b a k = true → ∀ i, i < k + 1 → difB b a i = true) := fun hh j hj => by
        rcases Nat.lt_or_ge j k with h1 | h1
        · exact HT.out j h1
        · obtain rfl : j = k := by omega
          exact hh
      have HC1 := Lib.hid (slices_Contains A n c a (b.getD k 0) w B hB HN.out H.out hs)
      have HC2 := Lib.hid (slices_Contains (some ⟨b1, off1, none⟩) k c' (b.take k) (b.getD k 0) w B hB (by rw [List.length_take]; have := HM.out; omega) HTK.out (by omega))
      have hkc : k ≤ c' := by omega
      generalize b.getD k 0 = x at *
      generalize decide (x ∈ a) = r1 at *
      generalize decide (x ∈ b.take k) = r2 at *
      clear HTK
      cases r1
      · have HF := Lib.hid (HBK.out (by rw [hd]; rfl))
        clear hd
        go_wp2_with fail
        refine HC1.out.mono ?_
        rintro e w' ⟨rfl, rfl⟩
        go_wp2
        go_ret
        exact ⟨ret_b HF.out.symm, rfl⟩
      · cases r2
        · have HF := Lib.hid (HNT.out (by rw [hd]; rfl))
          clear hd
          go_wp2_with fail
          refine HC1.out.mono ?_
          rintro e w' ⟨rfl, rfl⟩
          go_wp2_with fail
          refine HC2.out.mono ?_
          rintro e w' ⟨rfl, rfl⟩
          go_wp2
          go_round
          case rel => exact ⟨k + 1, by omega, by go_num, HF.out⟩
          case measure => simp [intOf]; omega
        · have HF := Lib.hid (HBK.out (by rw [hd]; rfl))
          clear hd
          go_wp2_with fail
          refine HC1.out.mono ?_
          rintro e w' ⟨rfl, rfl⟩
          go_wp2_with fail
          refine HC2.out.mono ?_
          rintro e w' ⟨rfl, rfl⟩
          go_wp2
          go_ret
          exact ⟨ret_b HF.out.symm, rfl⟩
    · obtain rfl : k = m := by omega
      go_wp2
      go_ret
      exact ⟨ret_b (HFIN.out fun i hi => HT.out i (by have := HM.out; omega)).symm, rfl⟩

set_option maxRecDepth 100000 in
set_option maxHeartbeats 1600000 in
theorem impl_hasCleanReads (A E C : Option Addr) (n c en ec m d : Nat) (st : Lz) (i : Nat) (w : World) (B : Nat) (hB : B ≤ w.heap.size) (he : en = st.rs.length) (hm : m = st.cs.length) (h : LS3 w B A E C st) (hi : i < en) (hs : (st.rs.getD i []).length ≤ 2000000) (hr : ∀ j, j < (st.rs.getD i []).length → ∃ q : Nat, q < m ∧ (st.rs.getD i []).getD j 0 = (q : Int)) :
    Calls Try.prog 57 #[.agg #[.slice A n c, .slice E en ec, .slice C m d], .int .i64 i] w fun e w' => e = .returned (.bool (cleanR st.cs (st.rs.getD i []))) ∧ Below w.heap.size w w' := by
  obtain ⟨b3, off3, rfl, hbB3, A3, n3, c3, d1, hn3, hls⟩ := h.2.1.at_ i (by omega)
  have HLS := Lib.hid (hls.alloc hB (.cells #[.slice A n c, .slice (some ⟨b3, off3, none⟩) en ec, .slice C m d] 36))
  have HCS := Lib.hid (h.2.2.alloc hB (.cells #[.slice A n c, .slice (some ⟨b3, off3, none⟩) en ec, .slice C m d] 36))
  have HN3 := Lib.hid hn3
  have HM := Lib.hid hm
  have HR := Lib.hid hr
  have HBAD := Lib.hid (cleanR_bad st.cs (st.rs.getD i []))
  have HFIN := Lib.hid (cleanR_fin st.cs (st.rs.getD i []))
  have hn3b : n3 ≤ 2000000 := by omega
  have z3 : b3 < w.heap.size := by omega
  clear h hls he hm hr hs hn3
  generalize st.rs.getD i [] = L at *
  generalize st.cs = cs at *
  go_enter Try.func57, Try.ntmps57
  go_wp2
  go_loop [13] (fun u => ∃ k : Nat, k ≤ n3 ∧ u = .int .i64 k ∧ Hid (∀ j, j < k → (cs.getD (L.getD j 0).toNat 0 == 0) = true)) (fun u => n3 - (intOf u).toNat)
  case atStart => exact ⟨0, Nat.zero_le _, rfl, fun i hi => by omega⟩
  case round =>
    obtain ⟨k, hk, rfl, HT⟩ := hrel
    by_cases hlt : k < n3
    · obtain ⟨b1, off1, rfl, hb1, hc1⟩ := HLS.out (by have := HN3.out; omega)
      have c1 := hc1 k (by have := HN3.out; omega)
      obtain ⟨q, hq, hqe⟩ := HR.out k (by have := HN3.out; omega)
      obtain ⟨b2, off2, rfl, hb2, hc2⟩ := HCS.out (by have := HM.out; omega)
      have c2 := hc2 q (by have := HM.out; omega)
      have HBK := Lib.hid (HBAD.out k (by have := HN3.out; omega))
      have HNT : Hid ((cs.getD (L.getD k 0).toNat 0 == 0) = true → ∀ j, j < k + 1 → (cs.getD (L.getD j 0).toNat 0 == 0) = true) := fun hh j hj => by
        rcases Nat.lt_or_ge j k with h1 | h1
        · exact HT.out j h1
        · obtain rfl : j = k := by omega
          exact hh
      rw [hqe, Int.toNat_natCast] at HBK HNT
      rw [hqe] at c1
      clear hqe hc1 hc2
      generalize cs.getD q 0 = y at *
      cases hy : (y == 0)
      · have hy' : (y != 0) = true := by simp [bne, hy]
        have HF := Lib.hid (HBK.out hy)
        clear hy
        go_wp2
        go_ret
        exact ⟨ret_b HF.out.symm, (Below.refl _ _).alloc (Nat.le_refl _) _⟩
      · have hy' : (y != 0) = false := by simp [bne, hy]
        have HF := Lib.hid (HNT.out hy)
        clear hy
        go_wp2
        go_round
        case rel => exact ⟨k + 1, by omega, by go_num, HF.out⟩
        case measure => simp [intOf]; omega
    · obtain rfl : k = n3 := by omega
      go_wp2
      go_ret
      exact ⟨ret_b (HFIN.out fun i hi => HT.out i (by have := HN3.out; omega)).symm, (Below.refl _ _).alloc (Nat.le_refl _) _⟩

set_option maxRecDepth 100000 in
set_option maxHeartbeats 1600000 in
theorem impl_isAsRun (A A' E C : Option Addr) (n c m c' en ec q qc : Nat) (gs : List Nd) (st : Lz) (i : Nat) (w : World) (B : Nat) (hB : B ≤ w.heap.size) (hn : n = gs.length) (hm : m = st.vs.length) (he : en = st.rs.length) (h : GS w B A gs) (h' : LS3 w B A' E C st) (hvg : validG gs = true) (hl : st.vs.length = gs.length) (hl2 : st.rs.length = gs.length) (hr : allR st.vs 0 999 = true) (hi : i < n) (hs : (st.rs.getD i []).length ≤ 2000000) :
    Calls Try.prog 56 #[.agg #[.slice A n c], .agg #[.slice A' m c', .slice E en ec, .slice C q qc], .int .i64 i] w fun e w' => e = .returned (.bool (asRun gs st i)) ∧ Below w.heap.size w w' := by
  have HB0 := Lib.hid (((Below.refl w.heap.size w).alloc (Nat.le_refl _) (.cells #[.slice A n c] 34)).alloc (by simp) (.cells #[.slice A' m c', .slice E en ec, .slice C q qc] 36))
  have hB2 : w.heap.size + 2 ≤ ((w.alloc (.cells #[.slice A n c] 34)).alloc (.cells #[.slice A' m c', .slice E en ec, .slice C q qc] 36)).heap.size := by simp
  have HRUN := Lib.hid (impl_runOf A A' n c m c' gs st.vs i _ B (by omega) hn hm (h.below HB0.out hB) (h'.1.below HB0.out hB) hvg hl hr hi)
  have hfb := eager_depF_bd gs st.vs hvg hl i (by omega)
  obtain ⟨b2, off2, rfl, hbB2, hcx⟩ := h'.1 (by omega)
  have d0 := hcx i (by omega)
  obtain ⟨b3, off3, rfl, hbB3, A3, n3, c3, d1, hn3, hls⟩ := h'.2.1.at_ i (by omega)
  have har : asRun gs st i = ((valE gs st.vs i == st.vs.getD i 0) && decide (depF gs st.vs i = st.rs.getD i [])) := rfl
  have HLS := Lib.hid (hls.below HB0.out hB)
  have HN3 := Lib.hid hn3
  have hn3b : n3 ≤ 2000000 := by omega
  have him : i < m := by omega
  have hie : i < en := by omega
  clear h h' hcx hls hn hm he hvg hl hl2 hr hs hn3
  generalize asRun gs st i = r at *
  generalize valE gs st.vs i = X at *
  generalize depF gs st.vs i = F at *
  generalize st.vs.getD i 0 = x at *
  generalize st.rs.getD i [] = L at *
  go_enter Try.func56, Try.ntmps56
  go_wp2_with fail
  refine HRUN.out.mono ?_
  rintro e w5 ⟨v5, rfl, ho, hb5⟩
  obtain ⟨A5, c5, rfl, hI5⟩ := ho.form
  have hs5 := Nat.le_trans hB2 hb5.size
  have u1 := (hb5.cell (p := ⟨w.heap.size + 1, 0, none⟩) (by simp)).trans (show _ = some (Value.slice (some ⟨b2, off2, none⟩) m c') by go_simp)
  have u2 := (hb5.cell (p := ⟨w.heap.size + 1, 1, none⟩) (by simp)).trans (show _ = some (Value.slice (some ⟨b3, off3, none⟩) en ec) by go_simp)
  have HB5 := Lib.hid (HB0.out.trans (hb5.mono (by omega)))
  have u3 := (HB5.out.cell (p := ⟨b2, off2 + i, none⟩) (by show b2 < w.heap.size; omega)).trans d0
  have u4 := (HB5.out.cell (p := ⟨b3, off3 + i, none⟩) (by show b3 < w.heap.size; omega)).trans d1
  have HLS5 := Lib.hid ((HLS.out.below hb5 (by omega)).more (B' := w5.heap.size) (by omega))
  have HSI := Lib.hid (slices_Equal A3 A5 n3 F.length c3 c5 L F w5 w5.heap.size (Nat.le_refl _) HN3.out rfl HLS5.out hI5 (by omega) (by omega))
  generalize F.length = fl at *
  clear ho hb5 d0 d1 hI5 HRUN hB2
  cases hx : (X == x)
  · have hx' : (x == X) = false := by simp at hx ⊢; exact fun e => hx e.symm
    have HNF := Lib.hid (show r = false by rw [har, hx]; rfl)
    clear hx har
    go_wp2
    go_ret
    exact ⟨ret_b HNF.out.symm, HB5.out⟩
  · have hx' : (x == X) = true := by simp at hx ⊢; exact hx.symm
    rw [hx, Bool.true_and] at har
    have hsy : decide (F = L) = decide (L = F) := decide_eq_decide.mpr ⟨Eq.symm, Eq.symm⟩
    rw [hsy] at har
    rw [← har] at HSI
    clear hx har hsy
    go_wp2_with fail
    refine HSI.out.mono ?_
    rintro e w6 ⟨rfl, hb6⟩
    go_wp2
    go_ret
    exact ⟨rfl, HB5.out.trans (hb6.mono (by omega))⟩
end Go.Proofs.Ythnilpibpmlaeaa

/- The standing contracts of ValidLazy, the specification's. -/
namespace Go.Proofs.Ythnilpibpmlaeaa
set_option linter.unusedSimpArgs false
set_option linter.unusedVariables false
open Go.RowKit

/-- If the colour is that of clean nodes, so are those of the first ones that are read. -/
def ClT (cc : Int) (cs F : List Int) (k : Nat) : Prop := (cc == 0) = true → ∀ j, j < k → (cs.getD (F.getD j 0).toNat 0 == 0) = true

set_option maxRecDepth 100000 in
set_option maxHeartbeats 6400000 in
theorem spec_goodColour (A A' E C : Option Addr) (n c m c' p ec q qc : Nat) (gs : List Nd) (st : Lz) (i : Nat) (w : World) (B : Nat) (hB : B ≤ w.heap.size) (hn : n = gs.length) (hm : m = st.vs.length) (hp : p = st.rs.length) (hq : q = st.cs.length) (h : GS w B A gs) (h' : LS3 w B A' E C st) (hs : GB gs) (hb0 : LB st) (hvg : validG gs = true) (hl1 : st.vs.length = gs.length) (hl2 : st.rs.length = gs.length) (hl3 : st.cs.length = gs.length) (hr : allR st.vs 0 999 = true) (hi : i < n) :
    Calls Try.prog 52 #[.agg #[.slice A n c], .agg #[.slice A' m c', .slice E p ec, .slice C q qc], .int .i64 i] w fun e w' => e = .returned (.bool (colOK gs st i)) ∧ Below w.heap.size w w' := by
  have hn10 : n ≤ 10 := by rw [hn]; exact (validG_parts gs hvg).1
  have hvo : VOK st.vs := allR_VOK st.vs hr
  obtain ⟨W2, hW2⟩ : ∃ W2, W2 = (w.alloc (.cells #[.slice A n c] 34)).alloc (.cells #[.slice A' m c', .slice E p ec, .slice C q qc] 36) := ⟨_, rfl⟩
  have HB0 : Hid (Below w.heap.size w W2) := by rw [hW2]; exact ((Below.refl w.heap.size w).alloc (Nat.le_refl _) _).alloc (by simp) _
  have hB2 : w.heap.size + 2 ≤ W2.heap.size := by rw [hW2]; simp
  obtain ⟨b, off, rfl, hbB, c0, A1, n1, c1, c2, hn1', hps⟩ := h.at_ i (by omega)
  obtain ⟨b2, off2, rfl, hbB2, hcx⟩ := h'.1 (by omega)
  have d0 := hcx i (by omega)
  obtain ⟨b3, off3, rfl, hbB3, A3, n3, c3, d1, hn3, hls⟩ := h'.2.1.at_ i (by omega)
  obtain ⟨b4, off4, rfl, hbB4, hcy⟩ := h'.2.2 (by omega)
  have d2 := hcy i (by omega)
  have HW2 := Lib.hid hW2
  have HPS := Lib.hid (hps.below HB0.out hB)
  have HIS := Lib.hid (h'.1.below HB0.out hB)
  have HLS := Lib.hid (hls.below HB0.out hB)
  have HCS := Lib.hid (h'.2.2.below HB0.out hB)
  have z0 : b < w.heap.size := by omega
  have z2 : b2 < w.heap.size := by omega
  have z3 : b3 < w.heap.size := by omega
  have z4 : b4 < w.heap.size := by omega
  have HT : Hid (W2.cell? ⟨w.heap.size, 0, none⟩ = some (.slice (some ⟨b, off, none⟩) n c) ∧ W2.cell? ⟨w.heap.size + 1, 0, none⟩ = some (.slice (some ⟨b2, off2, none⟩) m c') ∧ W2.cell? ⟨w.heap.size + 1, 1, none⟩ = some (.slice (some ⟨b3, off3, none⟩) p ec) ∧ W2.cell? ⟨w.heap.size + 1, 2, none⟩ = some (.slice (some ⟨b4, off4, none⟩) q qc)) := by
    rw [hW2]; exact ⟨by go_simp, by go_simp, by go_simp, by go_simp⟩
  have HT2 := Lib.hid (And.intro ((HB0.out.cell (p := ⟨b, off + i * 2 + 1, none⟩) z0).trans c2) (And.intro ((HB0.out.cell (p := ⟨b2, off2 + i, none⟩) z2).trans d0) (And.intro ((HB0.out.cell (p := ⟨b3, off3 + i, none⟩) z3).trans d1) ((HB0.out.cell (p := ⟨b4, off4 + i, none⟩) z4).trans d2))))
  have HCY := Lib.hid fun (j : Nat) (hj : j < q) => (HB0.out.cell (p := ⟨b4, off4 + j, none⟩) z4).trans (hcy j (by omega))
  have hn3b : n3 ≤ 1048576 := by rw [hn3]; exact hb0.2.1.2 i
  have hn1b : n1 ≤ 1048576 := by rw [hn1']; exact hs.2 i
  have HN1 := Lib.hid hn1'
  have HMM := Lib.hid hm
  have HN3 := Lib.hid hn3
  have HQ := Lib.hid hq
  have hqn : q = n := by omega
  have HQN := Lib.hid hqn
  have hiq : i < q := by omega
  have him : i < m := by omega
  have hip : i < p := by omega
  have hqb : q ≤ 10 := by omega
  have hv0 := fun hk => (show canEv (gs.getD i default).ps st.vs = true from eager_canEv gs st.vs i hvg hl1 hr (by omega) hk)
  have hfb := eager_depF_bd gs st.vs hvg hl1 i (by omega)
  have hfr := depF_range gs st.vs hvg hl1 i (by omega)
  have hco : colOK gs st i = if (gs.getD i default).k == 0 then (st.cs.getD i 0 == 0) && decide ((st.rs.getD i []).length = 0) else if st.cs.getD i 0 == 2 then apartL (st.rs.getD i []) && inL (st.rs.getD i []) (mayR (gs.getD i default).ps) else if st.cs.getD i 0 == 0 then asRun gs st i && cleanR st.cs (st.rs.getD i []) else asRun gs st i := rfl
  have har : asRun gs st i = ((valE gs st.vs i == st.vs.getD i 0) && decide (depF gs st.vs i = st.rs.getD i [])) := rfl
  have hvl : valE gs st.vs i = if (gs.getD i default).k == 0 then st.vs.getD i 0 else (whole (gs.getD i default).ps).ev st.vs := rfl
  have hdl : depF gs st.vs i = if (gs.getD i default).k == 0 then [] else firsts ((whole (gs.getD i default).ps).rds st.vs) := rfl
  have hmb : (mayR (gs.getD i default).ps).length ≤ 10 := mayR_len _ 10
  rw [← hn] at hfr
  clear h h' hcx hcy hps hls hn hm hp hq hs hb0 hvg hl1 hl2 hl3 hr hW2 hn1' hn3 hqn
  generalize colOK gs st i = r at *
  generalize asRun gs st i = ra at *
  generalize valE gs st.vs i = X at *
  generalize depF gs st.vs i = F at *
  generalize gs.getD i default = d at *
  generalize st.vs.getD i 0 = x at *
  generalize st.rs.getD i [] = L at *
  generalize hcs : st.cs = cs at *
  clear hcs
  generalize hcc : cs.getD i 0 = cc at *
  have HCC := Lib.hid hcc
  clear hcc
  cases hd : (d.k == 0)
  case true =>
    rw [hd] at hco
    simp only [if_true] at hco
    cases hc0 : (cc == 0)
    · have HF := Lib.hid (show r = false by rw [hco, hc0]; rfl)
      clear hco har hvl hdl hv0 hfb hfr
      go_enter Try.func52, Try.ntmps52
      go_wp2
      go_ret
      exact ⟨ret_b HF.out.symm, by rw [← HW2.out]; exact HB0.out⟩
    · rw [hc0, Bool.true_and] at hco
      have HF := Lib.hid (show r = ((n3 : Int) == 0) by rw [hco, HN3.out, Bool.eq_iff_iff, decide_eq_true_iff, beq_iff_eq]; omega)
      clear hco har hvl hdl hv0 hfb hfr
      go_enter Try.func52, Try.ntmps52
      go_wp2
      go_ret
      exact ⟨ret_b HF.out.symm, by rw [← HW2.out]; exact HB0.out⟩
  case false =>
    have hce := hv0 hd
    rw [hd] at hco hvl hdl
    simp only [Bool.false_eq_true, if_false] at hco hvl hdl
    cases hc2 : (cc == 2)
    case true =>
      rw [hc2] at hco
      simp only [if_true] at hco
      have HFO := Lib.hid fun (w' : World) (hB' : B ≤ w'.heap.size) (h : IS w' B A3 L) => spec_firstOnly A3 n3 c3 L w' B hB' HN3.out h (by omega)
      have HMR := Lib.hid fun (w' : World) (hB' : B ≤ w'.heap.size) (h : PS w' B A1 d.ps) => spec_mayRead A1 n1 c1 d.ps w' B hB' HN1.out h (by omega)
      have hap := apartL_firsts L
      rw [← HN3.out] at hap
      have him := inL_miss L (mayR d.ps)
      generalize hM : mayR d.ps = M at *
      clear hM
      generalize hFF : firsts L = FF at *
      clear hFF
      clear hvl hdl har hv0 hce hfb hfr
      cases ha : apartL L
      · have HF := Lib.hid (show r = false by rw [hco, ha]; rfl)
        rw [ha] at hap
        clear hco ha him
        go_enter Try.func52, Try.ntmps52
        go_wp2
        rw [← HW2.out]
        clear c0 c2 d0 d1 d2
        obtain ⟨s0, s1, s2, s3⟩ := HT.out
        obtain ⟨t1, t2, t3, t4⟩ := HT2.out
        refine wp_region_held_drew (S := fun w' => w'.cell? ⟨w.heap.size + 1, 1, none⟩ = some (.slice (some ⟨b3, off3, none⟩) p ec) ∧ w'.cell? ⟨b3, off3 + i, none⟩ = some (.slice A3 n3 c3)) (by kernel_rfl) ⟨s2, t3⟩ (fun hHeld => ?_)
        refine wpAnyH_take (i := 0) (oi := ⟨some 38, _, _, _, _, _⟩) (v := ?_) rfl (by kernel_rfl) (by kernel_rfl) (by kernel_rfl) (fun _ _ _ h => h) (Or.inl ⟨by rfl, ?_⟩) (by assumption) ?_; rotate_left; (focus (intro w hSw; (try dsimp only at hSw); go_simp; (try with_reducible rfl))); (try simp only [Act.put, List.setIfInBounds_toArray, List.set_cons_zero, List.set_cons_succ])
        refine wpAnyH_take (i := 1) (oi := ⟨some 39, _, _, _, _, _⟩) (v := ?_) rfl (by kernel_rfl) (by kernel_rfl) (by kernel_rfl) (fun _ _ _ h => h) (Or.inl ⟨by rfl, ?_⟩) (by assumption) ?_; rotate_left; (focus (intro w hSw; (try dsimp only at hSw); go_simp; (try with_reducible rfl))); (try simp only [Act.put, List.setIfInBounds_toArray, List.set_cons_zero, List.set_cons_succ])
        refine wpAnyH_take (i := 2) (oi := ⟨some 40, _, _, _, _, _⟩) (v := ?_) rfl (by kernel_rfl) (by kernel_rfl) (by kernel_rfl) (fun _ _ _ h => h) (Or.inl ⟨by rfl, ?_⟩) (by assumption) ?_; rotate_left; (focus (intro w hSw; (try dsimp only at hSw); go_simp; (try with_reducible rfl))); (try simp only [Act.put, List.setIfInBounds_toArray, List.set_cons_zero, List.set_cons_succ])
        refine wpAnyH_take (i := 3) (oi := ⟨some 41, _, _, _, _, _⟩) (v := ?_) rfl (by kernel_rfl) (by kernel_rfl) (by kernel_rfl) (fun _ _ _ h => h) (Or.inl ⟨by rfl, ?_⟩) (by assumption) ?_; rotate_left; (focus (intro w hSw; (try dsimp only at hSw); go_simp; (try with_reducible rfl))); (try simp only [Act.put, List.setIfInBounds_toArray, List.set_cons_zero, List.set_cons_succ])
        refine wpAnyH_take (i := 4) (oi := ⟨some 42, _, _, _, _, _⟩) (v := ?_) rfl (by kernel_rfl) (by kernel_rfl) (by kernel_rfl) (fun _ _ _ h => h) (Or.inl ⟨by rfl, ?_⟩) (by assumption) ?_; rotate_left; (focus (intro w hSw; (try dsimp only at hSw); go_simp; (try with_reducible rfl))); (try simp only [Act.put, List.setIfInBounds_toArray, List.set_cons_zero, List.set_cons_succ])
        refine wpAnyH_take (i := 5) (oi := ⟨some 43, _, _, _, _, _⟩) (v := ?_) rfl (by kernel_rfl) (by kernel_rfl) (by kernel_rfl) (fun _ _ _ h => h) (Or.inl ⟨by rfl, ?_⟩) (by assumption) ?_; rotate_left; (focus (intro w hSw; (try dsimp only at hSw); go_simp; (try with_reducible rfl))); (try simp only [Act.put, List.setIfInBounds_toArray, List.set_cons_zero, List.set_cons_succ])
        refine wpAnyH_take (i := 6) (oi := ⟨some 44, _, _, _, _, _⟩) (v := ?_) rfl (by kernel_rfl) (by kernel_rfl) (by kernel_rfl) (fun _ _ _ h => h) (Or.inl ⟨by rfl, ?_⟩) (by assumption) ?_; rotate_left; (focus (intro w hSw; (try dsimp only at hSw); go_simp; (try with_reducible rfl))); (try simp only [Act.put, List.setIfInBounds_toArray, List.set_cons_zero, List.set_cons_succ])
        refine wpAnyH_take (i := 7) (oi := ⟨some 45, _, _, _, _, _⟩) (v := ?_) rfl (by kernel_rfl) (by kernel_rfl) (by kernel_rfl) (fun _ _ _ h => h) (Or.inl ⟨by rfl, ?_⟩) (by assumption) ?_; rotate_left; (focus (intro w hSw; (try dsimp only at hSw); go_simp; (try with_reducible rfl))); (try simp only [Act.put, List.setIfInBounds_toArray, List.set_cons_zero, List.set_cons_succ])
        refine wpAnyH_take (i := 8) (oi := ⟨some 46, _, _, _, _, _⟩) (v := ?_) rfl (by kernel_rfl) (by kernel_rfl) (by kernel_rfl) (fun _ _ _ h => h) (Or.inl ⟨by rfl, ?_⟩) (by assumption) ?_; rotate_left; (focus (intro w hSw; (try dsimp only at hSw); go_simp; (try with_reducible rfl))); (try simp only [Act.put, List.setIfInBounds_toArray, List.set_cons_zero, List.set_cons_succ])
        refine wpAnyH_take (i := 9) (oi := ⟨some 47, _, _, _, _, _⟩) (v := ?_) rfl (by kernel_rfl) (by kernel_rfl) (by kernel_rfl) (fun _ _ _ h => h) (Or.inl ⟨by rfl, ?_⟩) (by assumption) ?_; rotate_left; (focus (intro w hSw; (try dsimp only at hSw); go_simp; (try with_reducible rfl))); (try simp only [Act.put, List.setIfInBounds_toArray, List.set_cons_zero, List.set_cons_succ])
        refine wpAnyH_take (i := 10) (oi := ⟨some 48, _, _, _, _, _⟩) (v := ?_) rfl (by kernel_rfl) (by kernel_rfl) (by kernel_rfl) (fun _ _ _ h => h) (Or.inl ⟨by rfl, ?_⟩) (by assumption) ?_; rotate_left; (focus (intro w hSw; (try dsimp only at hSw); go_simp; (try with_reducible rfl))); (try simp only [Act.put, List.setIfInBounds_toArray, List.set_cons_zero, List.set_cons_succ])
        refine wpAnyH_ready (rs := [11]) (by kernel_rfl) (by simp) ?_; refine AllReadyH.cons (o := ⟨some 49, _, _, _, _, _⟩) rfl (fun K hK => ?_) AllReadyH.nil; go_simp
        go_at_call 67
        refine (HFO.out W2.drew (show B ≤ W2.heap.size by omega) HLS.out).mono ?_
        rintro e w5 ⟨v5, rfl, ho, hb5'⟩
        obtain ⟨g5, c5, rfl, hg5, hg5'⟩ := ho.form
        have hb5 : Below W2.heap.size W2 w5 := below_of_drew hb5'
        have u2 := (hb5.cell (p := ⟨w.heap.size + 1, 1, none⟩) (by show w.heap.size + 1 < W2.heap.size; omega)).trans s2
        have u3 := (hb5.cell (p := ⟨b3, off3 + i, none⟩) (by show b3 < W2.heap.size; omega)).trans t3
        refine hK.out _ _ ⟨u2, u3⟩ (fun hHeld => ?_)
        clear hK K
        (try simp only [Act.put, List.setIfInBounds_toArray, List.set_cons_zero, List.set_cons_succ])
        refine wpAnyH_take (i := 12) (oi := ⟨some 50, _, _, _, _, _⟩) (v := ?_) rfl (by kernel_rfl) (by kernel_rfl) (by kernel_rfl) (fun _ _ _ h => h) (Or.inl ⟨by rfl, ?_⟩) (by assumption) ?_; rotate_left; (focus (intro w hSw; (try dsimp only at hSw); go_simp; (try with_reducible rfl))); (try simp only [Act.put, List.setIfInBounds_toArray, List.set_cons_zero, List.set_cons_succ])
        refine wpAnyH_take (i := 13) (oi := ⟨some 51, _, _, _, _, _⟩) (v := ?_) rfl (by kernel_rfl) (by kernel_rfl) (by kernel_rfl) (fun _ _ _ h => h) (Or.inl ⟨by rfl, ?_⟩) (by assumption) ?_; rotate_left; (focus (intro w hSw; (try dsimp only at hSw); go_simp; (try with_reducible rfl))); (try simp only [Act.put, List.setIfInBounds_toArray, List.set_cons_zero, List.set_cons_succ])
        refine wpAnyH_take (i := 14) (oi := ⟨some 52, _, _, _, _, _⟩) (v := ?_) rfl (by kernel_rfl) (by kernel_rfl) (by kernel_rfl) (fun _ _ _ h => h) (Or.inl ⟨by rfl, ?_⟩) (by assumption) ?_; rotate_left; (focus (intro w hSw; (try dsimp only at hSw); go_simp; (try with_reducible rfl))); (try simp only [Act.put, List.setIfInBounds_toArray, List.set_cons_zero, List.set_cons_succ])
        refine wpAnyH_take (i := 15) (oi := ⟨some 53, _, _, _, _, _⟩) (v := undef) rfl (by kernel_rfl) (by kernel_rfl) (by kernel_rfl) (fun _ _ _ h => h) (Or.inr ⟨by rfl, rfl⟩) (by assumption) ?_; (try simp only [Act.put, List.setIfInBounds_toArray, List.set_cons_zero, List.set_cons_succ])
        refine wpAnyH_take (i := 16) (oi := ⟨some 54, _, _, _, _, _⟩) (v := undef) rfl (by kernel_rfl) (by kernel_rfl) (by kernel_rfl) (fun _ _ _ h => h) (Or.inr ⟨by rfl, rfl⟩) (by assumption) ?_; (try simp only [Act.put, List.setIfInBounds_toArray, List.set_cons_zero, List.set_cons_succ])
        refine wpAnyH_take (i := 17) (oi := ⟨some 55, _, _, _, _, _⟩) (v := undef) rfl (by kernel_rfl) (by kernel_rfl) (by kernel_rfl) (fun _ _ _ h => h) (Or.inr ⟨by rfl, rfl⟩) (by assumption) ?_; (try simp only [Act.put, List.setIfInBounds_toArray, List.set_cons_zero, List.set_cons_succ])
        refine wpAnyH_take (i := 18) (oi := ⟨some 56, _, _, _, _, _⟩) (v := undef) rfl (by kernel_rfl) (by kernel_rfl) (by kernel_rfl) (fun _ _ _ h => h) (Or.inr ⟨by rfl, rfl⟩) (by assumption) ?_; (try simp only [Act.put, List.setIfInBounds_toArray, List.set_cons_zero, List.set_cons_succ])
        refine wpAnyH_take (i := 19) (oi := ⟨some 57, _, _, _, _, _⟩) (v := undef) rfl (by kernel_rfl) (by kernel_rfl) (by kernel_rfl) (fun _ _ _ h => h) (Or.inr ⟨by rfl, rfl⟩) (by assumption) ?_; (try simp only [Act.put, List.setIfInBounds_toArray, List.set_cons_zero, List.set_cons_succ])
        refine wpAnyH_take (i := 20) (oi := ⟨some 58, _, _, _, _, _⟩) (v := undef) rfl (by kernel_rfl) (by kernel_rfl) (by kernel_rfl) (fun _ _ _ h => h) (Or.inr ⟨by rfl, rfl⟩) (by assumption) ?_; (try simp only [Act.put, List.setIfInBounds_toArray, List.set_cons_zero, List.set_cons_succ])
        refine wpAnyH_take (i := 21) (oi := ⟨some 59, _, _, _, _, _⟩) (v := undef) rfl (by kernel_rfl) (by kernel_rfl) (by kernel_rfl) (fun _ _ _ h => h) (Or.inr ⟨by rfl, rfl⟩) (by assumption) ?_; (try simp only [Act.put, List.setIfInBounds_toArray, List.set_cons_zero, List.set_cons_succ])
        refine wpAnyH_take (i := 22) (oi := ⟨some 60, _, _, _, _, _⟩) (v := undef) rfl (by kernel_rfl) (by kernel_rfl) (by kernel_rfl) (fun _ _ _ h => h) (Or.inr ⟨by rfl, rfl⟩) (by assumption) ?_; (try simp only [Act.put, List.setIfInBounds_toArray, List.set_cons_zero, List.set_cons_succ])
        refine wpAnyH_take (i := 23) (oi := ⟨some 61, _, _, _, _, _⟩) (v := undef) rfl (by kernel_rfl) (by kernel_rfl) (by kernel_rfl) (fun _ _ _ h => h) (Or.inr ⟨by rfl, rfl⟩) (by assumption) ?_; (try simp only [Act.put, List.setIfInBounds_toArray, List.set_cons_zero, List.set_cons_succ])
        refine wpAnyH_take (i := 24) (oi := ⟨some 62, _, _, _, _, _⟩) (v := undef) rfl (by kernel_rfl) (by kernel_rfl) (by kernel_rfl) (fun _ _ _ h => h) (Or.inr ⟨by rfl, rfl⟩) (by assumption) ?_; (try simp only [Act.put, List.setIfInBounds_toArray, List.set_cons_zero, List.set_cons_succ])
        refine wpAnyH_take (i := 25) (oi := ⟨some 63, _, _, _, _, _⟩) (v := undef) rfl (by kernel_rfl) (by kernel_rfl) (by kernel_rfl) (fun _ _ _ h => h) (Or.inr ⟨by rfl, rfl⟩) (by assumption) ?_; (try simp only [Act.put, List.setIfInBounds_toArray, List.set_cons_zero, List.set_cons_succ])
        refine wpAnyH_take (i := 26) (oi := ⟨some 64, _, _, _, _, _⟩) (v := undef) rfl (by kernel_rfl) (by kernel_rfl) (by kernel_rfl) (fun _ _ _ h => h) (Or.inr ⟨by rfl, rfl⟩) (by assumption) ?_; (try simp only [Act.put, List.setIfInBounds_toArray, List.set_cons_zero, List.set_cons_succ])
        refine wpAnyH_take (i := 27) (oi := ⟨some 65, _, _, _, _, _⟩) (v := undef) rfl (by kernel_rfl) (by kernel_rfl) (by kernel_rfl) (fun _ _ _ h => h) (Or.inr ⟨by rfl, rfl⟩) (by assumption) ?_; (try simp only [Act.put, List.setIfInBounds_toArray, List.set_cons_zero, List.set_cons_succ])
        refine wpAnyH_take (i := 28) (oi := ⟨some 66, _, _, _, _, _⟩) (v := undef) rfl (by kernel_rfl) (by kernel_rfl) (by kernel_rfl) (fun _ _ _ h => h) (Or.inr ⟨by rfl, rfl⟩) (by assumption) ?_; (try simp only [Act.put, List.setIfInBounds_toArray, List.set_cons_zero, List.set_cons_succ])
        refine wpAnyH_take (i := 29) (oi := ⟨some 67, _, _, _, _, _⟩) (v := undef) rfl (by kernel_rfl) (by kernel_rfl) (by kernel_rfl) (fun _ _ _ h => h) (Or.inr ⟨by rfl, rfl⟩) (by assumption) ?_; (try simp only [Act.put, List.setIfInBounds_toArray, List.set_cons_zero, List.set_cons_succ])
        refine wpAnyH_take (i := 30) (oi := ⟨some 68, _, _, _, _, _⟩) (v := ?_) rfl (by kernel_rfl) (by kernel_rfl) (by kernel_rfl) (fun _ _ _ h => h) (Or.inl ⟨by rfl, ?_⟩) (by assumption) ?_; rotate_left; (focus (intro w hSw; (try dsimp only at hSw); go_simp; (try with_reducible rfl))); (try simp only [Act.put, List.setIfInBounds_toArray, List.set_cons_zero, List.set_cons_succ])
        refine wpAnyH_take (i := 31) (oi := ⟨some 6, _, _, _, _, _⟩) (v := ?_) rfl (by kernel_rfl) (by kernel_rfl) (by kernel_rfl) (fun _ _ _ h => h) (Or.inl ⟨by rfl, ?_⟩) (by assumption) ?_; rotate_left; (focus (intro w hSw; (try dsimp only at hSw); go_simp; (try with_reducible rfl))); (try simp only [Act.put, List.setIfInBounds_toArray, List.set_cons_zero, List.set_cons_succ])
        refine wpAnyH_done (by kernel_rfl) ?_ _
        go_wp2
        go_ret
        exact ⟨ret_b HF.out.symm, HB0.out.trans (hb5.mono (by omega))⟩
      · have HF := Lib.hid (show r = inL L M by rw [hco, ha]; rfl)
        rw [ha] at hap
        clear hco ha
        generalize inL L M = ri at *
        have HIM := Lib.hid him
        clear him
        go_enter Try.func52, Try.ntmps52
        go_wp2
        rw [← HW2.out]
        clear c0 c2 d0 d1 d2
        obtain ⟨s0, s1, s2, s3⟩ := HT.out
        obtain ⟨t1, t2, t3, t4⟩ := HT2.out
        obtain ⟨fl, hfl⟩ : ∃ fl, fl = FF.length := ⟨_, rfl⟩
        rw [← hfl] at hap
        have HFL := Lib.hid hfl
        clear hfl
        refine wp_region_held_drew (S := fun w' => w'.cell? ⟨w.heap.size + 1, 1, none⟩ = some (.slice (some ⟨b3, off3, none⟩) p ec) ∧ w'.cell? ⟨b3, off3 + i, none⟩ = some (.slice A3 n3 c3) ∧ w'.cell? ⟨w.heap.size, 0, none⟩ = some (.slice (some ⟨b, off, none⟩) n c) ∧ w'.cell? ⟨b, off + i * 2 + 1, none⟩ = some (.slice A1 n1 c1)) (by kernel_rfl) ⟨s2, t3, s0, t1⟩ (fun hHeld => ?_)
        refine wpAnyH_take (i := 0) (oi := ⟨some 38, _, _, _, _, _⟩) (v := ?_) rfl (by kernel_rfl) (by kernel_rfl) (by kernel_rfl) (fun _ _ _ h => h) (Or.inl ⟨by rfl, ?_⟩) (by assumption) ?_; rotate_left; (focus (intro w hSw; (try dsimp only at hSw); go_simp; (try with_reducible rfl))); (try simp only [Act.put, List.setIfInBounds_toArray, List.set_cons_zero, List.set_cons_succ])
        refine wpAnyH_take (i := 1) (oi := ⟨some 39, _, _, _, _, _⟩) (v := ?_) rfl (by kernel_rfl) (by kernel_rfl) (by kernel_rfl) (fun _ _ _ h => h) (Or.inl ⟨by rfl, ?_⟩) (by assumption) ?_; rotate_left; (focus (intro w hSw; (try dsimp only at hSw); go_simp; (try with_reducible rfl))); (try simp only [Act.put, List.setIfInBounds_toArray, List.set_cons_zero, List.set_cons_succ])
        refine wpAnyH_take (i := 2) (oi := ⟨some 40, _, _, _, _, _⟩) (v := ?_) rfl (by kernel_rfl) (by kernel_rfl) (by kernel_rfl) (fun _ _ _ h => h) (Or.inl ⟨by rfl, ?_⟩) (by assumption) ?_; rotate_left; (focus (intro w hSw; (try dsimp only at hSw); go_simp; (try with_reducible rfl))); (try simp only [Act.put, List.setIfInBounds_toArray, List.set_cons_zero, List.set_cons_succ])
        refine wpAnyH_take (i := 3) (oi := ⟨some 41, _, _, _, _, _⟩) (v := ?_) rfl (by kernel_rfl) (by kernel_rfl) (by kernel_rfl) (fun _ _ _ h => h) (Or.inl ⟨by rfl, ?_⟩) (by assumption) ?_; rotate_left; (focus (intro w hSw; (try dsimp only at hSw); go_simp; (try with_reducible rfl))); (try simp only [Act.put, List.setIfInBounds_toArray, List.set_cons_zero, List.set_cons_succ])
        refine wpAnyH_take (i := 4) (oi := ⟨some 42, _, _, _, _, _⟩) (v := ?_) rfl (by kernel_rfl) (by kernel_rfl) (by kernel_rfl) (fun _ _ _ h => h) (Or.inl ⟨by rfl, ?_⟩) (by assumption) ?_; rotate_left; (focus (intro w hSw; (try dsimp only at hSw); go_simp; (try with_reducible rfl))); (try simp only [Act.put, List.setIfInBounds_toArray, List.set_cons_zero, List.set_cons_succ])
        refine wpAnyH_take (i := 5) (oi := ⟨some 43, _, _, _, _, _⟩) (v := ?_) rfl (by kernel_rfl) (by kernel_rfl) (by kernel_rfl) (fun _ _ _ h => h) (Or.inl ⟨by rfl, ?_⟩) (by assumption) ?_; rotate_left; (focus (intro w hSw; (try dsimp only at hSw); go_simp; (try with_reducible rfl))); (try simp only [Act.put, List.setIfInBounds_toArray, List.set_cons_zero, List.set_cons_succ])
        refine wpAnyH_take (i := 6) (oi := ⟨some 44, _, _, _, _, _⟩) (v := ?_) rfl (by kernel_rfl) (by kernel_rfl) (by kernel_rfl) (fun _ _ _ h => h) (Or.inl ⟨by rfl, ?_⟩) (by assumption) ?_; rotate_left; (focus (intro w hSw; (try dsimp only at hSw); go_simp; (try with_reducible rfl))); (try simp only [Act.put, List.setIfInBounds_toArray, List.set_cons_zero, List.set_cons_succ])
        refine wpAnyH_take (i := 7) (oi := ⟨some 45, _, _, _, _, _⟩) (v := ?_) rfl (by kernel_rfl) (by kernel_rfl) (by kernel_rfl) (fun _ _ _ h => h) (Or.inl ⟨by rfl, ?_⟩) (by assumption) ?_; rotate_left; (focus (intro w hSw; (try dsimp only at hSw); go_simp; (try with_reducible rfl))); (try simp only [Act.put, List.setIfInBounds_toArray, List.set_cons_zero, List.set_cons_succ])
        refine wpAnyH_take (i := 8) (oi := ⟨some 46, _, _, _, _, _⟩) (v := ?_) rfl (by kernel_rfl) (by kernel_rfl) (by kernel_rfl) (fun _ _ _ h => h) (Or.inl ⟨by rfl, ?_⟩) (by assumption) ?_; rotate_left; (focus (intro w hSw; (try dsimp only at hSw); go_simp; (try with_reducible rfl))); (try simp only [Act.put, List.setIfInBounds_toArray, List.set_cons_zero, List.set_cons_succ])
        refine wpAnyH_take (i := 9) (oi := ⟨some 47, _, _, _, _, _⟩) (v := ?_) rfl (by kernel_rfl) (by kernel_rfl) (by kernel_rfl) (fun _ _ _ h => h) (Or.inl ⟨by rfl, ?_⟩) (by assumption) ?_; rotate_left; (focus (intro w hSw; (try dsimp only at hSw); go_simp; (try with_reducible rfl))); (try simp only [Act.put, List.setIfInBounds_toArray, List.set_cons_zero, List.set_cons_succ])
        refine wpAnyH_take (i := 10) (oi := ⟨some 48, _, _, _, _, _⟩) (v := ?_) rfl (by kernel_rfl) (by kernel_rfl) (by kernel_rfl) (fun _ _ _ h => h) (Or.inl ⟨by rfl, ?_⟩) (by assumption) ?_; rotate_left; (focus (intro w hSw; (try dsimp only at hSw); go_simp; (try with_reducible rfl))); (try simp only [Act.put, List.setIfInBounds_toArray, List.set_cons_zero, List.set_cons_succ])
        refine wpAnyH_ready (rs := [11]) (by kernel_rfl) (by simp) ?_; refine AllReadyH.cons (o := ⟨some 49, _, _, _, _, _⟩) rfl (fun K hK => ?_) AllReadyH.nil; go_simp
        go_at_call 67
        refine (HFO.out W2.drew (show B ≤ W2.heap.size by omega) HLS.out).mono ?_
        rintro e w5 ⟨v5, rfl, ho, hb5'⟩
        obtain ⟨g5, c5, rfl, hg5, hg5'⟩ := ho.form
        rw [← HFL.out]
        have hb5 : Below W2.heap.size W2 w5 := below_of_drew hb5'
        have u0 := (hb5.cell (p := ⟨w.heap.size, 0, none⟩) (by show w.heap.size < W2.heap.size; omega)).trans s0
        have u1 := (hb5.cell (p := ⟨b, off + i * 2 + 1, none⟩) (by show b < W2.heap.size; omega)).trans t1
        have u2 := (hb5.cell (p := ⟨w.heap.size + 1, 1, none⟩) (by show w.heap.size + 1 < W2.heap.size; omega)).trans s2
        have u3 := (hb5.cell (p := ⟨b3, off3 + i, none⟩) (by show b3 < W2.heap.size; omega)).trans t3
        have hs5 : W2.heap.size ≤ w5.heap.size := hb5.size
        refine hK.out _ _ ⟨u2, u3, u0, u1⟩ (fun hHeld => ?_)
        clear hK K
        (try simp only [Act.put, List.setIfInBounds_toArray, List.set_cons_zero, List.set_cons_succ])
        refine wpAnyH_take (i := 12) (oi := ⟨some 50, _, _, _, _, _⟩) (v := ?_) rfl (by kernel_rfl) (by kernel_rfl) (by kernel_rfl) (fun _ _ _ h => h) (Or.inl ⟨by rfl, ?_⟩) (by assumption) ?_; rotate_left; (focus (intro w hSw; (try dsimp only at hSw); go_simp; (try with_reducible rfl))); (try simp only [Act.put, List.setIfInBounds_toArray, List.set_cons_zero, List.set_cons_succ])
        refine wpAnyH_take (i := 13) (oi := ⟨some 51, _, _, _, _, _⟩) (v := ?_) rfl (by kernel_rfl) (by kernel_rfl) (by kernel_rfl) (fun _ _ _ h => h) (Or.inl ⟨by rfl, ?_⟩) (by assumption) ?_; rotate_left; (focus (intro w hSw; (try dsimp only at hSw); go_simp; (try with_reducible rfl))); (try simp only [Act.put, List.setIfInBounds_toArray, List.set_cons_zero, List.set_cons_succ])
        refine wpAnyH_take (i := 14) (oi := ⟨some 52, _, _, _, _, _⟩) (v := ?_) rfl (by kernel_rfl) (by kernel_rfl) (by kernel_rfl) (fun _ _ _ h => h) (Or.inl ⟨by rfl, ?_⟩) (by assumption) ?_; rotate_left; (focus (intro w hSw; (try dsimp only at hSw); go_simp; (try with_reducible rfl))); (try simp only [Act.put, List.setIfInBounds_toArray, List.set_cons_zero, List.set_cons_succ])
        refine wpAnyH_take (i := 15) (oi := ⟨some 53, _, _, _, _, _⟩) (v := ?_) rfl (by kernel_rfl) (by kernel_rfl) (by kernel_rfl) (fun _ _ _ h => h) (Or.inl ⟨by rfl, ?_⟩) (by assumption) ?_; rotate_left; (focus (intro w hSw; (try dsimp only at hSw); go_simp; (try with_reducible rfl))); (try simp only [Act.put, List.setIfInBounds_toArray, List.set_cons_zero, List.set_cons_succ])
        refine wpAnyH_take (i := 16) (oi := ⟨some 54, _, _, _, _, _⟩) (v := ?_) rfl (by kernel_rfl) (by kernel_rfl) (by kernel_rfl) (fun _ _ _ h => h) (Or.inl ⟨by rfl, ?_⟩) (by assumption) ?_; rotate_left; (focus (intro w hSw; (try dsimp only at hSw); go_simp; (try with_reducible rfl))); (try simp only [Act.put, List.setIfInBounds_toArray, List.set_cons_zero, List.set_cons_succ])
        refine wpAnyH_take (i := 17) (oi := ⟨some 55, _, _, _, _, _⟩) (v := ?_) rfl (by kernel_rfl) (by kernel_rfl) (by kernel_rfl) (fun _ _ _ h => h) (Or.inl ⟨by rfl, ?_⟩) (by assumption) ?_; rotate_left; (focus (intro w hSw; (try dsimp only at hSw); go_simp; (try with_reducible rfl))); (try simp only [Act.put, List.setIfInBounds_toArray, List.set_cons_zero, List.set_cons_succ])
        refine wpAnyH_take (i := 18) (oi := ⟨some 56, _, _, _, _, _⟩) (v := ?_) rfl (by kernel_rfl) (by kernel_rfl) (by kernel_rfl) (fun _ _ _ h => h) (Or.inl ⟨by rfl, ?_⟩) (by assumption) ?_; rotate_left; (focus (intro w hSw; (try dsimp only at hSw); go_simp; (try with_reducible rfl))); (try simp only [Act.put, List.setIfInBounds_toArray, List.set_cons_zero, List.set_cons_succ])
        refine wpAnyH_take (i := 19) (oi := ⟨some 57, _, _, _, _, _⟩) (v := ?_) rfl (by kernel_rfl) (by kernel_rfl) (by kernel_rfl) (fun _ _ _ h => h) (Or.inl ⟨by rfl, ?_⟩) (by assumption) ?_; rotate_left; (focus (intro w hSw; (try dsimp only at hSw); go_simp; (try with_reducible rfl))); (try simp only [Act.put, List.setIfInBounds_toArray, List.set_cons_zero, List.set_cons_succ])
        refine wpAnyH_take (i := 20) (oi := ⟨some 58, _, _, _, _, _⟩) (v := ?_) rfl (by kernel_rfl) (by kernel_rfl) (by kernel_rfl) (fun _ _ _ h => h) (Or.inl ⟨by rfl, ?_⟩) (by assumption) ?_; rotate_left; (focus (intro w hSw; (try dsimp only at hSw); go_simp; (try with_reducible rfl))); (try simp only [Act.put, List.setIfInBounds_toArray, List.set_cons_zero, List.set_cons_succ])
        refine wpAnyH_take (i := 21) (oi := ⟨some 59, _, _, _, _, _⟩) (v := ?_) rfl (by kernel_rfl) (by kernel_rfl) (by kernel_rfl) (fun _ _ _ h => h) (Or.inl ⟨by rfl, ?_⟩) (by assumption) ?_; rotate_left; (focus (intro w hSw; (try dsimp only at hSw); go_simp; (try with_reducible rfl))); (try simp only [Act.put, List.setIfInBounds_toArray, List.set_cons_zero, List.set_cons_succ])
        refine wpAnyH_take (i := 22) (oi := ⟨some 60, _, _, _, _, _⟩) (v := ?_) rfl (by kernel_rfl) (by kernel_rfl) (by kernel_rfl) (fun _ _ _ h => h) (Or.inl ⟨by rfl, ?_⟩) (by assumption) ?_; rotate_left; (focus (intro w hSw; (try dsimp only at hSw); go_simp; (try with_reducible rfl))); (try simp only [Act.put, List.setIfInBounds_toArray, List.set_cons_zero, List.set_cons_succ])
        refine wpAnyH_take (i := 23) (oi := ⟨some 61, _, _, _, _, _⟩) (v := ?_) rfl (by kernel_rfl) (by kernel_rfl) (by kernel_rfl) (fun _ _ _ h => h) (Or.inl ⟨by rfl, ?_⟩) (by assumption) ?_; rotate_left; (focus (intro w hSw; (try dsimp only at hSw); go_simp; (try with_reducible rfl))); (try simp only [Act.put, List.setIfInBounds_toArray, List.set_cons_zero, List.set_cons_succ])
        refine wpAnyH_take (i := 24) (oi := ⟨some 62, _, _, _, _, _⟩) (v := ?_) rfl (by kernel_rfl) (by kernel_rfl) (by kernel_rfl) (fun _ _ _ h => h) (Or.inl ⟨by rfl, ?_⟩) (by assumption) ?_; rotate_left; (focus (intro w hSw; (try dsimp only at hSw); go_simp; (try with_reducible rfl))); (try simp only [Act.put, List.setIfInBounds_toArray, List.set_cons_zero, List.set_cons_succ])
        refine wpAnyH_take (i := 25) (oi := ⟨some 63, _, _, _, _, _⟩) (v := ?_) rfl (by kernel_rfl) (by kernel_rfl) (by kernel_rfl) (fun _ _ _ h => h) (Or.inl ⟨by rfl, ?_⟩) (by assumption) ?_; rotate_left; (focus (intro w hSw; (try dsimp only at hSw); go_simp; (try with_reducible rfl))); (try simp only [Act.put, List.setIfInBounds_toArray, List.set_cons_zero, List.set_cons_succ])
        refine wpAnyH_ready (rs := [26]) (by kernel_rfl) (by simp) ?_; refine AllReadyH.cons (o := ⟨some 64, _, _, _, _, _⟩) rfl (fun K hK => ?_) AllReadyH.nil; go_simp
        go_at_call 69
        refine (HMR.out w5 (by omega) (HPS.out.below hb5 (by omega))).mono ?_
        rintro e w6 ⟨v6, rfl, ho6, hb6⟩
        obtain ⟨g6, c6, rfl, hg6, hg6'⟩ := ho6.form
        have v0 := (hb6.cell (p := ⟨w.heap.size, 0, none⟩) (by show w.heap.size < w5.heap.size; omega)).trans u0
        have v1 := (hb6.cell (p := ⟨b, off + i * 2 + 1, none⟩) (by show b < w5.heap.size; omega)).trans u1
        have v2 := (hb6.cell (p := ⟨w.heap.size + 1, 1, none⟩) (by show w.heap.size + 1 < w5.heap.size; omega)).trans u2
        have v3 := (hb6.cell (p := ⟨b3, off3 + i, none⟩) (by show b3 < w5.heap.size; omega)).trans u3
        have hs6 : w5.heap.size ≤ w6.heap.size := hb6.size
        have HLS6 := Lib.hid (((HLS.out.below hb5 (by omega)).below hb6 (by omega)).more (B' := w6.heap.size) (by omega))
        refine hK.out _ _ ⟨v2, v3, v0, v1⟩ (fun hHeld => ?_)
        clear hK K
        (try simp only [Act.put, List.setIfInBounds_toArray, List.set_cons_zero, List.set_cons_succ])
        refine wpAnyH_ready (rs := [27]) (by kernel_rfl) (by simp) ?_; refine AllReadyH.cons (o := ⟨some 65, _, _, _, _, _⟩) rfl (fun K hK => ?_) AllReadyH.nil; go_simp
        go_at_call 68
        refine (spec_missing A3 (some ⟨g6, 0, none⟩) n3 c3 M.length c6 L M w6 w6.heap.size (Nat.le_refl _) HN3.out rfl HLS6.out (IS.of_own ho6.1) (by omega) (by omega)).mono ?_
        rintro e w7 ⟨v7, rfl, ho7, hb7⟩
        obtain ⟨A7, c7, rfl, _⟩ := OwnI.form ho7
        have x0 := (hb7.cell (p := ⟨w.heap.size, 0, none⟩) (by show w.heap.size < w6.heap.size; omega)).trans v0
        have x1 := (hb7.cell (p := ⟨b, off + i * 2 + 1, none⟩) (by show b < w6.heap.size; omega)).trans v1
        have x2 := (hb7.cell (p := ⟨w.heap.size + 1, 1, none⟩) (by show w.heap.size + 1 < w6.heap.size; omega)).trans v2
        have x3 := (hb7.cell (p := ⟨b3, off3 + i, none⟩) (by show b3 < w6.heap.size; omega)).trans v3
        obtain ⟨ml, hml⟩ : ∃ ml, ml = (missL L M).length := ⟨_, rfl⟩
        have HIM2 : Hid (((ml : Int) == 0) = ri) := by rw [hml]; exact HIM.out
        rw [← hml]
        clear hml
        refine hK.out _ _ ⟨x2, x3, x0, x1⟩ (fun hHeld => ?_)
        clear hK K
        (try simp only [Act.put, List.setIfInBounds_toArray, List.set_cons_zero, List.set_cons_succ])
        refine wpAnyH_take (i := 28) (oi := ⟨some 66, _, _, _, _, _⟩) (v := ?_) rfl (by kernel_rfl) (by kernel_rfl) (by kernel_rfl) (fun _ _ _ h => h) (Or.inl ⟨by rfl, ?_⟩) (by assumption) ?_; rotate_left; (focus (intro w hSw; (try dsimp only at hSw); go_simp; (try with_reducible rfl))); (try simp only [Act.put, List.setIfInBounds_toArray, List.set_cons_zero, List.set_cons_succ])
        refine wpAnyH_take (i := 29) (oi := ⟨some 67, _, _, _, _, _⟩) (v := ?_) rfl (by kernel_rfl) (by kernel_rfl) (by kernel_rfl) (fun _ _ _ h => h) (Or.inl ⟨by rfl, ?_⟩) (by assumption) ?_; rotate_left; (focus (intro w hSw; (try dsimp only at hSw); go_simp; (try with_reducible rfl))); (try simp only [Act.put, List.setIfInBounds_toArray, List.set_cons_zero, List.set_cons_succ])
        refine wpAnyH_take (i := 30) (oi := ⟨some 68, _, _, _, _, _⟩) (v := ?_) rfl (by kernel_rfl) (by kernel_rfl) (by kernel_rfl) (fun _ _ _ h => h) (Or.inl ⟨by rfl, ?_⟩) (by assumption) ?_; rotate_left; (focus (intro w hSw; (try dsimp only at hSw); go_simp; (try with_reducible rfl))); (try simp only [Act.put, List.setIfInBounds_toArray, List.set_cons_zero, List.set_cons_succ])
        refine wpAnyH_take (i := 31) (oi := ⟨some 6, _, _, _, _, _⟩) (v := ?_) rfl (by kernel_rfl) (by kernel_rfl) (by kernel_rfl) (fun _ _ _ h => h) (Or.inl ⟨by rfl, ?_⟩) (by assumption) ?_; rotate_left; (focus (intro w hSw; (try dsimp only at hSw); go_simp; (try with_reducible rfl))); (try simp only [Act.put, List.setIfInBounds_toArray, List.set_cons_zero, List.set_cons_succ])
        refine wpAnyH_done (by kernel_rfl) ?_ _
        clear ho ho6 ho7
        go_wp2
        go_ret
        exact ⟨ret_b (HF.out.trans HIM2.out.symm).symm, ((HB0.out.trans (hb5.mono (by omega))).trans (hb6.mono (by omega))).trans (hb7.mono (by omega))⟩
    case false =>
      rw [hc2] at hco
      simp only [Bool.false_eq_true, if_false] at hco
      obtain ⟨hv1, hvv, hl10, hea⟩ := canEv_parts d.ps st.vs hce
      obtain ⟨hg, h1, h12⟩ := validF_good d.ps hv1
      rw [← HMM.out] at hea
      have HR := Lib.hid fun (w' : World) (hB' : B ≤ w'.heap.size) (h : PS w' B A1 d.ps) (h' : IS w' B (some ⟨b2, off2, none⟩) st.vs) =>
        spec_run A1 (some ⟨b2, off2, none⟩) n1 c1 m c' d.ps st.vs B HN1.out HMM.out hg hea hvo (by have := HN1.out; omega) (by have := HN1.out; omega) (by have := HMM.out; omega) w' hB' h h'
      clear hv1 hvv hl10 hea hg h1 h12 hvo hv0 hce
      rw [← hvl, ← hdl] at HR
      clear hvl hdl
      have HBAD : Hid ((cc == 0) = true → (∃ k, k < F.length ∧ (cs.getD (F.getD k 0).toNat 0 == 0) = false) → r = false) := fun h0 ⟨k, hk, hkk⟩ => by
        rw [hco, h0, har]
        simp only [if_true]
        by_cases hFL : F = L
        · rw [← hFL, cleanR_bad cs F k hk hkk, Bool.and_false]
        · rw [decide_eq_false hFL]; simp
      have HGOOD : Hid (((cc == 0) = true → ∀ k, k < F.length → (cs.getD (F.getD k 0).toNat 0 == 0) = true) → r = ((X == x) && decide (F = L))) := fun hh => by
        rw [hco, har]
        cases h0 : (cc == 0)
        · rfl
        · simp only [if_true]
          by_cases hFL : F = L
          · rw [← hFL, cleanR_fin cs F (hh h0)]; simp
          · rw [decide_eq_false hFL]; simp
      have HFR := Lib.hid hfr
      clear hco har hfr
      go_enter Try.func52, Try.ntmps52
      go_wp2
      rw [← HW2.out]
      clear c0 c2 d0 d1 d2
      obtain ⟨s0, s1, s2, s3⟩ := HT.out
      obtain ⟨t1, t2, t3, t4⟩ := HT2.out
      refine wp_region_held_drew (S := fun w' => w'.cell? ⟨w.heap.size, 0, none⟩ = some (.slice (some ⟨b, off, none⟩) n c) ∧ w'.cell? ⟨b, off + i * 2 + 1, none⟩ = some (.slice A1 n1 c1) ∧ w'.cell? ⟨w.heap.size + 1, 0, none⟩ = some (.slice (some ⟨b2, off2, none⟩) m c')) (by kernel_rfl) ⟨s0, t1, s1⟩ (fun hHeld => ?_)
      refine wpAnyH_take (i := 0) (oi := ⟨some 70, _, _, _, _, _⟩) (v := ?_) rfl (by kernel_rfl) (by kernel_rfl) (by kernel_rfl) (fun _ _ _ h => h) (Or.inl ⟨by rfl, ?_⟩) (by assumption) ?_; rotate_left; (focus (intro w hSw; (try dsimp only at hSw); go_simp; (try with_reducible rfl))); (try simp only [Act.put, List.setIfInBounds_toArray, List.set_cons_zero, List.set_cons_succ])
      refine wpAnyH_take (i := 1) (oi := ⟨some 71, _, _, _, _, _⟩) (v := ?_) rfl (by kernel_rfl) (by kernel_rfl) (by kernel_rfl) (fun _ _ _ h => h) (Or.inl ⟨by rfl, ?_⟩) (by assumption) ?_; rotate_left; (focus (intro w hSw; (try dsimp only at hSw); go_simp; (try with_reducible rfl))); (try simp only [Act.put, List.setIfInBounds_toArray, List.set_cons_zero, List.set_cons_succ])
      refine wpAnyH_take (i := 2) (oi := ⟨some 72, _, _, _, _, _⟩) (v := ?_) rfl (by kernel_rfl) (by kernel_rfl) (by kernel_rfl) (fun _ _ _ h => h) (Or.inl ⟨by rfl, ?_⟩) (by assumption) ?_; rotate_left; (focus (intro w hSw; (try dsimp only at hSw); go_simp; (try with_reducible rfl))); (try simp only [Act.put, List.setIfInBounds_toArray, List.set_cons_zero, List.set_cons_succ])
      refine wpAnyH_take (i := 3) (oi := ⟨some 73, _, _, _, _, _⟩) (v := ?_) rfl (by kernel_rfl) (by kernel_rfl) (by kernel_rfl) (fun _ _ _ h => h) (Or.inl ⟨by rfl, ?_⟩) (by assumption) ?_; rotate_left; (focus (intro w hSw; (try dsimp only at hSw); go_simp; (try with_reducible rfl))); (try simp only [Act.put, List.setIfInBounds_toArray, List.set_cons_zero, List.set_cons_succ])
      refine wpAnyH_take (i := 4) (oi := ⟨some 74, _, _, _, _, _⟩) (v := ?_) rfl (by kernel_rfl) (by kernel_rfl) (by kernel_rfl) (fun _ _ _ h => h) (Or.inl ⟨by rfl, ?_⟩) (by assumption) ?_; rotate_left; (focus (intro w hSw; (try dsimp only at hSw); go_simp; (try with_reducible rfl))); (try simp only [Act.put, List.setIfInBounds_toArray, List.set_cons_zero, List.set_cons_succ])
      refine wpAnyH_take (i := 5) (oi := ⟨some 75, _, _, _, _, _⟩) (v := ?_) rfl (by kernel_rfl) (by kernel_rfl) (by kernel_rfl) (fun _ _ _ h => h) (Or.inl ⟨by rfl, ?_⟩) (by assumption) ?_; rotate_left; (focus (intro w hSw; (try dsimp only at hSw); go_simp; (try with_reducible rfl))); (try simp only [Act.put, List.setIfInBounds_toArray, List.set_cons_zero, List.set_cons_succ])
      refine wpAnyH_take (i := 6) (oi := ⟨some 76, _, _, _, _, _⟩) (v := ?_) rfl (by kernel_rfl) (by kernel_rfl) (by kernel_rfl) (fun _ _ _ h => h) (Or.inl ⟨by rfl, ?_⟩) (by assumption) ?_; rotate_left; (focus (intro w hSw; (try dsimp only at hSw); go_simp; (try with_reducible rfl))); (try simp only [Act.put, List.setIfInBounds_toArray, List.set_cons_zero, List.set_cons_succ])
      refine wpAnyH_take (i := 7) (oi := ⟨some 77, _, _, _, _, _⟩) (v := ?_) rfl (by kernel_rfl) (by kernel_rfl) (by kernel_rfl) (fun _ _ _ h => h) (Or.inl ⟨by rfl, ?_⟩) (by assumption) ?_; rotate_left; (focus (intro w hSw; (try dsimp only at hSw); go_simp; (try with_reducible rfl))); (try simp only [Act.put, List.setIfInBounds_toArray, List.set_cons_zero, List.set_cons_succ])
      refine wpAnyH_ready (rs := [8]) (by kernel_rfl) (by simp) ?_; refine AllReadyH.cons (o := ⟨some 78, _, _, _, _, _⟩) rfl (fun K hK => ?_) AllReadyH.nil; go_simp
      go_at_call 70
      refine (HR.out W2.drew (show B ≤ W2.heap.size by omega) HPS.out HIS.out).mono ?_
      rintro e w5 ⟨v5, rfl, ho, hb5'⟩
      obtain ⟨g5, c5, rfl, hg5, hg5'⟩ := ho.form
      have hb5 : Below W2.heap.size W2 w5 := below_of_drew hb5'
      have kk0 := (hb5.cell (p := ⟨w.heap.size, 0, none⟩) (by show w.heap.size < W2.heap.size; omega)).trans s0
      have kk1 := (hb5.cell (p := ⟨b, off + i * 2 + 1, none⟩) (by show b < W2.heap.size; omega)).trans t1
      have kk2 := (hb5.cell (p := ⟨w.heap.size + 1, 0, none⟩) (by show w.heap.size + 1 < W2.heap.size; omega)).trans s1
      have kk3 := (hb5.cell (p := ⟨w.heap.size + 1, 1, none⟩) (by show w.heap.size + 1 < W2.heap.size; omega)).trans s2
      have kk4 := (hb5.cell (p := ⟨w.heap.size + 1, 2, none⟩) (by show w.heap.size + 1 < W2.heap.size; omega)).trans s3
      have kk5 := (hb5.cell (p := ⟨b2, off2 + i, none⟩) (by show b2 < W2.heap.size; omega)).trans t2
      have kk6 := (hb5.cell (p := ⟨b3, off3 + i, none⟩) (by show b3 < W2.heap.size; omega)).trans t3
      have kk7 := (hb5.cell (p := ⟨b4, off4 + i, none⟩) (by show b4 < W2.heap.size; omega)).trans t4
      have hs5 : W2.heap.size ≤ w5.heap.size := hb5.size
      refine hK.out _ _ ⟨kk0, kk1, kk2⟩ (fun hHeld => ?_)
      clear hK K
      (try simp only [Act.put, List.setIfInBounds_toArray, List.set_cons_zero, List.set_cons_succ])
      refine wpAnyH_take (i := 9) (oi := ⟨some 69, _, _, _, _, _⟩) (v := ?_) rfl (by kernel_rfl) (by kernel_rfl) (by kernel_rfl) (fun _ _ _ h => h) (Or.inl ⟨by rfl, ?_⟩) (by assumption) ?_; rotate_left; (focus (intro w hSw; (try dsimp only at hSw); go_simp; (try with_reducible rfl))); (try simp only [Act.put, List.setIfInBounds_toArray, List.set_cons_zero, List.set_cons_succ])
      refine wpAnyH_take (i := 10) (oi := ⟨some 79, _, _, _, _, _⟩) (v := ?_) rfl (by kernel_rfl) (by kernel_rfl) (by kernel_rfl) (fun _ _ _ h => h) (Or.inl ⟨by rfl, ?_⟩) (by assumption) ?_; rotate_left; (focus (intro w hSw; (try dsimp only at hSw); go_simp; (try with_reducible rfl))); (try simp only [Act.put, List.setIfInBounds_toArray, List.set_cons_zero, List.set_cons_succ])
      refine wpAnyH_take (i := 11) (oi := ⟨some 80, _, _, _, _, _⟩) (v := ?_) rfl (by kernel_rfl) (by kernel_rfl) (by kernel_rfl) (fun _ _ _ h => h) (Or.inl ⟨by rfl, ?_⟩) (by assumption) ?_; rotate_left; (focus (intro w hSw; (try dsimp only at hSw); go_simp; (try with_reducible rfl))); (try simp only [Act.put, List.setIfInBounds_toArray, List.set_cons_zero, List.set_cons_succ])
      refine wpAnyH_take (i := 12) (oi := ⟨some 7, _, _, _, _, _⟩) (v := ?_) rfl (by kernel_rfl) (by kernel_rfl) (by kernel_rfl) (fun _ _ _ h => h) (Or.inl ⟨by rfl, ?_⟩) (by assumption) ?_; rotate_left; (focus (intro w hSw; (try dsimp only at hSw); go_simp; (try with_reducible rfl))); (try simp only [Act.put, List.setIfInBounds_toArray, List.set_cons_zero, List.set_cons_succ])
      refine wpAnyH_take (i := 13) (oi := ⟨some 8, _, _, _, _, _⟩) (v := ?_) rfl (by kernel_rfl) (by kernel_rfl) (by kernel_rfl) (fun _ _ _ h => h) (Or.inl ⟨by rfl, ?_⟩) (by assumption) ?_; rotate_left; (focus (intro w hSw; (try dsimp only at hSw); go_simp; (try with_reducible rfl))); (try simp only [Act.put, List.setIfInBounds_toArray, List.set_cons_zero, List.set_cons_succ])
      refine wpAnyH_done (by kernel_rfl) ?_ _
      have HF5 : Hid (IS w5 w5.heap.size (some ⟨g5, 0, none⟩) F) := IS.of_own ho.1
      have HB5 := Lib.hid (HB0.out.trans (hb5.mono (by omega)))
      have HLS5 := Lib.hid ((HLS.out.below hb5 (by omega)).more (B' := w5.heap.size) (by omega))
      have HCY5 := Lib.hid fun (j : Nat) (hj : j < q) => (hb5.cell (p := ⟨b4, off4 + j, none⟩) (by show b4 < W2.heap.size; omega)).trans (HCY.out j hj)
      obtain ⟨fl, hfl⟩ : ∃ fl, fl = F.length := ⟨_, rfl⟩
      rw [← hfl] at hfb HBAD HGOOD HFR
      rw [← hfl]
      have HFL := Lib.hid hfl
      clear hfl ho hb5 hb5' s0 s1 s2 s3 t1 t2 t3 t4 hHeld HR HT HT2
      go_wp2
      go_loopw [9] (fun u wr => ∃ k : Nat, k ≤ fl ∧ u = .int .i64 k ∧ Hid (ClT cc cs F k) ∧ Hid (Below w5.heap.size w5 wr) ∧ w5.heap.size ≤ wr.heap.size) (fun u _ => fl - (intOf u).toNat)
      case atStart => exact ⟨0, Nat.zero_le _, rfl, fun _ i hi => by omega, Below.refl _ _, Nat.le_refl _⟩
      case round =>
        obtain ⟨k, hk, rfl, HT, HB, hwr⟩ := hrel
        have r0 := (HB.out.cell (p := ⟨w.heap.size + 1, 0, none⟩) (by show w.heap.size + 1 < w5.heap.size; omega)).trans kk2
        have r1 := (HB.out.cell (p := ⟨w.heap.size + 1, 1, none⟩) (by show w.heap.size + 1 < w5.heap.size; omega)).trans kk3
        have r2 := (HB.out.cell (p := ⟨w.heap.size + 1, 2, none⟩) (by show w.heap.size + 1 < w5.heap.size; omega)).trans kk4
        have r5 := (HB.out.cell (p := ⟨b2, off2 + i, none⟩) (by show b2 < w5.heap.size; omega)).trans kk5
        have r6 := (HB.out.cell (p := ⟨b3, off3 + i, none⟩) (by show b3 < w5.heap.size; omega)).trans kk6
        have r7 := (HB.out.cell (p := ⟨b4, off4 + i, none⟩) (by show b4 < w5.heap.size; omega)).trans kk7
        by_cases hlt : k < fl
        · have hg5r : g5 < wr.heap.size := by omega
          obtain ⟨b9, off9, hE9, hb9, hc9⟩ := HF5.out (by have := HFL.out; omega)
          cases hE9
          have f0 := (HB.out.cell (p := ⟨g5, 0 + k, none⟩) (by show g5 < w5.heap.size; omega)).trans (hc9 k (by have := HFL.out; omega))
          rw [Nat.zero_add] at f0
          obtain ⟨y, hy, hye⟩ := HFR.out k (by omega)
          have hyq : y < q := by have := HQN.out; omega
          have e0 := (HB.out.cell (p := ⟨b4, off4 + y, none⟩) (by show b4 < w5.heap.size; omega)).trans (HCY5.out y hyq)
          have HNB : Hid ((cc == 0) = true → (cs.getD y 0 == 0) = false → r = false) := fun h0 h1 => HBAD.out h0 ⟨k, hlt, by rw [hye, Int.toNat_natCast]; exact h1⟩
          have HNT : Hid (((cc == 0) = true → (cs.getD y 0 == 0) = true) → ClT cc cs F (k + 1)) := fun hh h0 j hj => by
            rcases Nat.lt_or_ge j k with h1 | h1
            · exact HT.out h0 j h1
            · obtain rfl : j = k := by omega
              rw [hye, Int.toNat_natCast]
              exact hh h0
          rw [hye] at f0
          clear hc9 hye
          generalize cs.getD y 0 = z at *
          cases hc0 : (cc == 0)
          · have HF := Lib.hid (HNT.out (fun h => absurd h (by rw [hc0]; decide)))
            clear HNB HNT
            go_wp2
            go_quiet (fail)
            go_wp2
            go_roundw
            case rel => exact ⟨k + 1, by omega, by go_num, HF.out, drewN_below HB.out, by simp [World.drewN]; omega⟩
            case measure => simp [intOf]; omega
          · cases hz0 : (z == 0)
            · have hz0' : (z != 0) = true := by simp [bne, hz0]
              have HF := Lib.hid (HNB.out hc0 hz0)
              clear HNB HNT
              go_wp2
              go_quiet (fail)
              go_wp2
              go_ret
              exact ⟨ret_b HF.out.symm, HB5.out.trans (drewN_below HB.out |>.mono (by omega))⟩
            · have hz0' : (z != 0) = false := by simp [bne, hz0]
              have HF := Lib.hid (HNT.out (fun _ => hz0))
              clear HNB HNT
              go_wp2
              go_quiet (fail)
              go_wp2
              go_roundw
              case rel => exact ⟨k + 1, by omega, by go_num, HF.out, drewN_below HB.out, by simp [World.drewN]; omega⟩
              case measure => simp [intOf]; omega
        · obtain rfl : k = fl := by omega
          have HRR := Lib.hid (HGOOD.out HT.out)
          have HSI := Lib.hid (spec_sameInts (some ⟨g5, 0, none⟩) A3 k n3 c5 c3 F L wr w5.heap.size hwr HFL.out HN3.out (HF5.out.below HB.out (Nat.le_refl _)) (HLS5.out.below HB.out (Nat.le_refl _)) (by omega) (by omega))
          generalize decide (F = L) = dl at *
          cases hx : (X == x)
          · have HN := Lib.hid (show r = false by rw [HRR.out, hx]; rfl)
            clear HRR
            go_wp2
            go_ret
            exact ⟨ret_b HN.out.symm, HB5.out.trans (HB.out.mono (by omega))⟩
          · have HN := Lib.hid (show r = dl by rw [HRR.out, hx]; rfl)
            clear HRR
            go_wp2_with fail
            refine HSI.out.mono ?_
            rintro e w6 ⟨rfl, hb6⟩
            go_wp2
            go_ret
            exact ⟨ret_b HN.out.symm, (HB5.out.trans (HB.out.mono (by omega))).trans (hb6.mono (by omega))⟩
end Go.Proofs.Ythnilpibpmlaeaa

/- The standing contracts of ValidLazy, the specification's: the whole. -/
namespace Go.Proofs.Ythnilpibpmlaeaa
set_option linter.unusedSimpArgs false
set_option linter.unusedVariables false
open Go.RowKit

theorem ne_cases (n m p q : Nat) (h : ¬ (m = n ∧ p = n ∧ q = n)) : (((m : Int) != (n : Int)) = true) ∨ (((m : Int) != (n : Int)) = false ∧ ((p : Int) != (n : Int)) = true) ∨ (((m : Int) != (n : Int)) = false ∧ ((p : Int) != (n : Int)) = false ∧ ((q : Int) != (n : Int)) = true) := by
  by_cases h1 : m = n
  · by_cases h2 : p = n
    · exact .inr (.inr ⟨by simp [h1], by simp [h2], by simp; omega⟩)
    · exact .inr (.inl ⟨by simp [h1], by simp; omega⟩)
  · exact .inl (by simp; omega)

set_option maxRecDepth 100000 in
set_option maxHeartbeats 3200000 in
theorem spec_validLazy (A A' E C : Option Addr) (n c m c' p ec q qc : Nat) (gs : List Nd) (st : Lz) (w : World) (B : Nat) (hB : B ≤ w.heap.size) (hn : n = gs.length) (hm : m = st.vs.length) (hp : p = st.rs.length) (hq : q = st.cs.length) (h : GS w B A gs) (h' : LS3 w B A' E C st) (hs : GB gs) (hb0 : LB st) :
    Calls Try.prog 31 #[.agg #[.slice A n c], .agg #[.slice A' m c', .slice E p ec, .slice C q qc]] w fun e w' => e = .returned (.bool (validL gs st)) ∧ Below w.heap.size w w' := by
  have HC := Lib.hid fun (w' : World) (hB : B ≤ w'.heap.size) (h : GS w' B A gs) => spec_validGraph A n c gs w' B hB hn h hs
  have hm1 : m ≤ 1048576 := by rw [hm]; exact hb0.1
  have hp1 : p ≤ 1048576 := by rw [hp]; exact hb0.2.1.1
  have hq1 : q ≤ 1048576 := by rw [hq]; exact hb0.2.2.2.2.2
  have hn1 : n ≤ 1048576 := by rw [hn]; exact hs.1
  have hve : validL gs st = (validG gs && (decide (st.vs.length = gs.length) && (decide (st.rs.length = gs.length) && (decide (st.cs.length = gs.length) && (allR st.vs 0 999 && (allR st.cs 0 2 && allL gs st)))))) := rfl
  rw [← hn, ← hm, ← hp, ← hq] at hve
  have H := Lib.hid h
  have H' := Lib.hid h'
  have HN := Lib.hid hn
  have HM := Lib.hid hm
  have HP := Lib.hid hp
  have HQ := Lib.hid hq
  cases hvg : validG gs
  · have hf : validL gs st = false := by rw [hve, hvg]; rfl
    rw [hf]
    rw [hvg] at HC
    clear hf hve hvg h h' hn hm hp hq hs hb0
    go_enter Try.func31, Try.ntmps31
    go_wp2_with fail
    refine (HC.out _ (by simp; omega) ((H.out.alloc hB _).alloc (by simp; omega) _)).mono ?_
    rintro e w1 ⟨rfl, hb⟩
    go_wp2
    go_ret
    exact ⟨rfl, (((Below.refl _ _).alloc (Nat.le_refl _) _).alloc (by simp) _).trans (hb.mono (by simp; omega))⟩
  rw [hvg] at HC
  by_cases hl : m = n ∧ p = n ∧ q = n
  case neg =>
    have hf : validL gs st = false := by
      rw [hve]
      by_cases h1 : m = n
      · by_cases h2 : p = n
        · rw [decide_eq_false (p := q = n) (fun e => hl ⟨h1, h2, e⟩)]; simp
        · rw [decide_eq_false (p := p = n) h2]; simp
      · rw [decide_eq_false (p := m = n) h1]; simp
    rw [hf]
    have hcs := ne_cases n m p q hl
    clear hf hve hvg h h' hn hm hp hq hs hb0 hl
    rcases hcs with h1 | ⟨h1, h2⟩ | ⟨h1, h2, h3⟩
    all_goals
      go_enter Try.func31, Try.ntmps31
      go_wp2_with fail
      refine (HC.out _ (by simp; omega) ((H.out.alloc hB _).alloc (by simp; omega) _)).mono ?_
      rintro e w1 ⟨rfl, hb⟩
      have q0 : w1.cell? ⟨w.heap.size, 0, none⟩ = some (.slice A n c) := (hb.cell (p := ⟨w.heap.size, 0, none⟩) (by simp; omega)).trans (by go_simp)
      have q1 : w1.cell? ⟨w.heap.size + 1, 0, none⟩ = some (.slice A' m c') := (hb.cell (p := ⟨w.heap.size + 1, 0, none⟩) (by simp)).trans (by go_simp)
      have q2 : w1.cell? ⟨w.heap.size + 1, 1, none⟩ = some (.slice E p ec) := (hb.cell (p := ⟨w.heap.size + 1, 1, none⟩) (by simp)).trans (by go_simp)
      have q3 : w1.cell? ⟨w.heap.size + 1, 2, none⟩ = some (.slice C q qc) := (hb.cell (p := ⟨w.heap.size + 1, 2, none⟩) (by simp)).trans (by go_simp)
      have hB1 : Below w.heap.size w w1 := (((Below.refl _ _).alloc (Nat.le_refl _) _).alloc (by simp) _).trans (hb.mono (by simp; omega))
      have hl1 : w.heap.size + 2 ≤ w1.heap.size := by have := hb.size; simp at this; omega
      go_wp2
      go_ret
      exact ⟨rfl, hB1⟩
  obtain ⟨hl1, hl2, hl3⟩ := hl
  have hne1 : ((m : Int) != (n : Int)) = false := by simp [hl1]
  have hne2 : ((p : Int) != (n : Int)) = false := by simp [hl2]
  have hne3 : ((q : Int) != (n : Int)) = false := by simp [hl3]
  have HAR := Lib.hid fun (w' : World) (hB : B ≤ w'.heap.size) (h : IS w' B A' st.vs) => spec_allIn A' m c' st.vs 0 999 w' B hB hm h (by omega)
  have HAC := Lib.hid fun (w' : World) (hB : B ≤ w'.heap.size) (h : IS w' B C st.cs) => spec_allIn C q qc st.cs 0 2 w' B hB hq h (by omega)
  cases hr : allR st.vs 0 999
  · have hf : validL gs st = false := by rw [hve, hr]; simp
    rw [hf]
    rw [hr] at HAR
    clear hf hve hvg h h' hn hm hp hq hs hb0 hl1 hl2 hl3 hr HAC
    go_enter Try.func31, Try.ntmps31
    go_wp2_with fail
    refine (HC.out _ (by simp; omega) ((H.out.alloc hB _).alloc (by simp; omega) _)).mono ?_
    rintro e w1 ⟨rfl, hb⟩
    have q0 : w1.cell? ⟨w.heap.size, 0, none⟩ = some (.slice A n c) := (hb.cell (p := ⟨w.heap.size, 0, none⟩) (by simp; omega)).trans (by go_simp)
    have q1 : w1.cell? ⟨w.heap.size + 1, 0, none⟩ = some (.slice A' m c') := (hb.cell (p := ⟨w.heap.size + 1, 0, none⟩) (by simp)).trans (by go_simp)
    have q2 : w1.cell? ⟨w.heap.size + 1, 1, none⟩ = some (.slice E p ec) := (hb.cell (p := ⟨w.heap.size + 1, 1, none⟩) (by simp)).trans (by go_simp)
    have q3 : w1.cell? ⟨w.heap.size + 1, 2, none⟩ = some (.slice C q qc) := (hb.cell (p := ⟨w.heap.size + 1, 2, none⟩) (by simp)).trans (by go_simp)
    have hB1 : Below w.heap.size w w1 := (((Below.refl _ _).alloc (Nat.le_refl _) _).alloc (by simp) _).trans (hb.mono (by simp; omega))
    have hl1 : w.heap.size + 2 ≤ w1.heap.size := by have := hb.size; simp at this; omega
    go_wp2_with fail
    refine (HAR.out _ (by omega) (((H'.out.1.alloc hB _).alloc (by simp; omega) _).below hb (by simp; omega))).mono ?_
    rintro e w' ⟨rfl, rfl⟩
    go_wp2
    go_ret
    exact ⟨rfl, hB1⟩
  rw [hr] at HAR
  cases hrc : allR st.cs 0 2
  · have hf : validL gs st = false := by rw [hve, hrc]; simp
    rw [hf]
    rw [hrc] at HAC
    clear hf hve hvg h h' hn hm hp hq hs hb0 hl1 hl2 hl3 hr hrc
    go_enter Try.func31, Try.ntmps31
    go_wp2_with fail
    refine (HC.out _ (by simp; omega) ((H.out.alloc hB _).alloc (by simp; omega) _)).mono ?_
    rintro e w1 ⟨rfl, hb⟩
    have q0 : w1.cell? ⟨w.heap.size, 0, none⟩ = some (.slice A n c) := (hb.cell (p := ⟨w.heap.size, 0, none⟩) (by simp; omega)).trans (by go_simp)
    have q1 : w1.cell? ⟨w.heap.size + 1, 0, none⟩ = some (.slice A' m c') := (hb.cell (p := ⟨w.heap.size + 1, 0, none⟩) (by simp)).trans (by go_simp)
    have q2 : w1.cell? ⟨w.heap.size + 1, 1, none⟩ = some (.slice E p ec) := (hb.cell (p := ⟨w.heap.size + 1, 1, none⟩) (by simp)).trans (by go_simp)
    have q3 : w1.cell? ⟨w.heap.size + 1, 2, none⟩ = some (.slice C q qc) := (hb.cell (p := ⟨w.heap.size + 1, 2, none⟩) (by simp)).trans (by go_simp)
    have hB1 : Below w.heap.size w w1 := (((Below.refl _ _).alloc (Nat.le_refl _) _).alloc (by simp) _).trans (hb.mono (by simp; omega))
    have hl1 : w.heap.size + 2 ≤ w1.heap.size := by have := hb.size; simp at this; omega
    go_wp2_with fail
    refine (HAR.out _ (by omega) (((H'.out.1.alloc hB _).alloc (by simp; omega) _).below hb (by simp; omega))).mono ?_
    rintro e w' ⟨rfl, rfl⟩
    go_wp2_with fail
    refine (HAC.out _ (by omega) (((H'.out.2.2.alloc hB _).alloc (by simp; omega) _).below hb (by simp; omega))).mono ?_
    rintro e w' ⟨rfl, rfl⟩
    go_wp2
    go_ret
    exact ⟨rfl, hB1⟩
  rw [hrc] at HAC
  have hf : validL gs st = allL gs st := by rw [hve, hvg, decide_eq_true hl1, decide_eq_true hl2, decide_eq_true hl3, hr, hrc]; simp
  rw [hf]
  have HGC := Lib.hid fun (i : Nat) (hi : i < n) (w' : World) (B1 : Nat) (hB : B1 ≤ w'.heap.size) (h : GS w' B1 A gs) (h' : LS3 w' B1 A' E C st) =>
    spec_goodColour A A' E C n c m c' p ec q qc gs st i w' B1 hB hn hm hp hq h h' hs hb0 hvg (by omega) (by omega) (by omega) hr hi
  have HBAD := Lib.hid fun (i : Nat) (hi : i < gs.length) => allL_bad gs st i hi
  have HFIN := Lib.hid (allL_fin gs st)
  clear hf hve hvg h h' hn hm hp hq hs hb0 hl1 hl2 hl3 hr hrc
  go_enter Try.func31, Try.ntmps31
  go_wp2_with fail
  refine (HC.out _ (by simp; omega) ((H.out.alloc hB _).alloc (by simp; omega) _)).mono ?_
  rintro e w1 ⟨rfl, hb⟩
  have q0 : w1.cell? ⟨w.heap.size, 0, none⟩ = some (.slice A n c) := (hb.cell (p := ⟨w.heap.size, 0, none⟩) (by simp; omega)).trans (by go_simp)
  have q1 : w1.cell? ⟨w.heap.size + 1, 0, none⟩ = some (.slice A' m c') := (hb.cell (p := ⟨w.heap.size + 1, 0, none⟩) (by simp)).trans (by go_simp)
  have q2 : w1.cell? ⟨w.heap.size + 1, 1, none⟩ = some (.slice E p ec) := (hb.cell (p := ⟨w.heap.size + 1, 1, none⟩) (by simp)).trans (by go_simp)
  have q3 : w1.cell? ⟨w.heap.size + 1, 2, none⟩ = some (.slice C q qc) := (hb.cell (p := ⟨w.heap.size + 1, 2, none⟩) (by simp)).trans (by go_simp)
  have hB1 : Below w.heap.size w w1 := (((Below.refl _ _).alloc (Nat.le_refl _) _).alloc (by simp) _).trans (hb.mono (by simp; omega))
  have hl1 : w.heap.size + 2 ≤ w1.heap.size := by have := hb.size; simp at this; omega
  have HG1 := Lib.hid (((H.out.alloc hB (.cells #[.slice A n c] 34)).alloc (by simp; omega) (.cells #[.slice A' m c', .slice E p ec, .slice C q qc] 36)).below hb (by simp; omega))
  have HE1 := Lib.hid (((H'.out.alloc hB (.cells #[.slice A n c] 34)).alloc (by simp; omega) (.cells #[.slice A' m c', .slice E p ec, .slice C q qc] 36)).below hb (by simp; omega))
  clear hb H H' HC
  go_wp2_with fail
  refine (HAR.out _ (by omega) HE1.out.1).mono ?_
  rintro e w' ⟨rfl, rfl⟩
  clear HAR
  go_wp2_with fail
  refine (HAC.out _ (by omega) HE1.out.2.2).mono ?_
  rintro e w' ⟨rfl, rfl⟩
  clear HAC
  go_wp2
  go_loopw [5] (fun u wr => ∃ k : Nat, k ≤ n ∧ u = .int .i64 k ∧ Hid (∀ i, i < k → colOK gs st i = true) ∧ Hid (Below w1.heap.size w1 wr) ∧ w1.heap.size ≤ wr.heap.size) (fun u _ => n - (intOf u).toNat)
  case atStart => exact ⟨0, Nat.zero_le _, rfl, fun i hi => by omega, Below.refl _ _, Nat.le_refl _⟩
  case round =>
    obtain ⟨k, hk, rfl, HK, HB, hwr⟩ := hrel
    have r0 := (HB.out.cell (p := ⟨w.heap.size, 0, none⟩) (by show w.heap.size < w1.heap.size; omega)).trans q0
    have r1 := (HB.out.cell (p := ⟨w.heap.size + 1, 0, none⟩) (by show w.heap.size + 1 < w1.heap.size; omega)).trans q1
    have r2 := (HB.out.cell (p := ⟨w.heap.size + 1, 1, none⟩) (by show w.heap.size + 1 < w1.heap.size; omega)).trans q2
    have r3 := (HB.out.cell (p := ⟨w.heap.size + 1, 2, none⟩) (by show w.heap.size + 1 < w1.heap.size; omega)).trans q3
    by_cases hlt : k < n
    · have hkg : k < gs.length := by have := HN.out; omega
      have HCALL := Lib.hid (HGC.out k hlt wr w1.heap.size hwr ((HG1.out.below HB.out (by omega)).more (by omega)) ((HE1.out.below HB.out (by omega)).more (by omega)))
      have HNK := Lib.hid (HBAD.out k hkg)
      have HNT : Hid (colOK gs st k = true → ∀ i, i < k + 1 → colOK gs st i = true) := fun h j hj => by
        rcases Nat.lt_or_ge j k with h1 | h1
        · exact HK.out j h1
        · obtain rfl : j = k := by omega
          exact h
      generalize colOK gs st k = r at *
      go_wp2_with fail
      refine HCALL.out.mono ?_
      rintro e w6 ⟨rfl, hb6⟩
      have HB6 := Lib.hid (HB.out.trans (hb6.mono HB.out.size))
      cases r
      · go_wp2
        go_ret
        exact ⟨ret_b (HNK.out (by first | rfl | trivial)).symm, hB1.trans (HB6.out.mono (by omega))⟩
      · go_wp2
        go_roundw
        case rel => exact ⟨k + 1, by omega, by go_num, HNT.out (by first | rfl | trivial), HB6.out, HB6.out.size⟩
        case measure => simp [intOf]; omega
    · obtain rfl : k = n := by omega
      go_wp2
      go_ret
      exact ⟨ret_b (HFIN.out fun i hi => HK.out i (by have := HN.out; omega)).symm, hB1.trans (HB.out.mono (by omega))⟩

set_option maxRecDepth 100000 in
theorem top_spec_ValidLazy (gs : List Nd) (st : Lz) (hG : GB gs) (hE : LB st) : ∀ (A : Option Addr) (n c : Nat) (A' : Option Addr) (m c' : Nat) (E : Option Addr) (p ec : Nat) (C : Option Addr) (q qc : Nat) (w : World), n = gs.length → n ≤ c → GS w w.heap.size A gs → m = st.vs.length → p = st.rs.length → q = st.cs.length → LS4 w w.heap.size A' E C st →
    Calls Try.prog 9 #[.agg #[.slice A n c], .agg #[.slice A' m c', .slice E p ec, .slice C q qc]] w fun e w' => e = .returned (.bool (validL gs st)) ∧ Below w.heap.size w w' := by
  intro A n c A' m c' E p ec C q qc w hn _ h hm hp hq h'
  have HC := Lib.hid (spec_validLazy A A' E C n c m c' p ec q qc gs st _ w.heap.size (by simp; omega) hn hm hp hq ((h.alloc (Nat.le_refl _) (.cells #[.slice A n c] 34)).alloc (by simp) (.cells #[.slice A' m c', .slice E p ec, .slice C q qc] 36)) ((h'.1.alloc (Nat.le_refl _) (.cells #[.slice A n c] 34)).alloc (by simp) (.cells #[.slice A' m c', .slice E p ec, .slice C q qc] 36)) hG hE)
  clear h h' hn hm hp hq hG hE
  go_enter Try.func9, Try.ntmps9
  go_wp2_with fail
  refine HC.out.mono ?_
  rintro e w1 ⟨rfl, hb⟩
  go_wp2
  go_ret
  exact ⟨rfl, (((Below.refl _ _).alloc (Nat.le_refl _) _).alloc (by simp) _).trans (hb.mono (by simp; omega))⟩
end Go.Proofs.Ythnilpibpmlaeaa

/- The standing contracts of ValidLazy, the program's. -/
namespace Go.Proofs.Ythnilpibpmlaeaa
set_option linter.unusedSimpArgs false
set_option linter.unusedVariables false
open Go.RowKit

set_option maxRecDepth 100000 in
set_option maxHeartbeats 6400000 in
theorem impl_fitsColour (A A' E C : Option Addr) (n c m c' p ec q qc : Nat) (gs : List Nd) (st : Lz) (i : Nat) (w : World) (B : Nat) (hB : B ≤ w.heap.size) (hn : n = gs.length) (hm : m = st.vs.length) (hp : p = st.rs.length) (hq : q = st.cs.length) (h : GS w B A gs) (h' : LS4 w B A' E C st) (hs : GB gs) (hb0 : LB st) (hvg : validG gs = true) (hl1 : st.vs.length = gs.length) (hl2 : st.rs.length = gs.length) (hl3 : st.cs.length = gs.length) (hr : allR st.vs 0 999 = true) (hi : i < n) :
    Calls Try.prog 36 #[.agg #[.slice A n c], .agg #[.slice A' m c', .slice E p ec, .slice C q qc], .int .i64 i] w fun e w' => e = .returned (.bool (fitF gs st i)) ∧ Below w.heap.size w w' := by
  have hn10 : n ≤ 10 := by rw [hn]; exact (validG_parts gs hvg).1
  have hfd : fitF gs st i = if st.cs.getD i 0 == 0 then asRun gs st i && cleanR st.cs (st.rs.getD i []) else if st.cs.getD i 0 == 1 then !((gs.getD i default).k == 0) && asRun gs st i else if st.cs.getD i 0 == 2 then !((gs.getD i default).k == 0) && (apartL (st.rs.getD i []) && inL (st.rs.getD i []) (mayF (gs.getD i default).ps)) else false := rfl
  have HAS := Lib.hid fun (w' : World) (B' : Nat) (hB : B' ≤ w'.heap.size) (h : GS w' B' A gs) (h' : LS3 w' B' A' E C st) => impl_isAsRun A A' E C n c m c' p ec q qc gs st i w' B' hB hn hm hp h h' hvg hl1 hl2 hr hi (by have := hb0.2.1.2 i; omega)
  have HCR := Lib.hid fun (w' : World) (B' : Nat) (hB : B' ≤ w'.heap.size) (h' : LS3 w' B' A' E C st) (ha : asRun gs st i = true) => impl_hasCleanReads A' E C m c' p ec q qc st i w' B' hB hp hq h' (by omega) (by have := hb0.2.1.2 i; omega) (by
    rw [asRun_reads gs st i ha]
    intro j hj
    obtain ⟨y, hy, e⟩ := depF_range gs st.vs hvg hl1 i (by omega) j hj
    exact ⟨y, by omega, e⟩)
  have HG := Lib.hid h
  have HL := Lib.hid h'
  obtain ⟨b, off, rfl, hbB, c0, A1, n1, c1, c2, hn1', hps⟩ := h.at_ i (by omega)
  obtain ⟨b3, off3, rfl, hbB3, A3, n3, c3, d1, hn3, hls⟩ := h'.1.2.1.at_ i (by omega)
  have hcap := h'.2 b3 off3 rfl i (by omega) A3 n3 c3 d1
  obtain ⟨b4, off4, rfl, hbB4, hcy⟩ := h'.1.2.2 (by omega)
  have d2 := hcy i (by omega)
  have z0 : b < w.heap.size := by omega
  have z3 : b3 < w.heap.size := by omega
  have z4 : b4 < w.heap.size := by omega
  have z0' : b < w.heap.size + 1 := by omega
  have z3' : b3 < w.heap.size + 1 := by omega
  have z4' : b4 < w.heap.size + 1 := by omega
  have z0'' : b < w.heap.size + 1 + 1 := by omega
  have z3'' : b3 < w.heap.size + 1 + 1 := by omega
  have z4'' : b4 < w.heap.size + 1 + 1 := by omega
  have hn3b : n3 ≤ 1048576 := by rw [hn3]; exact hb0.2.1.2 i
  have hn1b : n1 ≤ 1048576 := by rw [hn1']; exact hs.2 i
  have HN1 := Lib.hid hn1'
  have HN3 := Lib.hid hn3
  have hiq : i < q := by omega
  have hip : i < p := by omega
  have HPS := Lib.hid hps
  have HLS := Lib.hid hls
  clear h h' hcy hps hls hn hm hp hq hs hb0 hvg hl1 hl2 hl3 hr hn1' hn3
  generalize fitF gs st i = r at *
  generalize asRun gs st i = ra at *
  generalize gs.getD i default = d at *
  generalize st.rs.getD i [] = L at *
  generalize st.cs.getD i 0 = cc at *
  have HB3 := Lib.hid ((((Below.refl w.heap.size w).alloc (Nat.le_refl _) (.cells #[.slice (some ⟨b, off, none⟩) n c] 34)).alloc (by simp) (.cells #[.slice A' m c', .slice (some ⟨b3, off3, none⟩) p ec, .slice (some ⟨b4, off4, none⟩) q qc] 36)).alloc (by simp; omega) (.cells #[.int .i64 d.k, .slice A1 n1 c1] 63))
  cases hc0 : (cc == 0)
  case true =>
    rw [hc0] at hfd
    simp only [if_true] at hfd
    go_enter Try.func36, Try.ntmps36
    go_wp2_with fail
    refine (HAS.out _ B (by simp; omega) (HG.out.below HB3.out hB) (HL.out.1.below HB3.out hB)).mono ?_
    rintro e w5 ⟨rfl, hb5⟩
    cases ra
    · have HF := Lib.hid (show r = false by rw [hfd]; rfl)
      clear hfd
      go_wp2
      go_ret
      exact ⟨ret_b HF.out.symm, HB3.out.trans (hb5.mono (by simp; omega))⟩
    · rw [Bool.true_and] at hfd
      have HB5 := Lib.hid (HB3.out.trans (hb5.mono (by simp; omega)))
      have HC2 := Lib.hid (HCR.out w5 B (Nat.le_trans hB HB5.out.size) (HL.out.1.below HB5.out hB) rfl)
      have q0 : w5.cell? ⟨w.heap.size + 1, 0, none⟩ = some (.slice A' m c') := (hb5.cell (p := ⟨w.heap.size + 1, 0, none⟩) (by simp)).trans (by go_simp)
      have q1 : w5.cell? ⟨w.heap.size + 1, 1, none⟩ = some (.slice (some ⟨b3, off3, none⟩) p ec) := (hb5.cell (p := ⟨w.heap.size + 1, 1, none⟩) (by simp)).trans (by go_simp)
      have q2 : w5.cell? ⟨w.heap.size + 1, 2, none⟩ = some (.slice (some ⟨b4, off4, none⟩) q qc) := (hb5.cell (p := ⟨w.heap.size + 1, 2, none⟩) (by simp)).trans (by go_simp)
      have HF := Lib.hid hfd
      clear hfd hb5 HCR HAS
      go_wp2_with fail
      refine HC2.out.mono ?_
      rintro e w6 ⟨rfl, hb6⟩
      go_wp2
      go_ret
      exact ⟨ret_b HF.out.symm, HB5.out.trans (hb6.mono HB5.out.size)⟩
  rw [hc0] at hfd
  simp only [Bool.false_eq_true, if_false] at hfd
  cases hc1 : (cc == 1)
  case true =>
    rw [hc1] at hfd
    simp only [if_true] at hfd
    cases hd : (d.k == 0)
    · have hd' : (d.k != 0) = true := by simp [bne, hd]
      rw [hd, Bool.not_false, Bool.true_and] at hfd
      have HF := Lib.hid hfd
      clear hfd hd
      go_enter Try.func36, Try.ntmps36
      go_wp2_with fail
      refine (HAS.out _ B (by simp; omega) (HG.out.below HB3.out hB) (HL.out.1.below HB3.out hB)).mono ?_
      rintro e w5 ⟨rfl, hb5⟩
      go_wp2
      go_ret
      exact ⟨ret_b HF.out.symm, HB3.out.trans (hb5.mono (by simp; omega))⟩
    · have hd' : (d.k != 0) = false := by simp [bne, hd]
      rw [hd] at hfd
      have HF := Lib.hid (show r = false by rw [hfd]; rfl)
      clear hfd hd
      go_enter Try.func36, Try.ntmps36
      go_wp2
      go_ret
      exact ⟨ret_b HF.out.symm, HB3.out⟩
  rw [hc1] at hfd
  simp only [Bool.false_eq_true, if_false] at hfd
  cases hc2 : (cc == 2)
  case false =>
    rw [hc2] at hfd
    have HF := Lib.hid (show r = false by rw [hfd]; rfl)
    clear hfd
    go_enter Try.func36, Try.ntmps36
    go_wp2
    go_ret
    exact ⟨ret_b HF.out.symm, HB3.out⟩
  rw [hc2] at hfd
  simp only [if_true] at hfd
  obtain ⟨W3, hW3⟩ : ∃ W3, W3 = ((w.alloc (.cells #[.slice (some ⟨b, off, none⟩) n c] 34)).alloc (.cells #[.slice A' m c', .slice (some ⟨b3, off3, none⟩) p ec, .slice (some ⟨b4, off4, none⟩) q qc] 36)).alloc (.cells #[.int .i64 d.k, .slice A1 n1 c1] 63) := ⟨_, rfl⟩
  rw [← hW3] at HB3
  have hB3 : w.heap.size + 3 ≤ W3.heap.size := by rw [hW3]; simp
  have HT : Hid (W3.cell? ⟨w.heap.size + 1, 1, none⟩ = some (.slice (some ⟨b3, off3, none⟩) p ec) ∧ W3.cell? ⟨w.heap.size + 1 + 1, 0, none⟩ = some (.int .i64 d.k) ∧ W3.cell? ⟨w.heap.size + 1 + 1, 1, none⟩ = some (.slice A1 n1 c1)) := by
    rw [hW3]; exact ⟨by go_simp, by go_simp, by go_simp⟩
  have HT2 := Lib.hid ((HB3.out.cell (p := ⟨b3, off3 + i, none⟩) z3).trans d1)
  have HPS3 := Lib.hid (HPS.out.below HB3.out hB)
  have HLS3 := Lib.hid (HLS.out.below HB3.out hB)
  have HW3 := Lib.hid hW3
  have HMR := Lib.hid fun (w' : World) (hB' : B ≤ w'.heap.size) (h : PS w' B A1 d.ps) => impl_MayRead A1 n1 c1 d.ps w' B hB' HN1.out h (by omega)
  have hmb : (mayF d.ps).length ≤ 10 := by
    unfold mayF
    split
    · exact mayR_len _ 10
    · exact Nat.zero_le _
  generalize mayF d.ps = M at *
  generalize hri : (apartL L && inL L M) = ri at *
  have HRI := Lib.hid hri
  clear hW3 hri HAS HCR HPS HLS
  cases hd : (d.k == 0)
  · have hd' : (d.k != 0) = true := by simp [bne, hd]
    rw [hd, Bool.not_false, Bool.true_and] at hfd
    have HF := Lib.hid hfd
    clear hfd
    go_enter Try.func36, Try.ntmps36
    go_wp2
    rw [← HW3.out]
    obtain ⟨s1, s2, s3⟩ := HT.out
    have t1 := HT2.out
    refine wp_region_held_drew (S := fun w' => w'.cell? ⟨w.heap.size + 1, 1, none⟩ = some (.slice (some ⟨b3, off3, none⟩) p ec) ∧ w'.cell? ⟨w.heap.size + 1 + 1, 0, none⟩ = some (.int .i64 d.k) ∧ w'.cell? ⟨w.heap.size + 1 + 1, 1, none⟩ = some (.slice A1 n1 c1) ∧ w'.cell? ⟨b3, off3 + i, none⟩ = some (.slice A3 n3 c3)) (by kernel_rfl) ⟨s1, s2, s3, t1⟩ (fun hHeld => ?_)
    refine wpAnyH_take (i := 0) (oi := ⟨some 42, _, _, _, _, _⟩) (v := ?_) rfl (by kernel_rfl) (by kernel_rfl) (by kernel_rfl) (fun _ _ _ h => h) (Or.inl ⟨by rfl, ?_⟩) (by assumption) ?_; rotate_left; (focus (intro w hSw; (try dsimp only at hSw); go_simp; (try with_reducible rfl))); (try simp only [Act.put, List.setIfInBounds_toArray, List.set_cons_zero, List.set_cons_succ])
    refine wpAnyH_take (i := 1) (oi := ⟨some 43, _, _, _, _, _⟩) (v := ?_) rfl (by kernel_rfl) (by kernel_rfl) (by kernel_rfl) (fun _ _ _ h => h) (Or.inl ⟨by rfl, ?_⟩) (by assumption) ?_; rotate_left; (focus (intro w hSw; (try dsimp only at hSw); go_simp; (try with_reducible rfl))); (try simp only [Act.put, List.setIfInBounds_toArray, List.set_cons_zero, List.set_cons_succ])
    refine wpAnyH_take (i := 2) (oi := ⟨some 44, _, _, _, _, _⟩) (v := ?_) rfl (by kernel_rfl) (by kernel_rfl) (by kernel_rfl) (fun _ _ _ h => h) (Or.inl ⟨by rfl, ?_⟩) (by assumption) ?_; rotate_left; (focus (intro w hSw; (try dsimp only at hSw); go_simp; (try with_reducible rfl))); (try simp only [Act.put, List.setIfInBounds_toArray, List.set_cons_zero, List.set_cons_succ])
    refine wpAnyH_take (i := 3) (oi := ⟨some 45, _, _, _, _, _⟩) (v := ?_) rfl (by kernel_rfl) (by kernel_rfl) (by kernel_rfl) (fun _ _ _ h => h) (Or.inl ⟨by rfl, ?_⟩) (by assumption) ?_; rotate_left; (focus (intro w hSw; (try dsimp only at hSw); go_simp; (try with_reducible rfl))); (try simp only [Act.put, List.setIfInBounds_toArray, List.set_cons_zero, List.set_cons_succ])
    refine wpAnyH_take (i := 4) (oi := ⟨some 46, _, _, _, _, _⟩) (v := ?_) rfl (by kernel_rfl) (by kernel_rfl) (by kernel_rfl) (fun _ _ _ h => h) (Or.inl ⟨by rfl, ?_⟩) (by assumption) ?_; rotate_left; (focus (intro w hSw; (try dsimp only at hSw); go_simp; (try with_reducible rfl))); (try simp only [Act.put, List.setIfInBounds_toArray, List.set_cons_zero, List.set_cons_succ])
    refine wpAnyH_take (i := 5) (oi := ⟨some 47, _, _, _, _, _⟩) (v := ?_) rfl (by kernel_rfl) (by kernel_rfl) (by kernel_rfl) (fun _ _ _ h => h) (Or.inl ⟨by rfl, ?_⟩) (by assumption) ?_; rotate_left; (focus (intro w hSw; (try dsimp only at hSw); go_simp; (try with_reducible rfl))); (try simp only [Act.put, List.setIfInBounds_toArray, List.set_cons_zero, List.set_cons_succ])
    refine wpAnyH_take (i := 7) (oi := ⟨some 49, _, _, _, _, _⟩) (v := ?_) rfl (by kernel_rfl) (by kernel_rfl) (by kernel_rfl) (fun _ _ _ h => h) (Or.inl ⟨by rfl, ?_⟩) (by assumption) ?_; rotate_left; (focus (intro w hSw; (try dsimp only at hSw); go_simp; (try with_reducible rfl))); (try simp only [Act.put, List.setIfInBounds_toArray, List.set_cons_zero, List.set_cons_succ])
    refine wpAnyH_take (i := 8) (oi := ⟨some 50, _, _, _, _, _⟩) (v := ?_) rfl (by kernel_rfl) (by kernel_rfl) (by kernel_rfl) (fun _ _ _ h => h) (Or.inl ⟨by rfl, ?_⟩) (by assumption) ?_; rotate_left; (focus (intro w hSw; (try dsimp only at hSw); go_simp; (try with_reducible rfl))); (try simp only [Act.put, List.setIfInBounds_toArray, List.set_cons_zero, List.set_cons_succ])
    refine wpAnyH_take (i := 9) (oi := ⟨some 51, _, _, _, _, _⟩) (v := ?_) rfl (by kernel_rfl) (by kernel_rfl) (by kernel_rfl) (fun _ _ _ h => h) (Or.inl ⟨by rfl, ?_⟩) (by assumption) ?_; rotate_left; (focus (intro w hSw; (try dsimp only at hSw); go_simp; (try with_reducible rfl))); (try simp only [Act.put, List.setIfInBounds_toArray, List.set_cons_zero, List.set_cons_succ])
    refine wpAnyH_take (i := 10) (oi := ⟨some 52, _, _, _, _, _⟩) (v := ?_) rfl (by kernel_rfl) (by kernel_rfl) (by kernel_rfl) (fun _ _ _ h => h) (Or.inl ⟨by rfl, ?_⟩) (by assumption) ?_; rotate_left; (focus (intro w hSw; (try dsimp only at hSw); go_simp; (try with_reducible rfl))); (try simp only [Act.put, List.setIfInBounds_toArray, List.set_cons_zero, List.set_cons_succ])
    refine wpAnyH_take (i := 11) (oi := ⟨some 53, _, _, _, _, _⟩) (v := ?_) rfl (by kernel_rfl) (by kernel_rfl) (by kernel_rfl) (fun _ _ _ h => h) (Or.inl ⟨by rfl, ?_⟩) (by assumption) ?_; rotate_left; (focus (intro w hSw; (try dsimp only at hSw); go_simp; (try with_reducible rfl))); (try simp only [Act.put, List.setIfInBounds_toArray, List.set_cons_zero, List.set_cons_succ])
    refine wpAnyH_ready (rs := [6]) (by kernel_rfl) (by simp) ?_; refine AllReadyH.cons (o := ⟨some 48, _, _, _, _, _⟩) rfl (fun K hK => ?_) AllReadyH.nil; go_simp
    go_at_call 59
    refine (HMR.out W3.drew (show B ≤ W3.heap.size by omega) HPS3.out).mono ?_
    rintro e w5 ⟨v5, rfl, ho, hb5'⟩
    obtain ⟨A5, c5, rfl, hI5⟩ := OwnI.form ho
    have hb5 : Below W3.heap.size W3 w5 := below_of_drew hb5'
    have hs5 : W3.heap.size ≤ w5.heap.size := hb5.size
    have u1 := (hb5.cell (p := ⟨w.heap.size + 1, 1, none⟩) (by show w.heap.size + 1 < W3.heap.size; omega)).trans s1
    have u2 := (hb5.cell (p := ⟨w.heap.size + 1 + 1, 0, none⟩) (by show w.heap.size + 1 + 1 < W3.heap.size; omega)).trans s2
    have u3 := (hb5.cell (p := ⟨w.heap.size + 1 + 1, 1, none⟩) (by show w.heap.size + 1 + 1 < W3.heap.size; omega)).trans s3
    have u4 := (hb5.cell (p := ⟨b3, off3 + i, none⟩) (by show b3 < W3.heap.size; omega)).trans t1
    have HLS5 := Lib.hid ((HLS3.out.below hb5 (by omega)).more (B' := w5.heap.size) (by omega))
    have HC := Lib.hid (impl_areDifferentOf A5 A3 M.length c5 n3 c3 M L w5 w5.heap.size (Nat.le_refl _) rfl HN3.out hI5 HLS5.out (by omega) (by omega) hcap)
    rw [HRI.out] at HC
    refine hK.out _ _ ⟨u1, u2, u3, u4⟩ (fun hHeld => ?_)
    clear hK K
    (try simp only [Act.put, List.setIfInBounds_toArray, List.set_cons_zero, List.set_cons_succ])
    refine wpAnyH_ready (rs := [12]) (by kernel_rfl) (by simp) ?_; refine AllReadyH.cons (o := ⟨some 54, _, _, _, _, _⟩) rfl (fun K hK => ?_) AllReadyH.nil; go_simp
    go_at_call 58
    refine HC.out.mono ?_
    rintro e w6 ⟨rfl, rfl⟩
    refine hK.out _ _ ⟨u1, u2, u3, u4⟩ (fun hHeld => ?_)
    clear hK K
    (try simp only [Act.put, List.setIfInBounds_toArray, List.set_cons_zero, List.set_cons_succ])
    refine wpAnyH_take (i := 13) (oi := ⟨some 55, _, _, _, _, _⟩) (v := ?_) rfl (by kernel_rfl) (by kernel_rfl) (by kernel_rfl) (fun _ _ _ h => h) (Or.inl ⟨by rfl, ?_⟩) (by assumption) ?_; rotate_left; (focus (intro w hSw; (try dsimp only at hSw); go_simp; (try with_reducible rfl))); (try simp only [Act.put, List.setIfInBounds_toArray, List.set_cons_zero, List.set_cons_succ])
    refine wpAnyH_take (i := 14) (oi := ⟨some 6, _, _, _, _, _⟩) (v := ?_) rfl (by kernel_rfl) (by kernel_rfl) (by kernel_rfl) (fun _ _ _ h => h) (Or.inl ⟨by rfl, ?_⟩) (by assumption) ?_; rotate_left; (focus (intro w hSw; (try dsimp only at hSw); go_simp; (try with_reducible rfl))); (try simp only [Act.put, List.setIfInBounds_toArray, List.set_cons_zero, List.set_cons_succ])
    refine wpAnyH_done (by kernel_rfl) ?_ _
    clear ho hI5
    go_wp2
    go_ret
    exact ⟨ret_b HF.out.symm, HB3.out.trans (hb5.mono (by omega))⟩
  · have hd' : (d.k != 0) = false := by simp [bne, hd]
    rw [hd] at hfd
    have HF := Lib.hid (show r = false by rw [hfd]; rfl)
    clear hfd
    go_enter Try.func36, Try.ntmps36
    go_wp2
    rw [← HW3.out]
    obtain ⟨s1, s2, s3⟩ := HT.out
    refine wp_region_held_drew (S := fun w' => w'.cell? ⟨w.heap.size + 1 + 1, 0, none⟩ = some (.int .i64 d.k)) (by kernel_rfl) s2 (fun hHeld => ?_)
    refine wpAnyH_take (i := 0) (oi := ⟨some 42, _, _, _, _, _⟩) (v := ?_) rfl (by kernel_rfl) (by kernel_rfl) (by kernel_rfl) (fun _ _ _ h => h) (Or.inl ⟨by rfl, ?_⟩) (by assumption) ?_; rotate_left; (focus (intro w hSw; (try dsimp only at hSw); go_simp; (try with_reducible rfl))); (try simp only [Act.put, List.setIfInBounds_toArray, List.set_cons_zero, List.set_cons_succ])
    refine wpAnyH_take (i := 1) (oi := ⟨some 43, _, _, _, _, _⟩) (v := ?_) rfl (by kernel_rfl) (by kernel_rfl) (by kernel_rfl) (fun _ _ _ h => h) (Or.inl ⟨by rfl, ?_⟩) (by assumption) ?_; rotate_left; (focus (intro w hSw; (try dsimp only at hSw); go_simp; (try with_reducible rfl))); (try simp only [Act.put, List.setIfInBounds_toArray, List.set_cons_zero, List.set_cons_succ])
    refine wpAnyH_take (i := 2) (oi := ⟨some 44, _, _, _, _, _⟩) (v := ?_) rfl (by kernel_rfl) (by kernel_rfl) (by kernel_rfl) (fun _ _ _ h => h) (Or.inl ⟨by rfl, ?_⟩) (by assumption) ?_; rotate_left; (focus (intro w hSw; (try dsimp only at hSw); go_simp; (try with_reducible rfl))); (try simp only [Act.put, List.setIfInBounds_toArray, List.set_cons_zero, List.set_cons_succ])
    refine wpAnyH_take (i := 3) (oi := ⟨some 45, _, _, _, _, _⟩) (v := ?_) rfl (by kernel_rfl) (by kernel_rfl) (by kernel_rfl) (fun _ _ _ h => h) (Or.inl ⟨by rfl, ?_⟩) (by assumption) ?_; rotate_left; (focus (intro w hSw; (try dsimp only at hSw); go_simp; (try with_reducible rfl))); (try simp only [Act.put, List.setIfInBounds_toArray, List.set_cons_zero, List.set_cons_succ])
    refine wpAnyH_take (i := 4) (oi := ⟨some 46, _, _, _, _, _⟩) (v := undef) rfl (by kernel_rfl) (by kernel_rfl) (by kernel_rfl) (fun _ _ _ h => h) (Or.inr ⟨by rfl, rfl⟩) (by assumption) ?_; (try simp only [Act.put, List.setIfInBounds_toArray, List.set_cons_zero, List.set_cons_succ])
    refine wpAnyH_take (i := 5) (oi := ⟨some 47, _, _, _, _, _⟩) (v := undef) rfl (by kernel_rfl) (by kernel_rfl) (by kernel_rfl) (fun _ _ _ h => h) (Or.inr ⟨by rfl, rfl⟩) (by assumption) ?_; (try simp only [Act.put, List.setIfInBounds_toArray, List.set_cons_zero, List.set_cons_succ])
    refine wpAnyH_take (i := 6) (oi := ⟨some 48, _, _, _, _, _⟩) (v := undef) rfl (by kernel_rfl) (by kernel_rfl) (by kernel_rfl) (fun _ _ _ h => h) (Or.inr ⟨by rfl, rfl⟩) (by assumption) ?_; (try simp only [Act.put, List.setIfInBounds_toArray, List.set_cons_zero, List.set_cons_succ])
    refine wpAnyH_take (i := 7) (oi := ⟨some 49, _, _, _, _, _⟩) (v := undef) rfl (by kernel_rfl) (by kernel_rfl) (by kernel_rfl) (fun _ _ _ h => h) (Or.inr ⟨by rfl, rfl⟩) (by assumption) ?_; (try simp only [Act.put, List.setIfInBounds_toArray, List.set_cons_zero, List.set_cons_succ])
    refine wpAnyH_take (i := 8) (oi := ⟨some 50, _, _, _, _, _⟩) (v := undef) rfl (by kernel_rfl) (by kernel_rfl) (by kernel_rfl) (fun _ _ _ h => h) (Or.inr ⟨by rfl, rfl⟩) (by assumption) ?_; (try simp only [Act.put, List.setIfInBounds_toArray, List.set_cons_zero, List.set_cons_succ])
    refine wpAnyH_take (i := 9) (oi := ⟨some 51, _, _, _, _, _⟩) (v := undef) rfl (by kernel_rfl) (by kernel_rfl) (by kernel_rfl) (fun _ _ _ h => h) (Or.inr ⟨by rfl, rfl⟩) (by assumption) ?_; (try simp only [Act.put, List.setIfInBounds_toArray, List.set_cons_zero, List.set_cons_succ])
    refine wpAnyH_take (i := 10) (oi := ⟨some 52, _, _, _, _, _⟩) (v := undef) rfl (by kernel_rfl) (by kernel_rfl) (by kernel_rfl) (fun _ _ _ h => h) (Or.inr ⟨by rfl, rfl⟩) (by assumption) ?_; (try simp only [Act.put, List.setIfInBounds_toArray, List.set_cons_zero, List.set_cons_succ])
    refine wpAnyH_take (i := 11) (oi := ⟨some 53, _, _, _, _, _⟩) (v := undef) rfl (by kernel_rfl) (by kernel_rfl) (by kernel_rfl) (fun _ _ _ h => h) (Or.inr ⟨by rfl, rfl⟩) (by assumption) ?_; (try simp only [Act.put, List.setIfInBounds_toArray, List.set_cons_zero, List.set_cons_succ])
    refine wpAnyH_take (i := 12) (oi := ⟨some 54, _, _, _, _, _⟩) (v := undef) rfl (by kernel_rfl) (by kernel_rfl) (by kernel_rfl) (fun _ _ _ h => h) (Or.inr ⟨by rfl, rfl⟩) (by assumption) ?_; (try simp only [Act.put, List.setIfInBounds_toArray, List.set_cons_zero, List.set_cons_succ])
    refine wpAnyH_take (i := 13) (oi := ⟨some 55, _, _, _, _, _⟩) (v := ?_) rfl (by kernel_rfl) (by kernel_rfl) (by kernel_rfl) (fun _ _ _ h => h) (Or.inl ⟨by rfl, ?_⟩) (by assumption) ?_; rotate_left; (focus (intro w hSw; (try dsimp only at hSw); go_simp; (try with_reducible rfl))); (try simp only [Act.put, List.setIfInBounds_toArray, List.set_cons_zero, List.set_cons_succ])
    refine wpAnyH_take (i := 14) (oi := ⟨some 6, _, _, _, _, _⟩) (v := ?_) rfl (by kernel_rfl) (by kernel_rfl) (by kernel_rfl) (fun _ _ _ h => h) (Or.inl ⟨by rfl, ?_⟩) (by assumption) ?_; rotate_left; (focus (intro w hSw; (try dsimp only at hSw); go_simp; (try with_reducible rfl))); (try simp only [Act.put, List.setIfInBounds_toArray, List.set_cons_zero, List.set_cons_succ])
    refine wpAnyH_done (by kernel_rfl) ?_ _
    go_wp2
    go_ret
    exact ⟨ret_b HF.out.symm, HB3.out.drew⟩

set_option maxRecDepth 100000 in
set_option maxHeartbeats 3200000 in
theorem impl_ValidLazy (A A' E C : Option Addr) (n c m c' p ec q qc : Nat) (gs : List Nd) (st : Lz) (w : World) (B : Nat) (hB : B ≤ w.heap.size) (hn : n = gs.length) (hnc : n ≤ c) (hm : m = st.vs.length) (hp : p = st.rs.length) (hq : q = st.cs.length) (h : GS w B A gs) (h' : LS4 w B A' E C st) (hs : GB gs) (hb0 : LB st) :
    Calls Try.prog 12 #[.agg #[.slice A n c], .agg #[.slice A' m c', .slice E p ec, .slice C q qc]] w fun e w' => e = .returned (.bool (validL gs st)) ∧ Below w.heap.size w w' := by
  have HC := Lib.hid fun (w' : World) (hB : B ≤ w'.heap.size) (h : GS w' B A gs) => impl_ValidGraph A n c gs w' B hB hn h hs hnc
  have hm1 : m ≤ 1048576 := by rw [hm]; exact hb0.1
  have hp1 : p ≤ 1048576 := by rw [hp]; exact hb0.2.1.1
  have hq1 : q ≤ 1048576 := by rw [hq]; exact hb0.2.2.2.2.2
  have hn1 : n ≤ 1048576 := by rw [hn]; exact hs.1
  have hve : validL gs st = (validG gs && (decide (st.vs.length = gs.length) && (decide (st.rs.length = gs.length) && (decide (st.cs.length = gs.length) && (allR st.vs 0 999 && (allR st.cs 0 2 && allL gs st)))))) := rfl
  rw [← hn, ← hm, ← hp, ← hq] at hve
  have H := Lib.hid h
  have H' := Lib.hid h'
  have HN := Lib.hid hn
  have HM := Lib.hid hm
  have HP := Lib.hid hp
  have HQ := Lib.hid hq
  cases hvg : validG gs
  · have hf : validL gs st = false := by rw [hve, hvg]; rfl
    rw [hf]
    rw [hvg] at HC
    clear hf hve hvg h h' hn hm hp hq hs hb0
    go_enter Try.func12, Try.ntmps12
    go_wp2_with fail
    refine (HC.out _ (by simp; omega) ((H.out.alloc hB _).alloc (by simp; omega) _)).mono ?_
    rintro e w1 ⟨rfl, hb⟩
    go_wp2
    go_ret
    exact ⟨rfl, (((Below.refl _ _).alloc (Nat.le_refl _) _).alloc (by simp) _).trans (hb.mono (by simp; omega))⟩
  rw [hvg] at HC
  by_cases hl : m = n ∧ p = n ∧ q = n
  case neg =>
    have hf : validL gs st = false := by
      rw [hve]
      by_cases h1 : m = n
      · by_cases h2 : p = n
        · rw [decide_eq_false (p := q = n) (fun e => hl ⟨h1, h2, e⟩)]; simp
        · rw [decide_eq_false (p := p = n) h2]; simp
      · rw [decide_eq_false (p := m = n) h1]; simp
    rw [hf]
    have hcs := ne_cases n m p q hl
    clear hf hve hvg h h' hn hm hp hq hs hb0 hl
    rcases hcs with h1 | ⟨h1, h2⟩ | ⟨h1, h2, h3⟩
    all_goals
      go_enter Try.func12, Try.ntmps12
      go_wp2_with fail
      refine (HC.out _ (by simp; omega) ((H.out.alloc hB _).alloc (by simp; omega) _)).mono ?_
      rintro e w1 ⟨rfl, hb⟩
      have q0 : w1.cell? ⟨w.heap.size, 0, none⟩ = some (.slice A n c) := (hb.cell (p := ⟨w.heap.size, 0, none⟩) (by simp; omega)).trans (by go_simp)
      have q1 : w1.cell? ⟨w.heap.size + 1, 0, none⟩ = some (.slice A' m c') := (hb.cell (p := ⟨w.heap.size + 1, 0, none⟩) (by simp)).trans (by go_simp)
      have q2 : w1.cell? ⟨w.heap.size + 1, 1, none⟩ = some (.slice E p ec) := (hb.cell (p := ⟨w.heap.size + 1, 1, none⟩) (by simp)).trans (by go_simp)
      have q3 : w1.cell? ⟨w.heap.size + 1, 2, none⟩ = some (.slice C q qc) := (hb.cell (p := ⟨w.heap.size + 1, 2, none⟩) (by simp)).trans (by go_simp)
      have hB1 : Below w.heap.size w w1 := (((Below.refl _ _).alloc (Nat.le_refl _) _).alloc (by simp) _).trans (hb.mono (by simp; omega))
      have hl1 : w.heap.size + 2 ≤ w1.heap.size := by have := hb.size; simp at this; omega
      go_wp2
      go_ret
      exact ⟨rfl, hB1⟩
  obtain ⟨hl1, hl2, hl3⟩ := hl
  have hne1 : ((m : Int) != (n : Int)) = false := by simp [hl1]
  have hne2 : ((p : Int) != (n : Int)) = false := by simp [hl2]
  have hne3 : ((q : Int) != (n : Int)) = false := by simp [hl3]
  have HAR := Lib.hid fun (w' : World) (hB : B ≤ w'.heap.size) (h : IS w' B A' st.vs) => impl_allInRange A' m c' st.vs 999 w' B hB hm h (by omega)
  have hn10 : n ≤ 10 := by rw [hn]; exact (validG_parts gs hvg).1
  have h10 : decide (st.vs.length ≤ 10) = true := decide_eq_true (by omega)
  rw [h10, Bool.true_and] at HAR
  cases hr : allR st.vs 0 999
  · have hf : validL gs st = false := by rw [hve, hr]; simp
    rw [hf]
    rw [hr] at HAR
    clear hf hve hvg h h' hn hm hp hq hs hb0 hl1 hl2 hl3 hr h10
    go_enter Try.func12, Try.ntmps12
    go_wp2_with fail
    refine (HC.out _ (by simp; omega) ((H.out.alloc hB _).alloc (by simp; omega) _)).mono ?_
    rintro e w1 ⟨rfl, hb⟩
    have q0 : w1.cell? ⟨w.heap.size, 0, none⟩ = some (.slice A n c) := (hb.cell (p := ⟨w.heap.size, 0, none⟩) (by simp; omega)).trans (by go_simp)
    have q1 : w1.cell? ⟨w.heap.size + 1, 0, none⟩ = some (.slice A' m c') := (hb.cell (p := ⟨w.heap.size + 1, 0, none⟩) (by simp)).trans (by go_simp)
    have q2 : w1.cell? ⟨w.heap.size + 1, 1, none⟩ = some (.slice E p ec) := (hb.cell (p := ⟨w.heap.size + 1, 1, none⟩) (by simp)).trans (by go_simp)
    have q3 : w1.cell? ⟨w.heap.size + 1, 2, none⟩ = some (.slice C q qc) := (hb.cell (p := ⟨w.heap.size + 1, 2, none⟩) (by simp)).trans (by go_simp)
    have hB1 : Below w.heap.size w w1 := (((Below.refl _ _).alloc (Nat.le_refl _) _).alloc (by simp) _).trans (hb.mono (by simp; omega))
    have hl1 : w.heap.size + 2 ≤ w1.heap.size := by have := hb.size; simp at this; omega
    go_wp2_with fail
    refine (HAR.out _ (by omega) (((H'.out.1.1.alloc hB _).alloc (by simp; omega) _).below hb (by simp; omega))).mono ?_
    rintro e w' ⟨rfl, rfl⟩
    go_wp2
    go_ret
    exact ⟨rfl, hB1⟩
  rw [hr] at HAR
  have hf : validL gs st = allF gs st := by rw [hve, hvg, decide_eq_true hl1, decide_eq_true hl2, decide_eq_true hl3, hr, allF_eq gs st hvg (by omega)]; simp
  rw [hf]
  have HGC := Lib.hid fun (i : Nat) (hi : i < n) (w' : World) (B1 : Nat) (hB : B1 ≤ w'.heap.size) (h : GS w' B1 A gs) (h' : LS4 w' B1 A' E C st) =>
    impl_fitsColour A A' E C n c m c' p ec q qc gs st i w' B1 hB hn hm hp hq h h' hs hb0 hvg (by omega) (by omega) (by omega) hr hi
  have HBAD := Lib.hid fun (i : Nat) (hi : i < gs.length) => allF_bad gs st i hi
  have HFIN := Lib.hid (allF_fin gs st)
  clear hf hve hvg h h' hn hm hp hq hs hb0 hl1 hl2 hl3 hr h10
  go_enter Try.func12, Try.ntmps12
  go_wp2_with fail
  refine (HC.out _ (by simp; omega) ((H.out.alloc hB _).alloc (by simp; omega) _)).mono ?_
  rintro e w1 ⟨rfl, hb⟩
  have q0 : w1.cell? ⟨w.heap.size, 0, none⟩ = some (.slice A n c) := (hb.cell (p := ⟨w.heap.size, 0, none⟩) (by simp; omega)).trans (by go_simp)
  have q1 : w1.cell? ⟨w.heap.size + 1, 0, none⟩ = some (.slice A' m c') := (hb.cell (p := ⟨w.heap.size + 1, 0, none⟩) (by simp)).trans (by go_simp)
  have q2 : w1.cell? ⟨w.heap.size + 1, 1, none⟩ = some (.slice E p ec) := (hb.cell (p := ⟨w.heap.size + 1, 1, none⟩) (by simp)).trans (by go_simp)
  have q3 : w1.cell? ⟨w.heap.size + 1, 2, none⟩ = some (.slice C q qc) := (hb.cell (p := ⟨w.heap.size + 1, 2, none⟩) (by simp)).trans (by go_simp)
  have hB1 : Below w.heap.size w w1 := (((Below.refl _ _).alloc (Nat.le_refl _) _).alloc (by simp) _).trans (hb.mono (by simp; omega))
  have hl1 : w.heap.size + 2 ≤ w1.heap.size := by have := hb.size; simp at this; omega
  have HG1 := Lib.hid (((H.out.alloc hB (.cells #[.slice A n c] 34)).alloc (by simp; omega) (.cells #[.slice A' m c', .slice E p ec, .slice C q qc] 36)).below hb (by simp; omega))
  have HE1 := Lib.hid (((H'.out.alloc hB (.cells #[.slice A n c] 34)).alloc (by simp; omega) (.cells #[.slice A' m c', .slice E p ec, .slice C q qc] 36)).below hb (by simp; omega))
  clear hb H H' HC
  go_wp2_with fail
  refine (HAR.out _ (by omega) HE1.out.1.1).mono ?_
  rintro e w' ⟨rfl, rfl⟩
  clear HAR
  go_wp2
  go_loopw [41] (fun u wr => ∃ k : Nat, k ≤ n ∧ u = .int .i64 k ∧ Hid (∀ i, i < k → fitF gs st i = true) ∧ Hid (Below w1.heap.size w1 wr) ∧ w1.heap.size ≤ wr.heap.size) (fun u _ => n - (intOf u).toNat)
  case atStart => exact ⟨0, Nat.zero_le _, rfl, fun i hi => by omega, Below.refl _ _, Nat.le_refl _⟩
  case round =>
    obtain ⟨k, hk, rfl, HK, HB, hwr⟩ := hrel
    have r0 := (HB.out.cell (p := ⟨w.heap.size, 0, none⟩) (by show w.heap.size < w1.heap.size; omega)).trans q0
    have r1 := (HB.out.cell (p := ⟨w.heap.size + 1, 0, none⟩) (by show w.heap.size + 1 < w1.heap.size; omega)).trans q1
    have r2 := (HB.out.cell (p := ⟨w.heap.size + 1, 1, none⟩) (by show w.heap.size + 1 < w1.heap.size; omega)).trans q2
    have r3 := (HB.out.cell (p := ⟨w.heap.size + 1, 2, none⟩) (by show w.heap.size + 1 < w1.heap.size; omega)).trans q3
    by_cases hlt : k < n
    · have hkg : k < gs.length := by have := HN.out; omega
      have HCALL := Lib.hid (HGC.out k hlt wr w1.heap.size hwr ((HG1.out.below HB.out (by omega)).more (by omega)) ((HE1.out.below HB.out (by omega)).more (by omega)))
      have HNK := Lib.hid (HBAD.out k hkg)
      have HNT : Hid (fitF gs st k = true → ∀ i, i < k + 1 → fitF gs st i = true) := fun h j hj => by
        rcases Nat.lt_or_ge j k with h1 | h1
        · exact HK.out j h1
        · obtain rfl : j = k := by omega
          exact h
      generalize fitF gs st k = r at *
      go_wp2_with fail
      refine HCALL.out.mono ?_
      rintro e w6 ⟨rfl, hb6⟩
      have HB6 := Lib.hid (HB.out.trans (hb6.mono HB.out.size))
      cases r
      · go_wp2
        go_ret
        exact ⟨ret_b (HNK.out (by first | rfl | trivial)).symm, hB1.trans (HB6.out.mono (by omega))⟩
      · go_wp2
        go_roundw
        case rel => exact ⟨k + 1, by omega, by go_num, HNT.out (by first | rfl | trivial), HB6.out, HB6.out.size⟩
        case measure => simp [intOf]; omega
    · obtain rfl : k = n := by omega
      go_wp2
      go_ret
      exact ⟨ret_b (HFIN.out fun i hi => HK.out i (by have := HN.out; omega)).symm, hB1.trans (HB.out.mono (by omega))⟩

theorem top_impl_ValidLazy (gs : List Nd) (st : Lz) (hG : GB gs) (hE : LB st) : ∀ (A : Option Addr) (n c : Nat) (A' : Option Addr) (m c' : Nat) (E : Option Addr) (p ec : Nat) (C : Option Addr) (q qc : Nat) (w : World), n = gs.length → n ≤ c → GS w w.heap.size A gs → m = st.vs.length → p = st.rs.length → q = st.cs.length → LS4 w w.heap.size A' E C st →
    Calls Try.prog 12 #[.agg #[.slice A n c], .agg #[.slice A' m c', .slice E p ec, .slice C q qc]] w fun e w' => e = .returned (.bool (validL gs st)) ∧ Below w.heap.size w w' :=
  fun A n c A' m c' E p ec C q qc w hn hnc h hm hp hq h' => impl_ValidLazy A A' E C n c m c' p ec q qc gs st w w.heap.size (Nat.le_refl _) hn hnc hm hp hq h h' hG hE
end Go.Proofs.Ythnilpibpmlaeaa

/- How the laws' arguments open: a formula, a list of numbers. -/
namespace Go.Proofs.Ythnilpibpmlaeaa
set_option linter.unusedSimpArgs false
set_option linter.unusedVariables false
open Go.ChangeShapes Go.WideShapes Go.ChangeAt Go.RowKit Go.Deep

theorem own : ownKnob Try.prog.godebug = none := by kernel_rfl
theorem laidOut : laidOutB Try.prog = true := by kernel_rfl
theorem cells_lawPart : Try.prog.cellsOf 111 = 5 := by kernel_rfl
theorem cells_int : Try.prog.cellsOf 3 = 1 := by kernel_rfl
theorem cells_lawFormula : Try.prog.cellsOf 71 = 1 := by kernel_rfl
theorem cells_lawParts : Try.prog.cellsOf 69 = 1 := by kernel_rfl

theorem add_of (b off n : Nat) : (⟨b, off, none⟩ : Addr).add n = ⟨b, off + n, none⟩ := by
  unfold Addr.add
  by_cases h : n = 0 <;> simp [h]

theorem add_add' (a : Addr) (i j : Nat) : (a.add i).add j = a.add (i + j) := by
  unfold Addr.add
  by_cases hi : i = 0 <;> by_cases hj : j = 0 <;> simp [hi, hj, Nat.add_assoc]

theorem one_of_list (cs : List Value) (h : cs.length = 1) : ∃ c, cs = [c] := by
  match cs, h with
  | [c], _ => exact ⟨c, rfl⟩

theorem choose_parts (f : Nat → Nat → Option Value) (len : Nat) (hp : ∀ i, i < len → ∃ p : Pt, ∀ j, j < 5 → f i j = p.cells[j]?) :
    ∃ ps : List Pt, ps.length = len ∧ ∀ i, i < len → ∀ j, j < 5 → f i j = (ps.getD i default).cells[j]? := by
  induction len with
  | zero => exact ⟨[], rfl, fun i hi => by omega⟩
  | succ k ih =>
    obtain ⟨ps, hl, hps⟩ := ih (fun i hi => hp i (by omega))
    obtain ⟨p, hpp⟩ := hp k (by omega)
    refine ⟨ps ++ [p], by simp [hl], fun i hi j hj => ?_⟩
    rcases Nat.lt_or_ge i k with h1 | h1
    · rw [hps i h1 j hj]; simp [List.getD, List.getElem?_append, hl, h1]
    · obtain rfl : i = k := by omega
      rw [hpp j hj]; simp [List.getD, List.getElem?_append, hl]

section
variable {H : Type} {enc : TypeId × Value → H} {w : World} {base : Nat} {spare : Nat → Bool} {held : Bool}

set_option maxRecDepth 100000 in
theorem part_cells {fuel : Nat} {cs : List Value} {x : DataW H × List MemPlace} (h : DataW.trod enc Try.prog w base spare held fuel 111 cs = some x) :
    ∃ p : Pt, cs = p.cells := by
  obtain ⟨xs, n, _, _, hl, hxl, hf⟩ := DataW.trod_struct Try.underlying111 h
  rw [cells_lawPart] at hl
  match cs, hl with
  | [c0, c1, c2, c3, c4], _ =>
    have key (c : Value) (m : Nat) (i : Nat) (hi : i < xs.length) (h1 : DataW.trod enc Try.prog w base spare held m 3 (List.take (Try.prog.cellsOf 3) (c :: ([c0, c1, c2, c3, c4] : List Value).drop (i + 1))) = xs[i]?) : ∃ k : Int, c = .int .i64 k := by
      rw [cells_int, List.getElem?_eq_getElem hi] at h1
      obtain ⟨k, e, _⟩ := DataW.trod_int Try.underlying3 h1
      exact ⟨k, by simpa using e⟩
    have hxl' : xs.length = 5 := hxl
    obtain ⟨k0, rfl⟩ := key c0 n 0 (by omega) (hf 0 _ rfl)
    obtain ⟨k1, rfl⟩ := key c1 n 1 (by omega) (hf 1 _ rfl)
    obtain ⟨k2, rfl⟩ := key c2 n 2 (by omega) (hf 2 _ rfl)
    obtain ⟨k3, rfl⟩ := key c3 n 3 (by omega) (hf 3 _ rfl)
    obtain ⟨k4, rfl⟩ := key c4 n 4 (by omega) (hf 4 _ rfl)
    exact ⟨⟨k0, k1, k2, k3, k4⟩, rfl⟩

set_option maxRecDepth 100000 in
theorem open_parts {fuel : Nat} {cs : List Value} {x : DataW H × List MemPlace} (h : DataW.trod enc Try.prog w base spare held fuel 69 cs = some x) :
    ∃ (A : Option Addr) (n c : Nat) (ps : List Pt), cs = [.slice A n c] ∧ n = ps.length ∧ n ≤ 9223372036854775807 ∧ PS w w.heap.size A ps := by
  rcases open_slice Try.underlying69 h with ⟨rfl, _⟩ | ⟨a, len, cap, m, n, D, Pl, rfl, hb, hl, hm, hmm, _, hi⟩
  · exact ⟨none, 0, 0, [], rfl, rfl, by omega, PS.nil _ _ _⟩
  · have hlm : len ≤ m := by rw [hmm]; split <;> omega
    have hp : ∀ i, i < len → ∃ p : Pt, ∀ j, j < 5 → w.cell? (a.add (i * 5 + j)) = p.cells[j]? := by
      intro i hlt
      obtain ⟨cs', hc, ht⟩ := hi i (by omega)
      obtain ⟨p, rfl⟩ := part_cells ht
      rw [cells_lawPart] at hc
      obtain ⟨_, _, hat⟩ := World.cells?_some hc
      exact ⟨p, fun j hj => by rw [← add_add']; exact hat j hj⟩
    obtain ⟨ps, hlen, hps⟩ := choose_parts (fun i j => w.cell? (a.add (i * 5 + j))) len hp
    refine ⟨some a, len, cap, ps, rfl, hlen.symm, by unfold maxLen at hm; omega, fun hn => ?_⟩
    have h0 := hps 0 (by omega) 0 (by omega)
    obtain ⟨b, off, spot⟩ := a
    have hspot : spot = none := by
      have h1 : w.cell? ⟨b, off, spot⟩ = some (.int .i64 (ps.getD 0 default).k) := by simpa [Addr.add, Pt.cells] using h0
      exact World.cell?_spot h1
    subst hspot
    have hblk : b < w.heap.size := by
      have h1 : w.cell? ⟨b, off, none⟩ = some (.int .i64 (ps.getD 0 default).k) := by simpa [Addr.add, Pt.cells] using h0
      exact World.block_lt_of_cell? w _ h1
    refine ⟨b, off, rfl, hblk, fun j hj => ?_⟩
    have g := hps j (by omega)
    have g0 := g 0 (by omega)
    have g1 := g 1 (by omega)
    have g2 := g 2 (by omega)
    have g3 := g 3 (by omega)
    have g4 := g 4 (by omega)
    simp only [add_of] at g0 g1 g2 g3 g4
    exact ⟨g0, g1, g2, g3, g4⟩

set_option maxRecDepth 100000 in
theorem open_formula {r : Reach} {b0 : Nat} {v : Value} {d : DataW H} {p : List MemPlace} (hv : Value.okWide Try.prog w r b0 71 v) (h : DataW.Trod enc Try.prog w base spare held 71 v d p) :
    ∃ (A : Option Addr) (n c : Nat) (ps : List Pt), v = .agg #[.slice A n c] ∧ n = ps.length ∧ n ≤ 9223372036854775807 ∧ PS w w.heap.size A ps := by
  obtain ⟨cs, rfl, hsz⟩ := okWide_struct Try.underlying71 hv
  obtain ⟨fuel, hf⟩ := h
  obtain ⟨xs, n, _, _, hl, hxl, hg⟩ := DataW.trod_struct Try.underlying71 hf
  obtain ⟨l⟩ := cs
  obtain ⟨c, rfl⟩ := one_of_list l (by rw [cells_lawFormula] at hsz; simpa using hsz)
  have h1 := hg 0 _ rfl
  have hx : ∃ y, xs[0]? = some y := ⟨_, List.getElem?_eq_getElem (by rw [hxl]; decide)⟩
  obtain ⟨y, hy⟩ := hx
  rw [hy] at h1
  obtain ⟨A, n, c', ps, e, h2, h3, h4⟩ := open_parts h1
  have e' : c = .slice A n c' := by
    change List.take (Try.prog.cellsOf 69) [c] = _ at e
    rw [cells_lawParts] at e
    simpa using e
  subst e'
  exact ⟨A, n, c', ps, rfl, h2, h3, h4⟩

set_option maxRecDepth 100000 in
theorem open_list {r : Reach} {b0 : Nat} {v : Value} {d : DataW H} {p : List MemPlace} (hsp : ∀ b, spare b = true) (hv : Value.okWide Try.prog w r b0 25 v) (h : DataW.Trod enc Try.prog w base spare held 25 v d p) :
    ∃ (A : Option Addr) (n c : Nat) (xs : List Int), v = .slice A n c ∧ n = xs.length ∧ n ≤ 9223372036854775807 ∧ IS w w.heap.size A xs := by
  obtain ⟨a0, len0, cap0, rfl⟩ := okWide_slice Try.underlying25 hv
  obtain ⟨fuel, hf⟩ := h
  rcases open_ints Try.underlying25 Try.underlying3 cells_int hf with ⟨hcs, _⟩ | ⟨x, l, c, zs, hcs, _, hl, hm, hz, _, hcell, _⟩
  · simp [Value.cells] at hcs
    obtain ⟨rfl, rfl, rfl⟩ := hcs
    exact ⟨none, 0, 0, [], rfl, rfl, by omega, IS.nil _ _ _⟩
  · simp [Value.cells] at hcs
    obtain ⟨rfl, rfl, rfl⟩ := hcs
    have hzl : len0 ≤ zs.length := by rw [hz]; split <;> omega
    refine ⟨some x, len0, cap0, zs.take len0, rfl, by simp; omega, by unfold maxLen at hm; omega, fun hn => ?_⟩
    have hlen : (zs.take len0).length = len0 := by simp; omega
    have h0 := hcell 0 (by omega)
    obtain ⟨b, off, spot⟩ := x
    have hspot : spot = none := by
      have h1 : w.cell? ⟨b, off, spot⟩ = some (.int .i64 (zs.getD 0 0)) := by simpa [Addr.add] using h0
      exact World.cell?_spot h1
    subst hspot
    have hblk : b < w.heap.size := by
      have h1 : w.cell? ⟨b, off, none⟩ = some (.int .i64 (zs.getD 0 0)) := by simpa [Addr.add] using h0
      exact World.block_lt_of_cell? w _ h1
    refine ⟨b, off, rfl, hblk, fun j hj => ?_⟩
    have g := hcell j (by omega)
    rw [add_of] at g
    rw [g]
    congr 2
    simp only [List.getD, List.getElem?_take, if_pos (show j < len0 by omega)]
end
end Go.Proofs.Ythnilpibpmlaeaa

/- How the laws' arguments open: a graph, a node. -/
namespace Go.Proofs.Ythnilpibpmlaeaa
set_option linter.unusedSimpArgs false
set_option linter.unusedVariables false
open Go.ChangeShapes Go.WideShapes Go.ChangeAt Go.RowKit Go.Deep

theorem cells_lawNode : Try.prog.cellsOf 73 = 2 := by kernel_rfl
theorem cells_lawGraph : Try.prog.cellsOf 24 = 1 := by kernel_rfl
theorem cells_lawNodes : Try.prog.cellsOf 22 = 1 := by kernel_rfl

theorem choose_list {α : Type} [Inhabited α] (P : Nat → α → Prop) (len : Nat) (hp : ∀ i, i < len → ∃ a, P i a) : ∃ l : List α, l.length = len ∧ ∀ i, i < len → P i (l.getD i default) := by
  induction len with
  | zero => exact ⟨[], rfl, fun i hi => by omega⟩
  | succ k ih =>
    obtain ⟨l, hl, hP⟩ := ih (fun i hi => hp i (by omega))
    obtain ⟨a, ha⟩ := hp k (by omega)
    refine ⟨l ++ [a], by simp [hl], fun i hi => ?_⟩
    rcases Nat.lt_or_ge i k with h1 | h1
    · have := hP i h1
      simpa [List.getD, List.getElem?_append, hl, h1] using this
    · obtain rfl : i = k := by omega
      simpa [List.getD, List.getElem?_append, hl] using ha

section
variable {H : Type} {enc : TypeId × Value → H} {w : World} {base : Nat} {spare : Nat → Bool} {held : Bool}

set_option maxRecDepth 100000 in
theorem node_cells {fuel : Nat} {cs : List Value} {x : DataW H × List MemPlace} (h : DataW.trod enc Try.prog w base spare held fuel 73 cs = some x) :
    ∃ (k : Int) (A : Option Addr) (n c : Nat) (ps : List Pt), cs = [.int .i64 k, .slice A n c] ∧ n = ps.length ∧ n ≤ 9223372036854775807 ∧ PS w w.heap.size A ps := by
  obtain ⟨xs, n, _, _, hl, hxl, hf⟩ := DataW.trod_struct Try.underlying73 h
  rw [cells_lawNode] at hl
  match cs, hl with
  | [c0, c1], _ =>
    have hxl' : xs.length = 2 := hxl
    have h0 : DataW.trod enc Try.prog w base spare held n 3 (List.take (Try.prog.cellsOf 3) [c0, c1]) = xs[0]? := hf 0 _ rfl
    have h1 : DataW.trod enc Try.prog w base spare held n 71 (List.take (Try.prog.cellsOf 71) [c1]) = xs[1]? := hf 1 _ rfl
    rw [cells_int, List.getElem?_eq_getElem (by omega)] at h0
    rw [cells_lawFormula, List.getElem?_eq_getElem (by omega)] at h1
    obtain ⟨k, e, _⟩ := DataW.trod_int Try.underlying3 h0
    have e0 : c0 = .int .i64 k := by simpa using e
    obtain ⟨ys, n2, _, _, hl2, hyl, hg⟩ := DataW.trod_struct Try.underlying71 h1
    have hyl' : ys.length = 1 := hyl
    have h2 : DataW.trod enc Try.prog w base spare held n2 69 (List.take (Try.prog.cellsOf 69) [c1]) = ys[0]? := hg 0 _ rfl
    rw [List.getElem?_eq_getElem (by omega)] at h2
    obtain ⟨A, n3, c', ps, e3, h3, h4, h5⟩ := open_parts h2
    rw [cells_lawParts] at e3
    have e1 : c1 = .slice A n3 c' := by simpa using e3
    exact ⟨k, A, n3, c', ps, by rw [e0, e1], h3, h4, h5⟩

set_option maxRecDepth 100000 in
theorem open_nodes {fuel : Nat} {cs : List Value} {x : DataW H × List MemPlace} (h : DataW.trod enc Try.prog w base spare held fuel 22 cs = some x) :
    ∃ (A : Option Addr) (n c : Nat) (gs : List Nd), cs = [.slice A n c] ∧ n = gs.length ∧ n ≤ 9223372036854775807 ∧ (∀ j, (gs.getD j default).ps.length ≤ 9223372036854775807) ∧ GS w w.heap.size A gs := by
  rcases open_slice Try.underlying22 h with ⟨rfl, _⟩ | ⟨a, len, cap, m, n, D, Pl, rfl, hb, hl, hm, hmm, _, hi⟩
  · exact ⟨none, 0, 0, [], rfl, rfl, by omega, fun j => by simp [List.getD]; exact Nat.zero_le _, GS.nil _ _ _⟩
  · have hlm : len ≤ m := by rw [hmm]; split <;> omega
    have hp : ∀ i, i < len → ∃ d : Nd, w.cell? (a.add (i * 2)) = some (.int .i64 d.k) ∧ ∃ A n c, w.cell? (a.add (i * 2 + 1)) = some (.slice A n c) ∧ n = d.ps.length ∧ n ≤ 9223372036854775807 ∧ PS w w.heap.size A d.ps := by
      intro i hlt
      obtain ⟨cs', hc, ht⟩ := hi i (by omega)
      obtain ⟨k, A, n, c, ps, rfl, h1, h2, h3⟩ := node_cells ht
      rw [cells_lawNode] at hc
      obtain ⟨_, _, hat⟩ := World.cells?_some hc
      have a0 := hat 0 (by simp)
      have a1 := hat 1 (by simp)
      rw [add_add'] at a0 a1
      exact ⟨⟨k, ps⟩, a0, A, n, c, a1, h1, h2, h3⟩
    obtain ⟨gs, hlen, hgs⟩ := choose_list _ len hp
    refine ⟨some a, len, cap, gs, rfl, hlen.symm, by unfold maxLen at hm; omega, fun j => ?_, fun hn => ?_⟩
    · by_cases hj : j < len
      · obtain ⟨_, A, n, c, _, h1, h2, _⟩ := hgs j hj
        omega
      · rw [show gs.getD j default = default by simp [List.getD, List.getElem?_eq_none (show gs.length ≤ j by omega)]]
        exact Nat.zero_le _
    · obtain ⟨h0, _⟩ := hgs 0 (by omega)
      obtain ⟨b, off, spot⟩ := a
      have h1 : w.cell? ⟨b, off, spot⟩ = some (.int .i64 (gs.getD 0 default).k) := by simpa [Addr.add] using h0
      have hspot : spot = none := World.cell?_spot h1
      subst hspot
      refine ⟨b, off, rfl, World.block_lt_of_cell? w _ h1, fun j hj => ?_⟩
      obtain ⟨g0, A, n, c, g1, g2, _, g3⟩ := hgs j (by omega)
      rw [add_of] at g0 g1
      exact ⟨g0, A, n, c, g1, g2, g3⟩

set_option maxRecDepth 100000 in
theorem open_graph {r : Reach} {b0 : Nat} {v : Value} {d : DataW H} {p : List MemPlace} (hv : Value.okWide Try.prog w r b0 24 v) (h : DataW.Trod enc Try.prog w base spare held 24 v d p) :
    ∃ (A : Option Addr) (n c : Nat) (gs : List Nd), v = .agg #[.slice A n c] ∧ n = gs.length ∧ n ≤ 9223372036854775807 ∧ (∀ j, (gs.getD j default).ps.length ≤ 9223372036854775807) ∧ GS w w.heap.size A gs := by
  obtain ⟨cs, rfl, hsz⟩ := okWide_struct Try.underlying24 hv
  obtain ⟨fuel, hf⟩ := h
  obtain ⟨xs, n, _, _, hl, hxl, hg⟩ := DataW.trod_struct Try.underlying24 hf
  obtain ⟨l⟩ := cs
  obtain ⟨c, rfl⟩ := one_of_list l (by rw [cells_lawGraph] at hsz; simpa using hsz)
  have hxl' : xs.length = 1 := hxl
  have h1 : DataW.trod enc Try.prog w base spare held n 22 (List.take (Try.prog.cellsOf 22) [c]) = xs[0]? := hg 0 _ rfl
  rw [List.getElem?_eq_getElem (by omega)] at h1
  obtain ⟨A, n, c', gs, e, h2, h3, h4, h5⟩ := open_nodes h1
  rw [cells_lawNodes] at e
  have e' : c = .slice A n c' := by simpa using e
  subst e'
  exact ⟨A, n, c', gs, rfl, h2, h3, h4, h5⟩
end
end Go.Proofs.Ythnilpibpmlaeaa

/- How the laws' arguments open: lists of numbers inside others, a state of the eager machine. -/
namespace Go.Proofs.Ythnilpibpmlaeaa
set_option linter.unusedSimpArgs false
set_option linter.unusedVariables false
open Go.ChangeShapes Go.WideShapes Go.ChangeAt Go.RowKit Go.Deep

theorem cells_intS : Try.prog.cellsOf 25 = 1 := by kernel_rfl
theorem cells_intSS : Try.prog.cellsOf 26 = 1 := by kernel_rfl

section
variable {H : Type} {enc : TypeId × Value → H} {w : World} {base : Nat} {spare : Nat → Bool} {held : Bool}

set_option maxRecDepth 100000 in
theorem open_intS {fuel : Nat} {cs : List Value} {x : DataW H × List MemPlace} (h : DataW.trod enc Try.prog w base spare held fuel 25 cs = some x) :
    ∃ (A : Option Addr) (n c : Nat) (xs : List Int), cs = [.slice A n c] ∧ n = xs.length ∧ n ≤ 9223372036854775807 ∧ IS w w.heap.size A xs := by
  rcases open_ints Try.underlying25 Try.underlying3 cells_int h with ⟨hcs, _⟩ | ⟨x, len0, cap0, zs, hcs, _, hl, hm, hz, _, hcell, _⟩
  · exact ⟨none, 0, 0, [], hcs, rfl, by omega, IS.nil _ _ _⟩
  · have hzl : len0 ≤ zs.length := by rw [hz]; split <;> omega
    refine ⟨some x, len0, cap0, zs.take len0, hcs, by simp; omega, by unfold maxLen at hm; omega, fun hn => ?_⟩
    have hlen : (zs.take len0).length = len0 := by simp; omega
    have h0 := hcell 0 (by omega)
    obtain ⟨b, off, spot⟩ := x
    have hspot : spot = none := by
      have h1 : w.cell? ⟨b, off, spot⟩ = some (.int .i64 (zs.getD 0 0)) := by simpa [Addr.add] using h0
      exact World.cell?_spot h1
    subst hspot
    have hblk : b < w.heap.size := by
      have h1 : w.cell? ⟨b, off, none⟩ = some (.int .i64 (zs.getD 0 0)) := by simpa [Addr.add] using h0
      exact World.block_lt_of_cell? w _ h1
    refine ⟨b, off, rfl, hblk, fun j hj => ?_⟩
    have g := hcell j (by omega)
    rw [add_of] at g
    rw [g]
    congr 2
    simp only [List.getD, List.getElem?_take, if_pos (show j < len0 by omega)]

set_option maxRecDepth 100000 in
theorem open_intSS {fuel : Nat} {cs : List Value} {x : DataW H × List MemPlace} (h : DataW.trod enc Try.prog w base spare held fuel 26 cs = some x) :
    ∃ (A : Option Addr) (n c : Nat) (xss : List (List Int)), cs = [.slice A n c] ∧ n = xss.length ∧ n ≤ 9223372036854775807 ∧ (∀ j, (xss.getD j []).length ≤ 9223372036854775807) ∧ SS w w.heap.size A xss := by
  rcases open_slice Try.underlying26 h with ⟨rfl, _⟩ | ⟨a, len, cap, m, n, D, Pl, rfl, hb, hl, hm, hmm, _, hi⟩
  · exact ⟨none, 0, 0, [], rfl, rfl, by omega, fun j => by simp [List.getD]; try exact Nat.zero_le _, SS.nil _ _ _⟩
  · have hlm : len ≤ m := by rw [hmm]; split <;> omega
    have hp : ∀ i, i < len → ∃ xs : List Int, ∃ A n c, w.cell? (a.add i) = some (.slice A n c) ∧ n = xs.length ∧ n ≤ 9223372036854775807 ∧ IS w w.heap.size A xs := by
      intro i hlt
      obtain ⟨cs', hc, ht⟩ := hi i (by omega)
      obtain ⟨A, n, c, xs, rfl, h1, h2, h3⟩ := open_intS ht
      rw [cells_intS] at hc
      obtain ⟨_, _, hat⟩ := World.cells?_some hc
      have a0 := hat 0 (by simp)
      rw [add_add', Nat.mul_one, Nat.add_zero] at a0
      exact ⟨xs, A, n, c, a0, h1, h2, h3⟩
    obtain ⟨xss, hlen, hxs⟩ := choose_list _ len hp
    refine ⟨some a, len, cap, xss, rfl, hlen.symm, by unfold maxLen at hm; omega, fun j => ?_, fun hn => ?_⟩
    · by_cases hj : j < len
      · obtain ⟨A, n, c, _, h1, h2, _⟩ := hxs j hj
        have h1' : n = (xss.getD j []).length := h1
        omega
      · rw [show xss.getD j [] = [] by simp [List.getD, List.getElem?_eq_none (show xss.length ≤ j by omega)]]
        exact Nat.zero_le _
    · obtain ⟨A, n, c, h0, _⟩ := hxs 0 (by omega)
      obtain ⟨b, off, spot⟩ := a
      have h1 : w.cell? ⟨b, off, spot⟩ = some (.slice A n c) := by simpa [Addr.add] using h0
      have hspot : spot = none := World.cell?_spot h1
      subst hspot
      refine ⟨b, off, rfl, World.block_lt_of_cell? w _ h1, fun j hj => ?_⟩
      obtain ⟨A, n, c, g0, g1, _, g3⟩ := hxs j (by omega)
      rw [add_of] at g0
      exact ⟨A, n, c, g0, g1, g3⟩

end
end Go.Proofs.Ythnilpibpmlaeaa

/- How the laws' arguments open: a state of the lazy machine. -/
namespace Go.Proofs.Ythnilpibpmlaeaa
set_option linter.unusedSimpArgs false
set_option linter.unusedVariables false
open Go.ChangeShapes Go.WideShapes Go.ChangeAt Go.RowKit Go.Deep

theorem cells_lawLazy : Try.prog.cellsOf 28 = 3 := by kernel_rfl

section
variable {H : Type} {enc : TypeId × Value → H} {w : World} {base : Nat} {spare : Nat → Bool} {held : Bool}

set_option maxRecDepth 100000 in
theorem open_lazy {r : Reach} {b0 : Nat} {v : Value} {d : DataW H} {p : List MemPlace} (hsp : ∀ b, spare b = true) (hv : Value.okWide Try.prog w r b0 28 v) (h : DataW.Trod enc Try.prog w base spare held 28 v d p) :
    ∃ (A : Option Addr) (n c : Nat) (E : Option Addr) (en ec : Nat) (C : Option Addr) (kn kc : Nat) (st : Lz), v = .agg #[.slice A n c, .slice E en ec, .slice C kn kc] ∧ n = st.vs.length ∧ en = st.rs.length ∧ kn = st.cs.length ∧ n ≤ 9223372036854775807 ∧ en ≤ 9223372036854775807 ∧ kn ≤ 9223372036854775807 ∧ (∀ j, (st.rs.getD j []).length ≤ 9223372036854775807) ∧ LS3 w w.heap.size A E C st := by
  obtain ⟨cs, rfl, hsz⟩ := okWide_struct Try.underlying28 hv
  obtain ⟨fuel, hf⟩ := h
  obtain ⟨xs, n, _, _, hl, hxl, hg⟩ := DataW.trod_struct Try.underlying28 hf
  obtain ⟨l⟩ := cs
  have hll : l.length = 3 := by rw [cells_lawLazy] at hsz; simpa using hsz
  match l, hll with
  | [c0, c1, c2], _ =>
    have hxl' : xs.length = 3 := hxl
    have h0 : DataW.trod enc Try.prog w base spare held n 25 (List.take (Try.prog.cellsOf 25) [c0, c1, c2]) = xs[0]? := hg 0 _ rfl
    have h1 : DataW.trod enc Try.prog w base spare held n 26 (List.take (Try.prog.cellsOf 26) [c1, c2]) = xs[1]? := hg 1 _ rfl
    have h2 : DataW.trod enc Try.prog w base spare held n 25 (List.take (Try.prog.cellsOf 25) [c2]) = xs[2]? := hg 2 _ rfl
    rw [cells_intS, List.getElem?_eq_getElem (by omega)] at h0
    rw [cells_intSS, List.getElem?_eq_getElem (by omega)] at h1
    rw [cells_intS, List.getElem?_eq_getElem (by omega)] at h2
    obtain ⟨A, n1, k1, zs, e0, a1, a2, a3⟩ := open_intS h0
    obtain ⟨C, n3, k3, ys, e2, d1, d2, d3⟩ := open_intS h2
    obtain ⟨E, n2, k2, zss, e1, b1, b2, b3, b4⟩ := open_intSS h1
    have e0' : c0 = .slice A n1 k1 := by simpa using e0
    have e1' : c1 = .slice E n2 k2 := by simpa using e1
    have e2' : c2 = .slice C n3 k3 := by simpa using e2
    subst e0' e1' e2'
    exact ⟨A, n1, k1, E, n2, k2, C, n3, k3, ⟨zs, zss, ys⟩, rfl, a1, b1, d1, a2, b2, d2, b3, a3, b4, d3⟩
end
end Go.Proofs.Ythnilpibpmlaeaa
