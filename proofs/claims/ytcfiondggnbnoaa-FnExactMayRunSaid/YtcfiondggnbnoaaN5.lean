/- nodesFrom. -/
import Derived.Test.YtcfiondggnbnoaaS5
import Derived.Test.YtcfiondggnbnoaaN4

namespace Go.Proofs.Ytcfiondggnbnoaa
set_option linter.unusedSimpArgs false
set_option linter.unusedVariables false
open Go.RowKit Go.Maps

theorem linkR_len (gs : List Nd) (n k : Nat) (hn : n ≤ 10) : (linkR gs n k).length ≤ 10 := by
  unfold linkR
  split
  · split
    · unfold rdsN
      rw [List.length_map]
      have hlm := mayR_len (gs.getD (k / 2) default).ps 10
      rw [mayR_below] at hlm
      exact hlm
    · simp
  · unfold usN
    have := List.length_filter_le (fun u => decide (((k / 2 : Nat) : Int) ∈ mayR (gs.getD u default).ps)) (List.range n)
    rw [List.length_range] at this
    omega

set_option maxHeartbeats 800000 in
theorem from1_at (g mb n1 : Nat) (lb : List Nat) (S : Nat → Bool) (q : Nat) (w : World) (hq : q < lb.length) (hq2 : q ≤ 1000) (h1 : w.cell? ⟨g, 0, none⟩ = some (.map (some mb))) (hg : g < w.heap.size) (h : MpI w mb n1 (inS lb S)) :
    Calls Try.prog 59 #[.int .i64 q, .pointer (some ⟨g, 0, none⟩)] w fun e w' => e = .returned (.bool (S q)) ∧ Below w.heap.size w w' := by
  have hlook := h.look q hq2
  cases hS : S q
  · have e : inS lb S q = none := by unfold inS; rw [hS]; rfl
    rw [e] at hlook
    replace hlook : (Instr.lookup 51 (.map (some mb)) (.int .i64 q) false).run Try.prog w = .ok (.pointer none) w := hlook
    clear e h hS
    go_enter Try.func59, Try.ntmps59
    go_wp2
    go_ret
    exact ⟨ret_b (by simp), Below.refl _ _⟩
  · have e : inS lb S q = some lb[q] := by unfold inS; rw [hS, if_pos rfl]; exact List.getElem?_eq_getElem hq
    rw [e] at hlook
    generalize lb[q] = g9 at hlook
    replace hlook : (Instr.lookup 51 (.map (some mb)) (.int .i64 q) false).run Try.prog w = .ok (.pointer (some ⟨g9, 0, none⟩)) w := hlook
    clear e h hS
    go_enter Try.func59, Try.ntmps59
    go_wp2
    go_ret
    exact ⟨ret_b (by simp), Below.refl _ _⟩

set_option maxRecDepth 100000 in
set_option maxHeartbeats 3200000 in
theorem impl_nodesFrom (K : FuncId) (fld : Nat) (rank : Nat → Nat) (T : Nat → Bool) (A A1 : Option Addr) (n c m c1 : Nat) (gs : List Nd) (xs : List Int) (w : World) (B : Nat) (hB : B ≤ w.heap.size) (hn : n = gs.length) (hm : m = xs.length) (h : GS w B A gs) (hx : IS w B A1 xs) (hv : validG gs = true) (hG : GB gs) (hm10 : m ≤ 10) (hxs : ∀ x ∈ xs, 0 ≤ x ∧ x < (n : Int)) (hfl : fld < 2)
    (hcf : ∀ (g : Nat) (w : World), (callFunc K #[.pointer (some ⟨g, 0, none⟩)]).run Try.prog w = .ok (.enter K #[.pointer (some ⟨g, 0, none⟩)]) w)
    (hK : ∀ (g : Nat) (v : Value) (w : World), g < w.heap.size → w.cell? ⟨g, 1 + fld, none⟩ = some v → Calls Try.prog K #[.pointer (some ⟨g, 0, none⟩)] w fun e w' => e = .returned v ∧ w' = w)
    (hrk : ∀ x, x < n → rank x < 11) (hst : ∀ x, x < n → ∀ y ∈ linkR gs n (2 * x + fld), rank y < rank x)
    (hT : ∀ i, i < n → ((xs.map Int.toNat).foldl (gth (fun x => linkR gs n (2 * x + fld)) 11) (fun _ => false)) i = T i) :
    Calls Try.prog 36 #[.agg #[.slice A n c], .slice A1 m c1, .func (.func K) #[] #[]] w fun e w' => RetI w (nwTo T n) e w' := by
  have hmm := @run_makeMap Try.prog
  have hn10 : n ≤ 10 := by have := (validG_parts gs hv).1; omega
  have HLK := Lib.hid fun (w' : World) (hB : B ≤ w'.heap.size) (h : GS w' B A gs) => impl_linksOf A n c gs w' B hB hn h hv hG
  have HGA := Lib.hid fun (B mb : Nat) (lb : List Nat) (hlb : lb.length = n) (hB : B ≤ mb) => gather_any K fld B mb lb (linkR gs n) rank hfl (by omega) hB hcf hK (fun k => linkR_len gs n k hn10) (fun x hx => hst x (by omega)) 11 (by omega)
  have H := Lib.hid h
  have HX := Lib.hid hx
  have HM := Lib.hid hm
  have HXS := Lib.hid hxs
  have HT := Lib.hid hT
  have HRK := Lib.hid hrk
  have HNT := Lib.hid (fun (P Q : Nat → Bool) (h : ∀ i, i < n → P i = Q i) => (show nwTo P n = nwTo Q n by
    unfold nwTo
    congr 1
    exact List.filter_congr fun i hi => h i (List.mem_range.1 hi)))
  generalize hsx : (fun x => linkR gs n (2 * x + fld)) = stp at *
  have hcg : CG 11 ≤ 11111111111 := CG_le 11 (by omega)
  clear h hx hn hm hv hG hxs hT hcf hK hst hsx hrk
  go_enter Try.func36, Try.ntmps36
  go_wp2_with fail
  refine (HLK.out _ (by simp; omega) (H.out.alloc hB _)).mono ?_
  rintro e w2 ⟨lb, rfl, hlb, hL2, hM2, hb2⟩
  have hz2 : w.heap.size + 1 ≤ w2.heap.size := by have := hb2.size; simpa using this
  have q2 : w2.cell? ⟨w.heap.size, 0, none⟩ = some (.slice A n c) := (hb2.cell (p := ⟨w.heap.size, 0, none⟩) (by simp)).trans (by go_simp)
  have hB2 : Below w.heap.size w w2 := ((Below.refl _ _).alloc (Nat.le_refl _) _).trans (hb2.mono (by simp))
  have hsz1 : (w.alloc (.cells #[.slice A n c] 30)).heap.size + 1 = w.heap.size + 2 := by simp
  rw [hsz1] at hM2
  have hmlt := hM2.lt
  have HL2 := Lib.hid hL2
  have HM2 := Lib.hid hM2
  have HLB := Lib.hid hlb
  clear hb2 hL2 hM2 hlb hsz1
  go_upto_region 3 with fail
  obtain ⟨w4, hw4⟩ : ∃ w4, w4 = (w2.alloc (.map #[] 0)).alloc (.cells #[.map (some w2.heap.size)] 51) := ⟨_, rfl⟩
  have hb4 : Below w2.heap.size w2 w4 := by rw [hw4]; exact ((Below.refl _ _).alloc (Nat.le_refl _) _).alloc (by simp) _
  have hz4 : w4.heap.size = w2.heap.size + 2 := by rw [hw4]; simp
  have hM4 : MpI w4 w2.heap.size 0 (inS lb fun _ => false) := by
    have h1 := (MpI.made w2).alloc (.cells #[.map (some w2.heap.size)] 51)
    have e : inS lb (fun _ => false) = fun _ => none := by funext j; rfl
    rw [hw4, e]; exact h1
  have c8 : w4.cell? ⟨w2.heap.size + 1, 0, none⟩ = some (.map (some w2.heap.size)) := by rw [hw4]; go_simp
  rw [← hw4]
  have q4 := (hb4.cell (p := ⟨w.heap.size, 0, none⟩) (by show w.heap.size < w2.heap.size; omega)).trans q2
  have HM4 := Lib.hid hM4
  have HML4 := Lib.hid (HM2.out.step hb4)
  have HL4 := Lib.hid (HL2.out.keep fun p hp => hb4.cell hp)
  have HB4 := Lib.hid (hB2.trans (hb4.mono (by omega)))
  have HX4 := Lib.hid (HX.out.below HB4.out hB)
  have HZ4 := Lib.hid hz4
  have hz4a : w2.heap.size + 2 ≤ w4.heap.size := by omega
  clear hw4 hb4 hM4 hB2 q2 HM2 HL2 hz4
  go_wp2
  go_loopw [16] (fun u wr => ∃ (k n1 : Nat), k ≤ m ∧ u = .int .i64 k ∧ n1 ≤ k * CG 11 ∧ Hid (MpI wr w2.heap.size n1 (inS lb (((xs.take k).map Int.toNat).foldl (gth stp 11) (fun _ => false)))) ∧ Hid (w4.grownBy wr (some w2.heap.size))) (fun u _ => m - (intOf u).toNat)
  case atStart => exact ⟨0, 0, Nat.zero_le _, rfl, by omega, HM4.out, ⟨rfl, rfl, rfl, Nat.le_refl _, fun _ _ _ => rfl⟩⟩
  case round =>
    obtain ⟨k, n1, hk, rfl, hn1, HMk, HGk⟩ := hrel
    have hzr := HGk.out.size
    have hkeep : ∀ p : Addr, p.block < w2.heap.size → wr.cell? p = w4.cell? p := fun p hp => World.cell?_of_block (w := w4) (HGk.out.block p.block (by omega) (by simp; omega))
    have c8r : wr.cell? ⟨w2.heap.size + 1, 0, none⟩ = some (.map (some w2.heap.size)) := (World.cell?_of_block (w := w4) (a := ⟨w2.heap.size + 1, 0, none⟩) (HGk.out.block (w2.heap.size + 1) (by omega) (by simp))).trans c8
    by_cases hlt : k < m
    · have hkx : k < xs.length := by have := HM.out; omega
      obtain ⟨b, off, rfl, hbB, hc⟩ := HX4.out (by omega)
      have d0 := (hkeep ⟨b, off + k, none⟩ (by show b < w2.heap.size; omega)).trans (hc k hkx)
      have hxk : xs.getD k 0 = xs[k] := by simp [List.getD, hkx]
      obtain ⟨hx0, hx1⟩ := HXS.out xs[k] (List.getElem_mem hkx)
      obtain ⟨y, hy⟩ : ∃ y : Nat, xs[k] = (y : Int) := ⟨xs[k].toNat, by omega⟩
      rw [hxk, hy] at d0
      have hyn : y < n := by omega
      have hyl : y < lb.length := by have := HLB.out; omega
      obtain ⟨g2, hg2⟩ : ∃ g2, lb[y]? = some g2 := ⟨_, List.getElem?_eq_getElem hyl⟩
      have hlook := (HML4.out.grown HGk.out (by simp; omega)).look y (by omega)
      rw [hg2] at hlook
      replace hlook : (Instr.lookup 51 (.map (some (w.heap.size + 2))) (.int .i64 y) false).run Try.prog wr = .ok (.pointer (some ⟨g2, 0, none⟩)) wr := hlook
      have htk : (xs.take (k + 1)).map Int.toNat = (xs.take k).map Int.toNat ++ [y] := by
        rw [List.take_succ_eq_append_getElem hkx, List.map_append, hy]; rfl
      have HST : Hid (((xs.take (k + 1)).map Int.toNat).foldl (gth stp 11) (fun _ => false) = gth stp 11 (((xs.take k).map Int.toNat).foldl (gth stp 11) (fun _ => false)) y) := by
        show _ = _
        rw [htk, List.foldl_append]; rfl
      have hmul : (k + 1) * CG 11 = k * CG 11 + CG 11 := Nat.succ_mul _ _
      have hmul2 : k * CG 11 ≤ 10 * CG 11 := Nat.mul_le_mul_right _ (by omega)
      have HC := Lib.hid (HGA.out w2.heap.size w2.heap.size lb HLB.out (Nat.le_refl _) y g2 n1 _ wr (HRK.out y hyn) hg2 (HL4.out.keep hkeep) (by omega) HMk.out (by omega))
      clear hc hxk hx0 hx1 hy htk hg2 hkeep
      generalize hcc : k * CG 11 = cc at *
      go_wp2_with fail
      refine HC.out.mono ?_
      rintro e w5 ⟨rfl, n2, hn2, hM5, hG5⟩
      have HM5 := Lib.hid hM5
      have HG5 := Lib.hid (HGk.out.trans hG5)
      clear hM5 hG5
      go_wp2
      go_roundw
      case rel => exact ⟨k + 1, n2, by omega, by go_num, by omega, by rw [HST.out]; exact HM5.out, HG5.out⟩
      case measure => simp [intOf]; omega
    · obtain rfl : k = m := by omega
      have q5 := (hkeep ⟨w.heap.size, 0, none⟩ (by show w.heap.size < w2.heap.size; omega)).trans q4
      have htk : xs.take k = xs := List.take_of_length_le (by have := HM.out; omega)
      have hMk := HMk.out
      rw [htk] at hMk
      have HNW := Lib.hid (impl_nodesWhere1 59 (.pointer (some ⟨w2.heap.size + 1, 0, none⟩)) ((xs.map Int.toNat).foldl (gth stp 11) (fun _ => false))
        (fun w' => w2.heap.size + 1 < w'.heap.size ∧ w'.cell? ⟨w2.heap.size + 1, 0, none⟩ = some (.map (some w2.heap.size)) ∧ MpI w' w2.heap.size n1 (inS lb ((xs.map Int.toNat).foldl (gth stp 11) (fun _ => false)))) A n c (by omega)
        (fun wa wb h hb => ⟨Nat.lt_of_lt_of_le h.1 hb.size, (hb.cell (p := ⟨w2.heap.size + 1, 0, none⟩) h.1).trans h.2.1, h.2.2.step hb⟩)
        (fun q w => by kernel_rfl)
        (fun q wa hq h => from1_at (w2.heap.size + 1) w2.heap.size n1 lb _ q wa (by have := HLB.out; omega) (by omega) h.2.1 h.1 h.2.2)
        wr ⟨by omega, c8r, hMk⟩)
      rw [HNT.out _ T HT.out] at HNW
      have HB5 : Hid (Below w.heap.size w wr) := HB4.out.grown HGk.out HB4.out.size (fun q hq => by simp at hq; omega)
      clear hMk htk hkeep c8r
      go_wp2_with fail
      refine HNW.out.mono ?_
      rintro e w6 ⟨v, rfl, ho, hb⟩
      go_wp2
      go_ret
      exact ⟨v, by simp, own_mono ho HB5.out.size, HB5.out.trans (hb.mono HB5.out.size)⟩
end Go.Proofs.Ytcfiondggnbnoaa
