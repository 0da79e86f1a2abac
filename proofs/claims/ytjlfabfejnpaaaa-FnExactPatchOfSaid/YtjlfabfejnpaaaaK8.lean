/- impl.longestRising, StaysOf, MovesOf: both sides. -/
import Derived.Test.YtjlfabfejnpaaaaK6
import Derived.Test.YtjlfabfejnpaaaaK7
import Derived.Test.YtjlfabfejnpaaaaS12
import Derived.ArgAppend
namespace Go.Proofs.Ytjlfabfejnpaaaa
set_option linter.unusedSimpArgs false
set_option linter.unusedVariables false
open Go.RowKit

/-- The greatest of the first k + 1 numbers. -/
def lmx (xs : List Int) : Nat → Int
  | 0 => xs.getD 0 0
  | k + 1 => max (lmx xs k) (xs.getD (k + 1) 0)

set_option maxHeartbeats 800000 in
theorem slices_Max (A : Option Addr) (n c : Nat) (xs : List Int) (w : World) (B : Nat) (hn : n + 1 = xs.length) (h : IS w B A xs) (hs : n ≤ 2000000) :
    Calls Try.prog 72 #[.slice A (n + 1) c] w fun e w' => e = .returned (.int .i64 (lmx xs n)) ∧ w' = w := by
  obtain ⟨b, off, rfl, hbB, hc⟩ := h (by omega)
  have c0 := hc 0 (by omega)
  rw [Nat.add_zero] at c0
  have HC := Lib.hid hc
  have HN := Lib.hid hn
  have HL0 : Hid (lmx xs 0 = xs.getD 0 0) := rfl
  generalize xs.getD 0 0 = x0 at *
  have hgt : ¬ ((n : Int) + 1 < 1) := by omega
  clear hc hn h
  go_enter Try.func72, Try.ntmps72
  go_wp2
  go_loopw [3, 4] (fun q i wr => ∃ k : Nat, k ≤ n ∧ i = .int .i64 ((k + 1 : Nat) : Int) ∧ q = .int .i64 (lmx xs k) ∧ w = wr) (fun _ i _ => n + 1 - (intOf i).toNat)
  case atStart => exact ⟨0, by omega, by simp, by rw [HL0.out], rfl⟩
  case round =>
    obtain ⟨k, hk, rfl, rfl, rfl⟩ := hrel
    by_cases hlt : k < n
    · have ck := HC.out (k + 1) (by have := HN.out; omega)
      have HS : Hid (lmx xs (k + 1) = max (lmx xs k) (xs.getD (k + 1) 0)) := rfl
      have hki : ((k + 1 : Nat) : Int) < (n : Int) + 1 := by omega
      obtain ⟨j, hj⟩ : ∃ j : Nat, j = k + 1 := ⟨_, rfl⟩
      rw [← hj] at ck HS hki ⊢
      have HJ := Lib.hid hj
      generalize xs.getD j 0 = y at *
      generalize lmx xs k = z at *
      have hjn : j < n + 1 := by omega
      clear hj
      go_wp2
      go_roundw
      case rel => exact ⟨k + 1, by omega, by have := HJ.out; go_num, by rw [show k + 1 = j from HJ.out.symm, HS.out]; first | rfl | (congr 1; split <;> omega), by first | rfl | trivial⟩
      case measure => have := HJ.out; simp [intOf]; omega
    · obtain rfl : k = n := by omega
      go_wp2
      go_ret
      exact ⟨rfl, by first | rfl | trivial⟩

theorem lmx_mst (L : Nat → Int) (n : Nat) (hL : ∀ j, 0 ≤ L j) : lmx (il n L ++ [0]) n = mst L n := by
  have hg : ∀ j, j < n → (il n L ++ [0]).getD j 0 = L j := by
    intro j hj
    have : (il n L ++ [0])[j]? = (il n L)[j]? := List.getElem?_append_left (by rw [il_len]; exact hj)
    simp only [List.getD, this]
    simpa [List.getD] using il_get n L j hj
  have hl : (il n L ++ [0]).getD n 0 = 0 := by
    have : (il n L ++ [0])[n]? = some 0 := by rw [List.getElem?_append_right (by rw [il_len]; exact Nat.le_refl _), il_len]; simp
    simp only [List.getD, this]; rfl
  have key : ∀ k, k < n → lmx (il n L ++ [0]) k = mst L (k + 1) := by
    intro k
    induction k with
    | zero => intro hk; show (il n L ++ [0]).getD 0 0 = max (mst L 0) (L 0); rw [hg 0 hk]; have := hL 0; show L 0 = max 0 (L 0); omega
    | succ k ih => intro hk; show max (lmx (il n L ++ [0]) k) ((il n L ++ [0]).getD (k + 1) 0) = max (mst L (k + 1)) (L (k + 1)); rw [ih (by omega), hg (k + 1) hk]
  cases n with
  | zero => exact hl
  | succ n =>
    show max (lmx (il (n + 1) L ++ [0]) n) ((il (n + 1) L ++ [0]).getD (n + 1) 0) = _
    rw [key n (by omega), hl]
    have := mst_nonneg L (n + 1)
    omega

theorem Rf.of_heap {g n : Nat} {f : Nat → Int} {w : World} (h : w.heap[g]? = some (.cells (vl n f).toArray 3 (0, 0))) (hn : n ≤ 2000000) : Rf g g n f w := by
  refine ⟨by rw [vl_len]; omega, .inr ⟨g, n, (vl n f).toArray, rfl, Nat.le_refl _, h, Nat.le_refl _, by unfold maxLen; omega, by simp [vl_len], ?_⟩⟩
  simp only [Nat.mul_one]
  exact List.take_of_length_le (by rw [vl_len]; exact Nat.le_refl _)
theorem map_vl (xs : List Int) (n : Nat) (hn : n = xs.length) : xs.map (Value.int .i64) = vl n (fun j => xs.getD j 0) := by
  apply List.ext_getElem?
  intro j
  rcases Nat.lt_or_ge j n with hj | hj
  · rw [vl_get _ _ _ hj]
    have hjx : j < xs.length := by omega
    simp [List.getD, hjx]
  · rw [List.getElem?_eq_none (by simp; omega), List.getElem?_eq_none (by rw [vl_len]; exact hj)]
theorem il_upd (f : Nat → Int) (k : Nat) (x : Int) : il (k + 1) (upd f k x) = il k f ++ [x] := by
  simp only [il, List.range_succ, List.map_append, List.map_cons, List.map_nil, upd_at]
  congr 1
  apply List.map_congr_left
  intro j hj
  have : j < k := by simpa using hj
  exact upd_ne _ _ _ _ (by omega)

set_option maxRecDepth 100000 in
set_option maxHeartbeats 3200000 in
theorem impl_longestRising (gb : Nat) (Pl : Int → Int) (A : Option Addr) (n c : Nat) (xs : List Int) (w : World) (hs : n ≤ 1048576) (hn : n = xs.length) (h : IS w w.heap.size A xs)
    (hP : ∀ (q : Int) (W : World), Below w.heap.size w W → Calls Try.prog 47 #[.int .i64 q, .pointer (some ⟨gb, 0, none⟩)] W fun e w' => e = .returned (.int .i64 (Pl q)) ∧ w' = W) :
    Calls Try.prog 45 #[.slice A n c, .func (.func 47) #[] #[.pointer (some ⟨gb, 0, none⟩)]] w fun e w' => RetK w (keep (fun j => xs.getD j 0) (lrA (fun j => Pl (xs.getD j 0)) n) (mst (lrA (fun j => Pl (xs.getD j 0)) n) n) n).1 e w' := by
  obtain ⟨i0, hi, hz0, hz1, hz2⟩ := info_parts info_int
  have HRL := Lib.hid (impl_risingLengths gb Pl A n c xs w (by omega) hn h hP)
  have hL0 : ∀ j, 0 ≤ lrA (fun j => Pl (xs.getD j 0)) n j := fun j => (lrT_bd _ n n j).1
  have hLn : ∀ j, lrA (fun j => Pl (xs.getD j 0)) n j ≤ n := fun j => lrA_le _ n j
  generalize hL : lrA (fun j => Pl (xs.getD j 0)) n = L at *
  have HLM := Lib.hid (lmx_mst L n hL0)
  have HL0 := Lib.hid hL0
  have HLn := Lib.hid hLn
  have hmn := mst_nonneg L n
  have hml := mst_le L n n (by omega) fun j _ => hLn j
  obtain ⟨M, hM⟩ : ∃ M : Int, M = mst L n := ⟨_, rfl⟩
  rw [← hM] at HLM hmn hml ⊢
  have HM := Lib.hid hM
  have H := Lib.hid h
  have HN := Lib.hid hn
  obtain ⟨cs, hcs⟩ : ∃ cs : List Value, cs = xs.map (Value.int .i64) := ⟨_, rfl⟩
  have hcl2 : cs.length = n := by rw [hcs, List.length_map]; exact hn.symm
  have h1 : ∀ v ∈ cs, v.oneCell' = true := by
    intro v hv
    rw [hcs] at hv
    obtain ⟨x, _, rfl⟩ := List.mem_map.1 hv
    rfl
  have hsz : (Try.prog.info? 3).map (·.size) = some 1 := by kernel_rfl
  have HSZ := Lib.hid hsz
  have HCL2 := Lib.hid hcl2
  have HCS := Lib.hid hcs
  have HONE := Lib.hid h1
  clear h hn hP hL0 hLn hM hcs hcl2 h1 hsz hL
  go_enter Try.func45, Try.ntmps45
  go_wp2_with fail
  refine HRL.out.mono ?_
  rintro e w1 ⟨g1, hg1, rfl, hR1, hb1⟩
  have HR1 := Lib.hid hR1
  have HB1 := Lib.hid hb1
  have hgl : g1 < w1.heap.size := hR1.lt.2
  clear HRL hR1 hb1
  go_wp2_with (at_builtin; refine wpList_append_grows _ rfl _ _ 22 rfl 3 i0 (.int .i64 0) 1 8 Try.underlying22 hi hz0 hz1 hz2 rfl (by decide) _ _ _ (vl n L) rfl (fun h => by cases h) ?c1 ?c6 ⟨w1.heap.size, 0, none⟩ 1 1 [.int .i64 0] rfl rfl (cell_one_new _ _ _) ?c2 ?c5 ?c3 ?c4 ?_)
  case c1 => rw [vl_len]; omega
  case c6 =>
    intro b hb j u hu
    cases hb
    have hj : j < n := by
      rcases Nat.lt_or_ge j n with h1 | h1
      · exact h1
      · rw [List.getElem?_eq_none (by rw [vl_len]; exact h1)] at hu; cases hu
    rw [vl_get _ _ _ hj] at hu
    cases hu
    have hadd : (⟨g1, 0, none⟩ : Addr).add j = ⟨g1, j, none⟩ := by unfold Addr.add; split <;> simp_all
    rw [hadd, World.cell?_alloc_lt _ _ ⟨g1, j, none⟩ hgl]
    exact HR1.out.cell j hj
  case c2 => first | rfl | (intro u hu; simp at hu; subst hu; rfl)
  case c5 => omega
  case c3 => unfold maxLen; omega
  case c4 => first | omega | (simp; omega)
  intro v2 w2 hown2 hgr2
  have hb2 : Below w1.heap.size w1 w2 := ((Below.refl _ _).alloc (Nat.le_refl _) _).grown hgr2 (by simp) (fun k hk => by cases hk)
  have hown2' : OwnI w2 w1.heap.size v2 (il n L ++ [0]) := by
    unfold OwnI
    rw [List.length_append, il_len, List.map_append, il_vl]
    exact own_mono hown2 (by simp)
  obtain ⟨A2, c2, rfl, hI2, _, _⟩ := hown2'.form' (n + 1) (by rw [List.length_append, il_len]; rfl)
  have HMX := Lib.hid (slices_Max A2 n c2 (il n L ++ [0]) w2 w2.heap.size (by rw [List.length_append, il_len]; rfl) hI2 (by omega))
  rw [HLM.out] at HMX
  have HR2 := Lib.hid (HR1.out.below hb2)
  have HB2 := Lib.hid (HB1.out.trans (hb2.mono HB1.out.size))
  have hgl2 : g1 < w2.heap.size := Nat.lt_of_lt_of_le hgl hb2.size
  clear hown2 hgr2 hb2 hown2' hI2 HR1 HB1
  go_wp2_with fail
  refine HMX.out.mono ?_
  rintro e w3 ⟨rfl, rfl⟩
  obtain ⟨w4, hmk, hown4, hgr4⟩ := run_make_full (P := Try.prog) w3 w3.heap.size 22 3 i0 _ 1 Try.underlying22 hi hz0 hz1 .i64 .i64 n (by rw [hz2]; omega) (by unfold maxLen; omega) (Nat.le_refl _)
  obtain ⟨cur, hcur, hcl, _⟩ := own_heap hown4
  have hb4 : Below w3.heap.size w3 w4 := ⟨hgr4.os, hgr4.tape, hgr4.output, hgr4.size, fun k hk => hgr4.block k hk (by simp)⟩
  have hsrc : 0 < cs.length → some (⟨w3.heap.size, 0, none⟩ : Addr) = some ⟨w3.heap.size, 0, none⟩ ∧ ∃ ad, A = some ad ∧ ∀ j v, cs[j]? = some v → w4.cell? (ad.add j) = some v := by
    intro hp
    obtain ⟨b, off, e, hb, hc⟩ := (H.out.below HB2.out (Nat.le_refl _)) (by have := HCL2.out; have := HN.out; omega)
    refine ⟨rfl, _, e, fun j v hv => ?_⟩
    have hj : j < xs.length := by
      have := HCL2.out; have := HN.out
      rcases Nat.lt_or_ge j cs.length with h1 | h1
      · omega
      · rw [List.getElem?_eq_none h1] at hv; cases hv
    have hadd : (⟨b, off, none⟩ : Addr).add j = ⟨b, off + j, none⟩ := by unfold Addr.add; split <;> simp_all
    rw [hadd, hb4.cell (p := ⟨b, off + j, none⟩) (by have := HB2.out.size; show b < w3.heap.size; omega), hc j hj, ← hv, HCS.out]
    simp [List.getD, hj]
  have HCUR := Lib.hid hcur
  have HCL := Lib.hid hcl
  have HSRC := Lib.hid hsrc
  have HB4 := Lib.hid hb4
  clear hcur hcl hsrc hb4 hown4 hgr4 HMX
  go_wp2_with (with_reducible refine wpList_copy_splice rfl (.tmp 21) (.tmp 22) 22 22 rfl 3 Try.underlying22 HSZ.out _ _ _ _ _ _ rfl rfl w3.heap.size 0 cur 3 HCUR.out cs ?d1 (fun h => ⟨rfl, (HSRC.out h).2⟩) ?d2 HONE.out w3.heap.size w3 HB4.out (Nat.le_refl _) ?_)
  case d1 => rw [HCL2.out]; exact (Nat.min_self n).symm
  case d2 => have := HCL2.out; have := HCL.out; omega
  intro w5 HG5 hB5
  have hsp : splice cur 0 cs = vl n (fun j => xs.getD j 0) := by
    unfold splice
    rw [List.take_zero, List.nil_append, List.drop_of_length_le (by have := HCL2.out; have := HCL.out; omega), List.append_nil, HCS.out, map_vl xs n HN.out]
  have hg5 := HG5.out
  rw [hsp] at hg5
  have HR5 := Lib.hid (Rf.of_heap hg5 (by omega))
  have HB5 := Lib.hid hB5
  have HK0 : Hid (keep (fun j => xs.getD j 0) L M 0 = ([], M)) := rfl
  clear HG5 hB5 hsp hg5 hmk HCUR HCL HSRC HB4
  go_wp2
  go_loopw [6, 8, 26] (fun q nn i wr => ∃ r : Nat, r ≤ n ∧ i = .int .i64 r ∧ q = .int .i64 (keep (fun j => xs.getD j 0) L M r).2 ∧ nn = .int .i64 (((keep (fun j => xs.getD j 0) L M r).1.length : Nat) : Int) ∧ Hid (∃ h, Rf w3.heap.size w3.heap.size n h wr ∧ il (keep (fun j => xs.getD j 0) L M r).1.length h = (keep (fun j => xs.getD j 0) L M r).1) ∧ Hid (Below w3.heap.size w3 wr)) (fun _ _ i _ => n - (intOf i).toNat)
  case atStart => exact ⟨0, Nat.zero_le _, rfl, by rw [HK0.out], by rw [HK0.out]; rfl, ⟨_, HR5.out, by rw [HK0.out]; rfl⟩, HB5.out⟩
  case round =>
    obtain ⟨r, hr, rfl, rfl, rfl, HH, HB⟩ := hrel
    obtain ⟨h, hh, hil⟩ := HH.out
    have hwr := HB.out.size
    have hkb := keep_bd (fun j => xs.getD j 0) L M r
    have HKY := Lib.hid (keep_yes (fun j => xs.getD j 0) L M r)
    have HKN := Lib.hid (keep_no (fun j => xs.getD j 0) L M r)
    generalize hS : keep (fun j => xs.getD j 0) L M r = S at *
    obtain ⟨F, mi⟩ := S
    have HS := Lib.hid hS
    clear hS
    simp only at hkb HKY HKN hil ⊢
    obtain ⟨hF1, hF2⟩ := hkb
    have HIL := Lib.hid hil
    have HHH := Lib.hid hh
    generalize hFl : F.length = fl at *
    have HFL := Lib.hid hFl
    have hmi : -1048576 ≤ mi ∧ mi ≤ 1048576 := by omega
    clear hFl hF2 hil hh HH
    by_cases hrn : r < n
    · have hrx : r < xs.length := by have := HN.out; omega
      obtain ⟨b, off, rfl, hbB, hc⟩ := (H.out.below HB2.out (Nat.le_refl _)) (by omega)
      have hsz3 := HB2.out.size
      have q1 := (HB.out.cell (p := ⟨b, off + r, none⟩) (by show b < w3.heap.size; omega)).trans (hc r hrx)
      have q2 := (HB.out.cell (p := ⟨g1, r, none⟩) hgl2).trans (HR2.out.cell r hrn)
      have hLr := HLn.out r
      clear hc
      by_cases he : L r = mi
      · have HKY2 := Lib.hid (HKY.out he)
        have heq : (L r == mi) = true := by simp [he]
        have hfn : fl < n := by omega
        have q3 := HHH.out.cell fl hfn
        have q4 := HHH.out.free fl
        generalize h fl = y at *
        clear HKY HKN he
        generalize L r = z at *
        generalize xs.getD r 0 = x at *
        go_wp2
        go_roundw
        case rel =>
          refine ⟨r + 1, by omega, by go_num, by rw [HKY2.out], by rw [HKY2.out]; have := HFL.out; simp; omega, ⟨_, HHH.out.set fl hfn x, ?_⟩, HB.out.setCell (p := ⟨w3.heap.size, fl, none⟩) (Nat.le_refl _) _⟩
          rw [HKY2.out]
          simp only [List.length_append, List.length_singleton, HFL.out]
          rw [il_upd, HIL.out]
        case measure => simp [intOf]; omega
      · have HKN2 := Lib.hid (HKN.out he)
        have heq : (L r == mi) = false := by simp [he]
        clear HKY HKN he
        generalize L r = z at *
        go_wp2
        go_roundw
        case rel => exact ⟨r + 1, by omega, by go_num, by rw [HKN2.out], by rw [HKN2.out]; have := HFL.out; simp; omega, ⟨h, HHH.out, by rw [HKN2.out]; simp only [HFL.out]; exact HIL.out⟩, HB.out⟩
        case measure => simp [intOf]; omega
    · obtain rfl : r = n := by omega
      go_wp2
      go_ret
      refine ⟨_, rfl, ?_, HB2.out.trans (HB.out.mono HB2.out.size)⟩
      rw [HS.out]
      show OwK w.heap.size wr.heap.size _ F.length (F.map (Value.int .i64)) wr
      rw [HFL.out]
      have hk := OwK.of_rf HHH.out hF1 fl (Nat.le_refl _)
      rw [HIL.out] at hk
      exact hk.mono HB2.out.size (Nat.le_refl _)
end Go.Proofs.Ytjlfabfejnpaaaa
