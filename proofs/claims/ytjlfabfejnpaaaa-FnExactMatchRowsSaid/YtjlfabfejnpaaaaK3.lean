/- spec.longest. -/
import Derived.Test.YtjlfabfejnpaaaaS5
import Derived.Test.YtjlfabfejnpaaaaK2
import Derived.Test.YtjlfabfejnpaaaaM20
import Derived.Laws.MakeOwn

namespace Go.Proofs.Ytjlfabfejnpaaaa
set_option linter.unusedSimpArgs false
set_option linter.unusedVariables false
open Go.RowKit

theorem vl_zero (n : Nat) : (madeCells (Value.int .i64 0).cells (n * 1)).toList = vl n (fun _ => 0) := by
  simp [vl, Value.cells, toList_madeCells_one, List.map_const']

/-- The row at g holds the numbers of f. -/
def Rf (base g n : Nat) (f : Nat → Int) (w : World) : Prop := w.ownsRow base 3 1 (.slice (some ⟨g, 0, none⟩) n n) n (vl n f)

theorem Rf.cell {base g n : Nat} {f : Nat → Int} {w : World} (h : Rf base g n f w) (j : Nat) (hj : j < n) : w.cell? ⟨g, j, none⟩ = some (.int .i64 (f j)) := by
  have h' : w.ownsRow base 3 1 (.slice (some ⟨g, 0, none⟩) n n) n (vl n f) := h
  rw [h'.cellAt j (by omega), vl_get n f j hj]
theorem Rf.free {base g n : Nat} {f : Nat → Int} {w : World} (h : Rf base g n f w) (j : Nat) : w.frozen? ⟨g, j, none⟩ = false := World.ownsRow.frozenAt h j
theorem Rf.set {base g n : Nat} {f : Nat → Int} {w : World} (h : Rf base g n f w) (j : Nat) (hj : j < n) (x : Int) : Rf base g n (upd f j x) (w.setCell ⟨g, j, none⟩ (.int .i64 x)) := by
  have h' := (World.ownsRow.stored h j (.int .i64 x)).1
  rw [vl_set n f j x hj] at h'
  exact h'
theorem Rf.lt {base g n : Nat} {f : Nat → Int} {w : World} (h : Rf base g n f w) : base ≤ g ∧ g < w.heap.size := World.ownsRow.lt h g rfl
theorem Rf.drewN {base g n : Nat} {f : Nat → Int} {w : World} (h : Rf base g n f w) (k : Nat) : Rf base g n f (w.drewN k) := h
theorem Rf.drew {base g n : Nat} {f : Nat → Int} {w : World} (h : Rf base g n f w) : Rf base g n f w.drew := h
theorem Rf.below {base g n : Nat} {f : Nat → Int} {w w' : World} (h : Rf base g n f w) (hb : Below w.heap.size w w') : Rf base g n f w' := own_below h hb
theorem Rf.congr {base g n : Nat} {f f' : Nat → Int} {w : World} (h : Rf base g n f w) (e : ∀ j, j < n → f j = f' j) : Rf base g n f' w := by
  unfold Rf; rw [← vl_congr n f f' e]; exact h
theorem Rf.own {base g n : Nat} {f : Nat → Int} {w : World} (h : Rf base g n f w) : OwnI w base (.slice (some ⟨g, 0, none⟩) n n) (il n f) := by
  unfold OwnI
  rw [il_len, il_vl]
  exact h
theorem drewN_b {B n : Nat} {a w : World} (h : Below B a w) : Below B a (w.drewN n) := ⟨h.os, h.tape, h.output, h.size, h.block⟩

set_option maxRecDepth 100000 in
set_option maxHeartbeats 3200000 in
theorem spec_longest (A : Option Addr) (n c : Nat) (xs : List Int) (w : World) (B : Nat) (hB : B ≤ w.heap.size) (hn : n = xs.length) (h : IS w B A xs) (hs : n ≤ 2000000) :
    Calls Try.prog 70 #[.slice A n c] w fun e w' => RetI w (il n (lrA (fun j => xs.getD j 0) n)) e w' := by
  obtain ⟨i0, hi, hz0, hz1, hz2⟩ := info_parts info_int
  obtain ⟨w0, hmk, hown0, hgr0⟩ := run_make_full (P := Try.prog) w w.heap.size 22 3 i0 _ 1 Try.underlying22 hi hz0 hz1 .i64 .i64 n (by rw [hz2]; omega) (by unfold maxLen; omega) (Nat.le_refl _)
  rw [vl_zero] at hown0
  have HR0 : Hid (Rf w.heap.size w.heap.size n (fun _ => 0) w0) := hown0
  have hb0 : Below w.heap.size w w0 := ⟨hgr0.os, hgr0.tape, hgr0.output, hgr0.size, fun k hk => hgr0.block k hk (by simp)⟩
  clear hown0 hgr0
  have H := Lib.hid h
  have HN := Lib.hid hn
  clear hn h
  obtain ⟨P, hP⟩ : ∃ P : Nat → Int, P = fun j => xs.getD j 0 := ⟨_, rfl⟩
  have HPP : Hid (∀ j, P j = xs.getD j 0) := by rw [hP]; exact fun j => rfl
  rw [← hP]
  clear hP
  go_enter Try.func70, Try.ntmps70
  go_wp2
  go_loopw [4] (fun i wr => ∃ r : Nat, r ≤ n ∧ i = .int .i64 ((n : Int) - 1 - r) ∧ Hid (Rf w.heap.size w.heap.size n (lrT P n r) wr) ∧ Below w.heap.size w wr) (fun i _ => (intOf i + 1).toNat)
  case atStart => exact ⟨0, Nat.zero_le _, by simp, HR0.out, hb0⟩
  case round =>
    obtain ⟨r, hr, rfl, HO, hb⟩ := hrel
    have hwr : w.heap.size ≤ wr.heap.size := hb.size
    by_cases hlt : r < n
    · obtain ⟨i, hi⟩ : ∃ i : Nat, i = n - 1 - r := ⟨_, rfl⟩
      have hin : (n : Int) - 1 - r = (i : Int) := by omega
      have hi1 : i < n := by omega
      rw [hin]
      have c0 := HO.out.cell i hi1
      have f0 := HO.out.free i
      have hii : (i : Int) < (n : Int) := by omega
      obtain ⟨b, off, rfl, hbB, hc⟩ := H.out (by have := HN.out; omega)
      have HC := Lib.hid hc
      clear hc
      have HI := Lib.hid hi
      have HIN := Lib.hid hin
      have ci := (hb.cell (p := ⟨b, off + i, none⟩) (by simp; omega)).trans (HC.out i (by have := HN.out; omega))
      rw [← HPP.out] at ci
      generalize lrT P n r i = v0 at *
      clear hi hin
      go_wp2
      go_loopw [5] (fun q wx => ∃ d : Nat, i + 1 + d ≤ n ∧ q = .int .i64 ((i + 1 + d : Nat) : Int) ∧ Hid (Rf w.heap.size w.heap.size n (upd (lrT P n r) i (bst P (lrT P n r) i d + 1)) wx) ∧ Below w.heap.size w wx) (fun q _ => n - (intOf q).toNat)
      case atStart =>
        refine ⟨0, by omega, by simp, ?_, hb.setCell (p := ⟨w.heap.size, i, none⟩) (Nat.le_refl _) _⟩
        exact HO.out.set i hi1 1
      case round =>
        obtain ⟨d, hd, rfl, HX, hbx⟩ := hrel
        have hwx : w.heap.size ≤ wr.heap.size := hbx.size
        by_cases hdn : i + 1 + d < n
        · have hdi : ((i + 1 + d : Nat) : Int) < (n : Int) := by omega
          have xi := (hbx.cell (p := ⟨b, off + i, none⟩) (by simp; omega)).trans (HC.out i (by have := HN.out; omega))
          have xk := (hbx.cell (p := ⟨b, off + (i + 1 + d), none⟩) (by simp; omega)).trans (HC.out (i + 1 + d) (by have := HN.out; omega))
          rw [← HPP.out] at xi xk
          clear c0 f0 ci
          obtain ⟨k, hk⟩ : ∃ k : Nat, k = i + 1 + d := ⟨_, rfl⟩
          have hki : i < k := by omega
          have hkn : k < n := by omega
          have l1 := HX.out.cell i hi1
          have l2 := HX.out.cell k hkn
          have lf := HX.out.free i
          rw [upd_at] at l1
          rw [upd_ne _ _ _ _ (by omega)] at l2
          have hb1 := bst_nonneg P (lrT P n r) i d
          have hb2 := bst_le P (lrT P n r) i d r (by omega) fun j => (lrT_bd P n r j).2
          have hb3 := lrT_bd P n r k
          have HST : Hid (bst P (lrT P n r) i (d + 1) = if P i < P k then max (bst P (lrT P n r) i d) (lrT P n r k) else bst P (lrT P n r) i d) := by rw [hk]; rfl
          rw [← hk] at xk hdi ⊢
          have HK := Lib.hid hk
          clear hk hdn hd
          generalize bst P (lrT P n r) i d = y at *
          generalize lrT P n r k = z at *
          by_cases hp : P i < P k
          · have HS2 := Lib.hid (HST.out.trans (if_pos hp))
            generalize P i = p at *
            generalize P k = q at *
            go_wp2
            go_quiet (fail)
            go_wp2
            go_region
            go_wp2
            go_roundw
            case rel =>
              refine ⟨d + 1, by have := HK.out; omega, by have := HK.out; go_num, ?_, (drewN_b hbx).setCell (p := ⟨w.heap.size, i, none⟩) (Nat.le_refl _) _⟩
              have hmx : (if y < z then z + 1 else y + 1) = max y z + 1 := by split <;> omega
              have hs1 := (HX.out.drewN (nq + 1)).set i hi1 (if y < z then z + 1 else y + 1)
              rw [upd_upd, hmx] at hs1
              rw [hmx]
              exact hs1.congr fun j _ => by rw [HS2.out]
            case measure => simp [intOf]; omega
          · have HS2 := Lib.hid (HST.out.trans (if_neg hp))
            generalize P i = p at *
            generalize P k = q at *
            go_wp2
            go_quiet (fail)
            go_wp2
            go_roundw
            case rel => exact ⟨d + 1, by have := HK.out; omega, by have := HK.out; go_num, HX.out.congr fun j _ => by rw [HS2.out], drewN_b hbx⟩
            case measure => simp [intOf]; omega
        · have hdn2 : i + 1 + d = n := by omega
          rw [hdn2]
          have hdr : d = r := by have := HI.out; omega
          have HRR : Hid (Rf w.heap.size w.heap.size n (lrT P n (r + 1)) wr) := by
            have := HX.out
            rw [hdr] at this
            have e : lrT P n (r + 1) = upd (lrT P n r) i (bst P (lrT P n r) i r + 1) := by rw [HI.out]; rfl
            rw [e]; exact this
          clear hdn2 hdr
          go_wp2
          go_roundw
          case rel => exact ⟨r + 1, by omega, by have := HIN.out; go_num, HRR.out, hbx⟩
          case measure => have := HIN.out; simp [intOf]
    · obtain rfl : r = n := by omega
      have hneg : decide ((0 : Int) ≤ (r : Int) - 1 - r) = false := decide_eq_false (by omega)
      go_wp2
      go_ret
      refine ⟨_, rfl, ?_, hb⟩
      exact HO.out.own
end Go.Proofs.Ytjlfabfejnpaaaa
