/- Words and contracts for memory that the texts behind use. -/
import Derived.Test.YtlliomnfbgdpfaaS0
import Derived.Test.YtlliomnfbgdpfaaS1
import Derived.Test.YtlliomnfbgdpfaaS2
import Derived.Test.YtlliomnfbgdpfaaS3
import Derived.WalkKit
import Derived.Laws.OwnMore
import Derived.Deep.Draws
import Derived.Test.YtlliomnfbgdpfaaProg
import Derived.WalkSpells
import Derived.WalkLawsBesides
import Derived.Outline
import Derived.Lib.Hide
import Derived.BigQuiet
import Derived.Deep.QuietTactic
import Derived.StillTailTactics
import Derived.Deep.LoopGhost
import Derived.Laws.MakeOwn
import Derived.WalkSmall
import Derived.RegionTactic
import Derived.BigRegion
import Derived.Deep.RegionWith
import Derived.Deep.RegionHeld3
import Derived.Maps.AppendAt
import Derived.Laws.CopyOwn
import Derived.Test.YtlliomnfbgdpfaaRows
import Derived.ProofKit
import Derived.OpenShut
import Derived.ShutString
import Derived.ChangeOld
import Derived.Below
import Derived.Deep.Slices
import Derived.Deep.Fields

namespace Go.Proofs.Ytlliomnfbgdpfaa
set_option linter.unusedSimpArgs false
set_option linter.unusedVariables false
open Go.RowKit
theorem mks_five (k : Int) (m : Nat) : mks k (m + 5) = mks k m ++ (⟨k + m, k + m + 1, k + m + 2, k + m + 3, k + m + 4⟩ : Pt).cells := by
  rw [mks_succ k (m + 4), mks_succ k (m + 3), mks_succ k (m + 2), mks_succ k (m + 1), mks_succ k m]
  simp [Pt.cells]
  omega
theorem mks_five' (k k5 : Int) (m : Nat) (h : k5 = k + m) : mks k (m + 5) = mks k m ++ (⟨k5, k5 + 1, k5 + 1 + 1, k5 + 1 + 1 + 1, k5 + 1 + 1 + 1 + 1⟩ : Pt).cells := by
  have e : (⟨k5, k5 + 1, k5 + 1 + 1, k5 + 1 + 1 + 1, k5 + 1 + 1 + 1 + 1⟩ : Pt) = ⟨k + m, k + m + 1, k + m + 2, k + m + 3, k + m + 4⟩ := by subst h; congr 1; omega; omega; omega
  rw [mks_five, e]
set_option maxRecDepth 100000 in
set_option maxHeartbeats 1600000 in
theorem laws_markPartS (base n : Nat) (v : Value) (xs : List Value) (k : Int) (w : World) (h : w.ownsRow base 103 5 v n xs) (hk : 0 ≤ k) (hk' : k ≤ 1125899906842624) (hs : n ≤ 2000000) :
    Calls Try.prog 70 #[v, .int .i64 k] w fun e w' => Marked w base 103 5 v n k e w' := by
  rcases h.2 with ⟨rfl, rfl⟩ | ⟨g, cap, _, rfl, hbg, hgh, _⟩
  · clear h
    go_enter Try.func70, Try.ntmps70
    go_wp2
    go_loopw [5, 1] (fun i u wr => i = .int .i64 0 ∧ u = .int .i64 k ∧ wr = w) (fun i _ _ => 0)
    case atStart => exact ⟨rfl, rfl, rfl⟩
    case round =>
      obtain ⟨rfl, rfl, rfl⟩ := hrel
      go_wp2
      go_ret
      exact ⟨by simp, World.ownsRow_nil _ _ _ _, grown_refl _ _⟩
  · have HO := Lib.hid h
    have hgl : g < w.heap.size := (h.lt g rfl).2
    clear h hgh
    go_enter Try.func70, Try.ntmps70
    go_wp2
    go_loopw [5, 1] (fun i u wr => ∃ (j : Nat) (ys : List Value), j ≤ n ∧ i = .int .i64 j ∧ u = .int .i64 (k + ((j * 5 : Nat) : Int)) ∧ Hid (wr.ownsRow base 103 5 (.slice (some ⟨g, 0, none⟩) n cap) n ys) ∧ Hid (ys.take (j * 5) = mks k (j * 5)) ∧ Hid (w.grownBy wr (some g))) (fun i _ _ => n - (intOf i).toNat)
    case atStart => exact ⟨0, xs, by omega, rfl, by simp, HO.out, by simp [Hid, mks], grown_refl _ _⟩
    case round =>
      obtain ⟨j, ys, hj, rfl, rfl, HY, HT, HGR⟩ := hrel
      by_cases hlt : j < n
      · have hl : ys.length = n * 5 := HY.out.1
        have u0 := HY.out.cellAt (j * 5) (by omega)
        have u1 := HY.out.cellAt (j * 5 + 1) (by omega)
        have u2 := HY.out.cellAt (j * 5 + 2) (by omega)
        have u3 := HY.out.cellAt (j * 5 + 3) (by omega)
        have u4 := HY.out.cellAt (j * 5 + 4) (by omega)
        rw [List.getElem?_eq_getElem (by omega)] at u0 u1 u2 u3 u4
        have f0 := HY.out.frozenAt (j * 5)
        have f1 := HY.out.frozenAt (j * 5 + 1)
        have f2 := HY.out.frozenAt (j * 5 + 2)
        have f3 := HY.out.frozenAt (j * 5 + 3)
        have f4 := HY.out.frozenAt (j * 5 + 4)
        generalize ys[j * 5]'(by omega) = v0 at u0
        generalize ys[j * 5 + 1]'(by omega) = v1 at u1
        generalize ys[j * 5 + 2]'(by omega) = v2 at u2
        generalize ys[j * 5 + 3]'(by omega) = v3 at u3
        generalize ys[j * 5 + 4]'(by omega) = v4 at u4
        have HL := Lib.hid hl
        clear hl
        obtain ⟨k5, hk5⟩ : ∃ k5 : Int, k5 = k + ((j * 5 : Nat) : Int) := ⟨_, rfl⟩
        have hk0 : 0 ≤ k5 := by omega
        have hk1 : k5 ≤ 1125899916842624 := by omega
        rw [← hk5]
        have HK := Lib.hid hk5
        clear hk5
        go_wp2
        go_roundw
        case rel =>
          refine ⟨j + 1, _, by omega, by go_num, by have := HK.out; go_num, own_set5 HY.out (j * 5) ⟨k5, k5 + 1, k5 + 1 + 1, k5 + 1 + 1 + 1, k5 + 1 + 1 + 1 + 1⟩, ?_, ?_⟩
          · rw [show (j + 1) * 5 = j * 5 + 5 by omega, take_set5 ys (j * 5) _ (by have := HL.out; omega), HT.out, mks_five' k k5 _ HK.out]
            exact Lib.hid rfl
          · have a0 := HY.out.stored (j * 5) (.int .i64 k5)
            have a1 := a0.1.stored (j * 5 + 1) (.int .i64 (k5 + 1))
            have a2 := a1.1.stored (j * 5 + 2) (.int .i64 (k5 + 1 + 1))
            have a3 := a2.1.stored (j * 5 + 3) (.int .i64 (k5 + 1 + 1 + 1))
            have a4 := a3.1.stored (j * 5 + 4) (.int .i64 (k5 + 1 + 1 + 1 + 1))
            exact grown_tr HGR.out (grown_tr a0.2 (grown_tr a1.2 (grown_tr a2.2 (grown_tr a3.2 a4.2))))
        case measure => simp [intOf]; omega
      · obtain rfl : j = n := by omega
        go_wp2
        go_ret
        refine ⟨by simp, ?_, HGR.out⟩
        have h1 := HT.out
        have h2 : ys.length = j * 5 := HY.out.1
        rw [List.take_of_length_le (by omega)] at h1
        rw [← h1]
        exact HY.out
end Go.Proofs.Ytlliomnfbgdpfaa

namespace Go.Proofs.Ytlliomnfbgdpfaa
set_option linter.unusedSimpArgs false
set_option linter.unusedVariables false
open Go.RowKit
section
variable {lo hi a b : Nat} {P : World → Prop} {w w' : World}
theorem As.turn (h : As lo hi P w) (ht : Tch a b w w') (hd : b ≤ lo ∨ hi ≤ a) : As lo hi P w' :=
  ⟨h.loc _ _ h.it fun k hl hk => ht.block k (Nat.lt_of_lt_of_le hk h.le) (by omega), Nat.le_trans h.le ht.size, h.loc⟩
end
/-- A row whose content does not matter. -/
def Rw (lo hi : Nat) (e : TypeId) (size : Nat) (v : Value) (n : Nat) (w : World) : Prop := ∃ xs, OwR lo hi e size v n xs w
theorem Rw.of {lo hi : Nat} {e : TypeId} {size : Nat} {v : Value} {n : Nat} {xs : List Value} {w : World} (h : OwR lo hi e size v n xs w) : Rw lo hi e size v n w := ⟨xs, h⟩
theorem Rw.keep {lo hi : Nat} {e : TypeId} {size : Nat} {v : Value} {n : Nat} {w w' : World} (h : Rw lo hi e size v n w) (hk : ∀ k, lo ≤ k → k < hi → w'.heap[k]? = w.heap[k]?) : Rw lo hi e size v n w' := h.imp fun _ h => h.keep hk
/-- A row of the same kind was written to: whether it is this one or another one, this is still a row. -/
theorem Rw.after {lo hi lo' : Nat} {e e' : TypeId} {size size' n n' : Nat} {v u : Value} {w w' : World} {ys ys' : List Value} (h : Rw lo hi e size v n w) (hu : w.ownsRow lo' e' size' u n' ys) (hu' : w'.ownsRow lo' e' size' u n' ys') (hg : w.grownBy w' u.ownBlock) (hs : 0 < size) : Rw lo hi e size v n w' := by
  obtain ⟨xs, h⟩ := h
  by_cases hb : v.ownBlock = none ∨ v.ownBlock ≠ u.ownBlock
  · exact ⟨xs, h.1.kept hg hb, h.2⟩
  · have hv : v.ownBlock ≠ none := fun e => hb (.inl e)
    have hvu : v.ownBlock = u.ownBlock := Classical.byContradiction fun e => hb (.inr e)
    rcases h.1.2 with ⟨rfl, _⟩ | ⟨g, cap, cur, rfl, hlo, hh, h1, h2, h3, h4⟩
    · exact absurd rfl hv
    · rcases hu.2 with ⟨rfl, _⟩ | ⟨g', cap', cur', rfl, hlo', hh', k1, k2, k3, k4⟩
      · simp [Value.ownBlock] at hvu
      · simp [Value.ownBlock] at hvu
        subst hvu
        rw [hh] at hh'
        simp only [Option.some.injEq, Obj.cells.injEq] at hh'
        obtain ⟨rfl, rfl, _⟩ := hh'
        rcases hu'.2 with ⟨hx, _⟩ | ⟨g2, cap2, cur2, hx, _, hh2, m1, m2, m3, m4⟩
        · simp at hx
        · simp only [Value.slice.injEq, Option.some.injEq, Addr.mk.injEq, and_true, true_and] at hx
          obtain ⟨rfl, rfl⟩ := hx
          refine ⟨cur2.toList.take (n * size), ⟨?_, .inr ⟨g, cap, cur2, rfl, hlo, hh2, h1, h2, ?_, rfl⟩⟩, h.2⟩
          · rw [List.length_take, Array.length_toList, m3, ← k3, h3]
            have := Nat.mul_le_mul_right size h1
            omega
          · rw [m3, ← k3, h3]
end Go.Proofs.Ytlliomnfbgdpfaa

namespace Go.Proofs.Ytlliomnfbgdpfaa
set_option linter.unusedSimpArgs false
set_option linter.unusedVariables false
open Go.RowKit
/-- A row of nodes whose content does not matter. -/
def WkG (lo hi : Nat) (v : Value) (n : Nat) (w : World) : Prop :=
  ∃ xs, OwR lo hi 75 2 v n xs w ∧ ∀ j, j < n → ∃ q A m c, xs[j * 2]? = some (.int .i64 q) ∧ xs[j * 2 + 1]? = some (.slice A m c) ∧ m ≤ 1048576 ∧ Rw lo hi 103 5 (.slice A m c) m w
theorem OwG.weak {lo hi n : Nat} {v : Value} {gs : List Nd} {w : World} (h : OwG lo hi v n gs w) (hb : GB gs) : WkG lo hi v n w := by
  obtain ⟨h0, xs, h1, h2⟩ := h
  refine ⟨xs, h1, fun j hj => ?_⟩
  obtain ⟨x, y, hx, hy, e1, A, m, c, e2, e3, e4⟩ := h2 j hj
  refine ⟨_, A, m, c, by rw [hx, e1], by rw [hy, e2], by rw [e3]; exact hb.2 j, _, by rw [← e2]; exact e4⟩
theorem WkG.keep {lo hi n : Nat} {v : Value} {w w' : World} (h : WkG lo hi v n w) (hk : ∀ k, lo ≤ k → k < hi → w'.heap[k]? = w.heap[k]?) : WkG lo hi v n w' := by
  obtain ⟨xs, h1, h2⟩ := h
  refine ⟨xs, h1.keep hk, fun j hj => ?_⟩
  obtain ⟨q, A, m, c, hx, hy, hm, hr⟩ := h2 j hj
  exact ⟨q, A, m, c, hx, hy, hm, hr.keep hk⟩
theorem WkG.step {lo hi n : Nat} {v : Value} {w w' : World} (h : WkG lo hi v n w) (hb : Below w.heap.size w w') (hs : hi ≤ w.heap.size) : WkG lo hi v n w' :=
  h.keep fun k _ hk => hb.block k (by omega)
theorem node_ne_part : (75 : TypeId) ≠ 103 := by decide
/-- The parts of one node were marked: still a row of nodes. -/
theorem WkG.marked {lo hi n m : Nat} {v u : Value} {w w' : World} {k : Int} {e : Ending} (h : WkG lo hi v n w) (hu : ∃ ys, w.ownsRow lo 103 5 u m ys) (hm : Marked w lo 103 5 u m k e w') : WkG lo hi v n w' := by
  obtain ⟨xs, h1, h2⟩ := h
  obtain ⟨ys, hu⟩ := hu
  refine ⟨xs, ⟨h1.1.kept hm.2.2 (blocks_ne h1.1 hu node_ne_part), h1.2⟩, fun j hj => ?_⟩
  obtain ⟨q, A, m', c, hx, hy, hm', hr⟩ := h2 j hj
  exact ⟨q, A, m', c, hx, hy, hm', hr.after hu hm.2.1 hm.2.2 (by decide)⟩
/-- The kind of one node was written. -/
theorem WkG.kind {lo hi n g cap : Nat} {w : World} (h : WkG lo hi (.slice (some ⟨g, 0, none⟩) n cap) n w) (j : Nat) (hj : j < n) (q : Int) : WkG lo hi (.slice (some ⟨g, 0, none⟩) n cap) n (w.setCell ⟨g, j * 2, none⟩ (.int .i64 q)) := by
  obtain ⟨xs, h1, h2⟩ := h
  have hl : xs.length = n * 2 := h1.1.1
  have hst := h1.1.stored (j * 2) (.int .i64 q)
  refine ⟨_, ⟨hst.1, h1.2⟩, fun i hlt => ?_⟩
  obtain ⟨q', A, m, c, hx, hy, hm, ys, hr⟩ := h2 i hlt
  have e : ∃ ys, OwR lo hi 103 5 (.slice A m c) m ys (w.setCell ⟨g, j * 2, none⟩ (.int .i64 q)) := ⟨ys, hr.1.kept hst.2 (blocks_ne hr.1 h1.1 node_ne_part.symm), hr.2⟩
  by_cases e' : i = j
  · subst e'
    refine ⟨q, A, m, c, ?_, ?_, hm, e⟩
    · rw [List.getElem?_set]; simp; omega
    · rw [List.getElem?_set]; simpa using hy
  · refine ⟨q', A, m, c, ?_, ?_, hm, e⟩
    · rw [List.getElem?_set, if_neg (by omega)]; exact hx
    · rw [List.getElem?_set, if_neg (by omega)]; exact hy
end Go.Proofs.Ytlliomnfbgdpfaa

namespace Go.Proofs.Ytlliomnfbgdpfaa
set_option linter.unusedSimpArgs false
set_option linter.unusedVariables false
open Go.RowKit
set_option maxRecDepth 100000 in
set_option maxHeartbeats 1600000 in
theorem laws_markNodeS (lo hi n : Nat) (v : Value) (k : Int) (w : World) (h : WkG lo hi v n w) (hs : n ≤ 1048576) (hk : 0 ≤ k) (hk' : k ≤ 562949953421312) (hhi : hi ≤ w.heap.size) :
    Calls Try.prog 44 #[v, .int .i64 k] w fun e w' => MkW lo hi w k (k + n * 5242881) e w' := by
  obtain ⟨A, c, rfl⟩ := own_form h.choose_spec.1.1
  have hch := h.choose_spec.1
  generalize h.choose = xs0 at hch
  rcases hch.1.2 with ⟨hv, rfl⟩ | ⟨g, cap, _, hv, hbg, hgh, hrest⟩
  · clear h hv hch
    go_enter Try.func44, Try.ntmps44
    go_wp2
    go_loopw [5, 1] (fun i u wr => i = .int .i64 0 ∧ u = .int .i64 k ∧ wr = w) (fun i _ _ => 0)
    case atStart => exact ⟨rfl, rfl, rfl⟩
    case round =>
      obtain ⟨rfl, rfl, rfl⟩ := hrel
      go_wp2
      go_ret
      exact ⟨k, rfl, Int.le_refl _, by simp, Tch.refl _ _ _⟩
  · cases hv
    have hgi : lo ≤ g ∧ g < hi := ⟨hbg, hch.2 g rfl⟩
    have HW := Lib.hid h
    clear h hgh hch hrest
    go_enter Try.func44, Try.ntmps44
    go_wp2
    go_loopw [5, 1] (fun i u wr => ∃ (j : Nat) (q : Int), j ≤ n ∧ i = .int .i64 j ∧ u = .int .i64 q ∧ k ≤ q ∧ q ≤ k + j * 5242881 ∧ Hid (WkG lo hi (.slice (some ⟨g, 0, none⟩) n c) n wr) ∧ Hid (Tch lo hi w wr)) (fun i _ _ => n - (intOf i).toNat)
    case atStart => exact ⟨0, k, by omega, rfl, rfl, by omega, by simp, HW.out, Tch.refl _ _ _⟩
    case round =>
      obtain ⟨j, q, hj, rfl, rfl, hq0, hq1, HY, HT⟩ := hrel
      by_cases hlt : j < n
      · have hq2 : q ≤ 568447512150016 := by omega
        have hq00 : 0 ≤ q := by omega
        have HY2 := Lib.hid (HY.out.kind j hlt q)
        obtain ⟨xs, ho, hx⟩ := HY.out
        obtain ⟨q', A1, m1, c1, hx0, hx1, hm1, ys, hr⟩ := hx j hlt
        have u0 := (ho.1.cellAt (j * 2) (by omega)).trans hx0
        have u1 := (ho.1.cellAt (j * 2 + 1) (by omega)).trans hx1
        have f0 := ho.1.frozenAt (j * 2)
        have hb : Tch lo hi wr (wr.setCell ⟨g, j * 2, none⟩ (.int .i64 q)) := Tch.of_grown (ho.1.stored (j * 2) (.int .i64 q)).2 fun k hk => by simp at hk; omega
        have HR : Hid (OwR lo hi 103 5 (.slice A1 m1 c1) m1 ys (wr.setCell ⟨g, j * 2, none⟩ (.int .i64 q))) := ⟨hr.1.kept (ho.1.stored (j * 2) (.int .i64 q)).2 (blocks_ne hr.1 ho.1 node_ne_part.symm), hr.2⟩
        have HB := Lib.hid hb
        clear hx ho hr hb hx0 hx1 HY
        go_wp2_with fail
        refine (laws_markPartS lo m1 _ ys (q + 1) _ HR.out.1 (by omega) (by omega) (by omega)).mono ?_
        rintro e w1 hm
        have he := hm.1
        have HY3 := Lib.hid (HY2.out.marked ⟨ys, HR.out.1⟩ hm)
        have HT3 : Hid (Tch lo hi w w1) := (HT.out.trans HB.out).trans (Tch.of_grown hm.2.2 fun k hk => ⟨(HR.out.1.lt k hk).1, HR.out.2 k hk⟩)
        obtain ⟨q3, hq3⟩ : ∃ q3 : Int, q3 = q + 1 + ((m1 * 5 : Nat) : Int) := ⟨_, rfl⟩
        rw [← hq3] at he
        have hq4 : k ≤ q3 := by omega
        have hq5 : q3 ≤ k + (j + 1) * 5242881 := by omega
        subst he
        clear hm hq3 HY2 HR HB HT
        go_wp2
        go_roundw
        case rel => exact ⟨j + 1, q3, by omega, by go_num, rfl, hq4, by simpa using hq5, HY3.out, HT3.out⟩
        case measure => simp [intOf]; omega
      · obtain rfl : j = n := by omega
        go_wp2
        go_ret
        exact ⟨q, rfl, hq0, by simpa using hq1, HT.out⟩
set_option maxHeartbeats 800000 in
theorem laws_markGraph (lo hi n c : Nat) (A : Option Addr) (k : Int) (w : World) (h : WkG lo hi (.slice A n c) n w) (hs : n ≤ 1048576) (hk : 0 ≤ k) (hk' : k ≤ 562949953421312) (hhi : hi ≤ w.heap.size) :
    Calls Try.prog 20 #[.agg #[.slice A n c], .int .i64 k] w fun e w' => MkW lo hi w k (k + n * 5242881) e w' := by
  have H := Lib.hid h
  clear h
  go_enter Try.func20, Try.ntmps20
  go_wp2_with fail
  refine (laws_markNodeS lo hi n _ k _ (H.out.step ((Below.refl _ _).alloc (Nat.le_refl _) _) hhi) hs hk hk' (by simp; omega)).mono ?_
  rintro e w1 ⟨k1, rfl, hk1, hk2, ht⟩
  go_wp2
  go_ret
  exact ⟨k1, rfl, hk1, hk2, (Tch.of_below ((Below.refl _ _).alloc (Nat.le_refl _) _)).trans ht⟩
end Go.Proofs.Ytlliomnfbgdpfaa

namespace Go.Proofs.Ytlliomnfbgdpfaa
set_option linter.unusedSimpArgs false
set_option linter.unusedVariables false
open Go.RowKit
theorem Bl.turn {a b : Nat} {W wk wl : World} (h : Bl W wk) (ht : Tch a b wk wl) (ha : W.heap.size ≤ a) : Bl W wl := Below.trans h (ht.below ha (Below.size h))
/-- A row of numbers of the call's own, in blocks lo to hi - 1. -/
theorem row_start {lo size n : Nat} {e : TypeId} {v : Value} {xs : List Value} {w : World} (h : w.ownsRow lo e size v n xs) : As lo w.heap.size (OwR lo w.heap.size e size v n xs) w := ⟨OwR.start h, Nat.le_refl _, OwR.loc _ _ _ _ _ _ _⟩
theorem mark_ints (lo hi n : Nat) (v : Value) (xs : List Value) (k : Int) (w : World) (h : As lo hi (OwR lo hi 3 1 v n xs) w) (hk : 0 ≤ k) (hk' : k ≤ 562949953421312) (hs : n ≤ 2000000) :
    Calls Try.prog 21 #[v, .int .i64 k] w fun e w' => MkS lo hi (OwR lo hi 3 1 v n (mks k n)) w (k + n) e w' := by
  refine (laws_markIntS lo n v xs k w h.it.1 hk (by omega) hs).mono ?_
  rintro e w' ⟨he, ho, hg⟩
  have hl := h.it.1.lt
  rw [Nat.mul_one] at he ho
  exact ⟨he, ⟨⟨ho, h.it.2⟩, Nat.le_trans h.le hg.size, OwR.loc _ _ _ _ _ _ _⟩, Tch.of_grown hg fun k hk => ⟨(hl k hk).1, h.it.2 k hk⟩⟩
/-- The mark of an argument's copy. -/
theorem markw_ints (lo hi n : Nat) (v : Value) (xs : List Value) (k : Int) (w : World) (h : As lo hi (OwR lo hi 3 1 v n xs) w) (hk : 0 ≤ k) (hk' : k ≤ 562949953421312) (hs : n ≤ 2000000) :
    Calls Try.prog 21 #[v, .int .i64 k] w fun e w' => MkW lo hi w k (k + 6000000000000) e w' := by
  refine (mark_ints lo hi n v xs k w h hk hk' hs).mono ?_
  rintro e w' ⟨he, _, ht⟩
  exact ⟨_, he, by omega, by omega, ht⟩
theorem markw_graph (lo hi n c : Nat) (A : Option Addr) (gs : List Nd) (k : Int) (w : World) (h : As lo hi (OwG lo hi (.slice A n c) n gs) w) (hb : GB gs) (hk : 0 ≤ k) (hk' : k ≤ 562949953421312) :
    Calls Try.prog 20 #[.agg #[.slice A n c], .int .i64 k] w fun e w' => MkW lo hi w k (k + 6000000000000) e w' := by
  have hn : n ≤ 1048576 := by rw [h.it.1]; exact hb.1
  refine (laws_markGraph lo hi n c A k w (h.it.weak hb) hn hk hk' h.le).mono ?_
  rintro e w' ⟨k', he, h1, h2, ht⟩
  exact ⟨k', he, h1, by omega, ht⟩
end Go.Proofs.Ytlliomnfbgdpfaa

namespace Go.Proofs.Ytlliomnfbgdpfaa
set_option linter.unusedSimpArgs false
set_option linter.unusedVariables false
open Go.RowKit
theorem SSk.congr {lo hi : Nat} {vs : List Value} {lens : Nat → Nat} {cont cont' : Nat → List Value} {w : World} (h : SSk lo hi vs lens cont w) (hc : ∀ j, j < vs.length → cont j = cont' j) : SSk lo hi vs lens cont' w :=
  ⟨fun j hj => by obtain ⟨A, m, c, e1, e2, e3⟩ := h.row j hj; exact ⟨A, m, c, e1, e2, by rw [← hc j hj]; exact e3⟩, h.apart⟩
end Go.Proofs.Ytlliomnfbgdpfaa

namespace Go.Proofs.Ytlliomnfbgdpfaa
set_option linter.unusedSimpArgs false
set_option linter.unusedVariables false
open Go.ChangeShapes Go.WideShapes Go.ChangeAt Go.RowKit Go.Deep
section
variable {H : Type} {enc : TypeId × Value → H} {w : World} {base : Nat} {spare : Nat → Bool} {held : Bool}
set_option maxRecDepth 100000 in
theorem open_list {r : Reach} {b0 : Nat} {v : Value} {d : DataW H} {p : List MemPlace} (hsp : ∀ b, spare b = true) (hv : Value.okWide Try.prog w r b0 40 v) (h : DataW.Trod enc Try.prog w base spare held 40 v d p) :
    ∃ (A : Option Addr) (n c : Nat) (xs : List Int), v = .slice A n c ∧ n = xs.length ∧ n ≤ 9223372036854775807 ∧ IS w w.heap.size A xs := by
  obtain ⟨a0, len0, cap0, rfl⟩ := okWide_slice Try.underlying40 hv
  obtain ⟨fuel, hf⟩ := h
  rcases open_ints Try.underlying40 Try.underlying3 cells_int hf with ⟨hcs, _⟩ | ⟨x, l, c, zs, hcs, _, hl, hm, hz, _, hcell, _⟩
  · simp [Value.cells] at hcs
    obtain ⟨rfl, rfl, rfl⟩ := hcs
    exact ⟨none, 0, 0, [], rfl, rfl, by omega, IS.nil _ _ _⟩
  · simp [Value.cells] at hcs
    obtain ⟨rfl, rfl, rfl⟩ := hcs
    have hzl : len0 ≤ zs.length := by rw [hz]; split <;> omega
    refine ⟨some x, len0, cap0, zs.take len0, rfl, by simp; omega, by unfold maxLen at hm; omega, fun hn => ?_⟩
    have hlen : (zs.take len0).length = len0 := by simp; omega
    have h0 := hcell 0 (by omega)
    obtain ⟨b, off, spot⟩ := x
    have hspot : spot = none := by
      have h1 : w.cell? ⟨b, off, spot⟩ = some (.int .i64 (zs.getD 0 0)) := by simpa [Addr.add] using h0
      exact World.cell?_spot h1
    subst hspot
    have hblk : b < w.heap.size := by
      have h1 : w.cell? ⟨b, off, none⟩ = some (.int .i64 (zs.getD 0 0)) := by simpa [Addr.add] using h0
      exact World.block_lt_of_cell? w _ h1
    refine ⟨b, off, rfl, hblk, fun j hj => ?_⟩
    have g := hcell j (by omega)
    rw [add_of] at g
    rw [g]
    congr 2
    simp only [List.getD, List.getElem?_take, if_pos (show j < len0 by omega)]
end
end Go.Proofs.Ytlliomnfbgdpfaa
