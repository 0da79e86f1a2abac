/- The contract of the laws' own marks on graphs: only blocks of the graph turn. -/
import Derived.Test.YtkmhpiojbocjkaaG2
namespace Go.Proofs.Ytkmhpiojbocjkaa
set_option linter.unusedSimpArgs false
set_option linter.unusedVariables false
open Go.RowKit

/-- What a mark leaves, where the marks do not matter. -/
def MkW (lo hi : Nat) (w : World) (k top : Int) (e : Ending) (w' : World) : Prop := ∃ k' : Int, e = .returned (.int .i64 k') ∧ k ≤ k' ∧ k' ≤ top ∧ Tch lo hi w w'

set_option maxRecDepth 100000 in
set_option maxHeartbeats 1600000 in
theorem laws_markNodeS (lo hi n : Nat) (v : Value) (k : Int) (w : World) (h : WkG lo hi v n w) (hs : n ≤ 1048576) (hk : 0 ≤ k) (hk' : k ≤ 562949953421312) (hhi : hi ≤ w.heap.size) :
    Calls Try.prog 32 #[v, .int .i64 k] w fun e w' => MkW lo hi w k (k + n * 5242881) e w' := by
  obtain ⟨A, c, rfl⟩ := own_form h.choose_spec.1.1
  have hch := h.choose_spec.1
  generalize h.choose = xs0 at hch
  rcases hch.1.2 with ⟨hv, rfl⟩ | ⟨g, cap, _, hv, hbg, hgh, hrest⟩
  · clear h hv hch
    go_enter Try.func32, Try.ntmps32
    go_wp2
    go_loopw [5, 1] (fun i u wr => i = .int .i64 0 ∧ u = .int .i64 k ∧ wr = w) (fun i _ _ => 0)
    case atStart => exact ⟨rfl, rfl, rfl⟩
    case round =>
      obtain ⟨rfl, rfl, rfl⟩ := hrel
      go_wp2
      go_ret
      exact ⟨k, rfl, Int.le_refl _, by simp, Tch.refl _ _ _⟩
  · cases hv
    have hgi : lo ≤ g ∧ g < hi := ⟨hbg, hch.2 g rfl⟩
    have HW := Lib.hid h
    clear h hgh hch hrest
    go_enter Try.func32, Try.ntmps32
    go_wp2
    go_loopw [5, 1] (fun i u wr => ∃ (j : Nat) (q : Int), j ≤ n ∧ i = .int .i64 j ∧ u = .int .i64 q ∧ k ≤ q ∧ q ≤ k + j * 5242881 ∧ Hid (WkG lo hi (.slice (some ⟨g, 0, none⟩) n c) n wr) ∧ Hid (Tch lo hi w wr)) (fun i _ _ => n - (intOf i).toNat)
    case atStart => exact ⟨0, k, by omega, rfl, rfl, by omega, by simp, HW.out, Tch.refl _ _ _⟩
    case round =>
      obtain ⟨j, q, hj, rfl, rfl, hq0, hq1, HY, HT⟩ := hrel
      by_cases hlt : j < n
      · have hq2 : q ≤ 568447512150016 := by omega
        have hq00 : 0 ≤ q := by omega
        have HY2 := Lib.hid (HY.out.kind j hlt q)
        obtain ⟨xs, ho, hx⟩ := HY.out
        obtain ⟨q', A1, m1, c1, hx0, hx1, hm1, ys, hr⟩ := hx j hlt
        have u0 := (ho.1.cellAt (j * 2) (by omega)).trans hx0
        have u1 := (ho.1.cellAt (j * 2 + 1) (by omega)).trans hx1
        have f0 := ho.1.frozenAt (j * 2)
        have hb : Tch lo hi wr (wr.setCell ⟨g, j * 2, none⟩ (.int .i64 q)) := Tch.of_grown (ho.1.stored (j * 2) (.int .i64 q)).2 fun k hk => by simp at hk; omega
        have HR : Hid (OwR lo hi 117 5 (.slice A1 m1 c1) m1 ys (wr.setCell ⟨g, j * 2, none⟩ (.int .i64 q))) := ⟨hr.1.kept (ho.1.stored (j * 2) (.int .i64 q)).2 (blocks_ne hr.1 ho.1 node_ne_part.symm), hr.2⟩
        have HB := Lib.hid hb
        clear hx ho hr hb hx0 hx1 HY
        go_wp2_with fail
        refine (laws_markPartS lo m1 _ ys (q + 1) _ HR.out.1 (by omega) (by omega) (by omega)).mono ?_
        rintro e w1 hm
        have he := hm.1
        have HY3 := Lib.hid (HY2.out.marked ⟨ys, HR.out.1⟩ hm)
        have HT3 : Hid (Tch lo hi w w1) := (HT.out.trans HB.out).trans (Tch.of_grown hm.2.2 fun k hk => ⟨(HR.out.1.lt k hk).1, HR.out.2 k hk⟩)
        obtain ⟨q3, hq3⟩ : ∃ q3 : Int, q3 = q + 1 + ((m1 * 5 : Nat) : Int) := ⟨_, rfl⟩
        rw [← hq3] at he
        have hq4 : k ≤ q3 := by omega
        have hq5 : q3 ≤ k + (j + 1) * 5242881 := by omega
        subst he
        clear hm hq3 HY2 HR HB HT
        go_wp2
        go_roundw
        case rel => exact ⟨j + 1, q3, by omega, by go_num, rfl, hq4, by simpa using hq5, HY3.out, HT3.out⟩
        case measure => simp [intOf]; omega
      · obtain rfl : j = n := by omega
        go_wp2
        go_ret
        exact ⟨q, rfl, hq0, by simpa using hq1, HT.out⟩

set_option maxHeartbeats 800000 in
theorem laws_markGraph (lo hi n c : Nat) (A : Option Addr) (k : Int) (w : World) (h : WkG lo hi (.slice A n c) n w) (hs : n ≤ 1048576) (hk : 0 ≤ k) (hk' : k ≤ 562949953421312) (hhi : hi ≤ w.heap.size) :
    Calls Try.prog 18 #[.agg #[.slice A n c], .int .i64 k] w fun e w' => MkW lo hi w k (k + n * 5242881) e w' := by
  have H := Lib.hid h
  clear h
  go_enter Try.func18, Try.ntmps18
  go_wp2_with fail
  refine (laws_markNodeS lo hi n _ k _ (H.out.step ((Below.refl _ _).alloc (Nat.le_refl _) _) hhi) hs hk hk' (by simp; omega)).mono ?_
  rintro e w1 ⟨k1, rfl, hk1, hk2, ht⟩
  go_wp2
  go_ret
  exact ⟨k1, rfl, hk1, hk2, (Tch.of_below ((Below.refl _ _).alloc (Nat.le_refl _) _)).trans ht⟩
end Go.Proofs.Ytkmhpiojbocjkaa
