/- Marks: laws.markIntS, markPartS, markFormula write a row of numbers, heldIntS, heldPartS, heldFormula read it; what lies in other blocks stays. -/
import Derived.Test.YtkmhpiojbocjkaaLW
import Derived.Test.YtkmhpiojbocjkaaA9
namespace Go.Proofs.Ytkmhpiojbocjkaa
set_option linter.unusedSimpArgs false
set_option linter.unusedVariables false
open Go.RowKit

/-- A row of numbers from k on. -/
def mks (k : Int) (m : Nat) : List Value := (List.range m).map fun j : Nat => Value.int .i64 (k + j)

theorem mks_len (k : Int) (m : Nat) : (mks k m).length = m := by simp [mks]
theorem mks_get (k : Int) (m j : Nat) (h : j < m) : (mks k m)[j]? = some (.int .i64 (k + j)) := by simp [mks, h]
theorem mks_succ (k : Int) (m : Nat) : mks k (m + 1) = mks k m ++ [.int .i64 (k + m)] := by simp [mks, List.range_succ]

theorem mks_five (k : Int) (m : Nat) : mks k (m + 5) = mks k m ++ (⟨k + m, k + m + 1, k + m + 2, k + m + 3, k + m + 4⟩ : Pt).cells := by
  rw [mks_succ k (m + 4), mks_succ k (m + 3), mks_succ k (m + 2), mks_succ k (m + 1), mks_succ k m]
  simp [Pt.cells]
  omega

theorem mks_five' (k k5 : Int) (m : Nat) (h : k5 = k + m) : mks k (m + 5) = mks k m ++ (⟨k5, k5 + 1, k5 + 1 + 1, k5 + 1 + 1 + 1, k5 + 1 + 1 + 1 + 1⟩ : Pt).cells := by
  have e : (⟨k5, k5 + 1, k5 + 1 + 1, k5 + 1 + 1 + 1, k5 + 1 + 1 + 1 + 1⟩ : Pt) = ⟨k + m, k + m + 1, k + m + 2, k + m + 3, k + m + 4⟩ := by subst h; congr 1; omega; omega; omega
  rw [mks_five, e]

theorem grown_tr {a b c : World} {row : Option Nat} (h : a.grownBy b row) (k : b.grownBy c row) : a.grownBy c row :=
  ⟨k.os.trans h.os, k.tape.trans h.tape, k.output.trans h.output, Nat.le_trans h.size k.size, fun i hi hr => (k.block i (Nat.lt_of_lt_of_le hi h.size) hr).trans (h.block i hi hr)⟩
theorem grown_refl (a : World) (row : Option Nat) : a.grownBy a row := ⟨rfl, rfl, rfl, Nat.le_refl _, fun _ _ _ => rfl⟩
theorem grown_below {w w' : World} (h : Below w.heap.size w w') (row : Option Nat) : w.grownBy w' row :=
  ⟨h.os, h.tape, h.output, h.size, fun k hk _ => h.block k hk⟩

/-- What a mark leaves. -/
def Marked (w : World) (base : Nat) (e : TypeId) (size : Nat) (v : Value) (n : Nat) (k : Int) (r : Ending) (w' : World) : Prop :=
  r = .returned (.int .i64 (k + ((n * size : Nat) : Int))) ∧ w'.ownsRow base e size v n (mks k (n * size)) ∧ w.grownBy w' v.ownBlock

set_option maxRecDepth 100000 in
set_option maxHeartbeats 1600000 in
theorem laws_markPartS (base n : Nat) (v : Value) (xs : List Value) (k : Int) (w : World) (h : w.ownsRow base 117 5 v n xs) (hk : 0 ≤ k) (hk' : k ≤ 1125899906842624) (hs : n ≤ 2000000) :
    Calls Try.prog 50 #[v, .int .i64 k] w fun e w' => Marked w base 117 5 v n k e w' := by
  rcases h.2 with ⟨rfl, rfl⟩ | ⟨g, cap, _, rfl, hbg, hgh, _⟩
  · clear h
    go_enter Try.func50, Try.ntmps50
    go_wp2
    go_loopw [5, 1] (fun i u wr => i = .int .i64 0 ∧ u = .int .i64 k ∧ wr = w) (fun i _ _ => 0)
    case atStart => exact ⟨rfl, rfl, rfl⟩
    case round =>
      obtain ⟨rfl, rfl, rfl⟩ := hrel
      go_wp2
      go_ret
      exact ⟨by simp, World.ownsRow_nil _ _ _ _, grown_refl _ _⟩
  · have HO := Lib.hid h
    have hgl : g < w.heap.size := (h.lt g rfl).2
    clear h hgh
    go_enter Try.func50, Try.ntmps50
    go_wp2
    go_loopw [5, 1] (fun i u wr => ∃ (j : Nat) (ys : List Value), j ≤ n ∧ i = .int .i64 j ∧ u = .int .i64 (k + ((j * 5 : Nat) : Int)) ∧ Hid (wr.ownsRow base 117 5 (.slice (some ⟨g, 0, none⟩) n cap) n ys) ∧ Hid (ys.take (j * 5) = mks k (j * 5)) ∧ Hid (w.grownBy wr (some g))) (fun i _ _ => n - (intOf i).toNat)
    case atStart => exact ⟨0, xs, by omega, rfl, by simp, HO.out, by simp [Hid, mks], grown_refl _ _⟩
    case round =>
      obtain ⟨j, ys, hj, rfl, rfl, HY, HT, HGR⟩ := hrel
      by_cases hlt : j < n
      · have hl : ys.length = n * 5 := HY.out.1
        have u0 := HY.out.cellAt (j * 5) (by omega)
        have u1 := HY.out.cellAt (j * 5 + 1) (by omega)
        have u2 := HY.out.cellAt (j * 5 + 2) (by omega)
        have u3 := HY.out.cellAt (j * 5 + 3) (by omega)
        have u4 := HY.out.cellAt (j * 5 + 4) (by omega)
        rw [List.getElem?_eq_getElem (by omega)] at u0 u1 u2 u3 u4
        have f0 := HY.out.frozenAt (j * 5)
        have f1 := HY.out.frozenAt (j * 5 + 1)
        have f2 := HY.out.frozenAt (j * 5 + 2)
        have f3 := HY.out.frozenAt (j * 5 + 3)
        have f4 := HY.out.frozenAt (j * 5 + 4)
        generalize ys[j * 5]'(by omega) = v0 at u0
        generalize ys[j * 5 + 1]'(by omega) = v1 at u1
        generalize ys[j * 5 + 2]'(by omega) = v2 at u2
        generalize ys[j * 5 + 3]'(by omega) = v3 at u3
        generalize ys[j * 5 + 4]'(by omega) = v4 at u4
        have HL := Lib.hid hl
        clear hl
        obtain ⟨k5, hk5⟩ : ∃ k5 : Int, k5 = k + ((j * 5 : Nat) : Int) := ⟨_, rfl⟩
        have hk0 : 0 ≤ k5 := by omega
        have hk1 : k5 ≤ 1125899916842624 := by omega
        rw [← hk5]
        have HK := Lib.hid hk5
        clear hk5
        go_wp2
        go_roundw
        case rel =>
          refine ⟨j + 1, _, by omega, by go_num, by have := HK.out; go_num, own_set5 HY.out (j * 5) ⟨k5, k5 + 1, k5 + 1 + 1, k5 + 1 + 1 + 1, k5 + 1 + 1 + 1 + 1⟩, ?_, ?_⟩
          · rw [show (j + 1) * 5 = j * 5 + 5 by omega, take_set5 ys (j * 5) _ (by have := HL.out; omega), HT.out, mks_five' k k5 _ HK.out]
            exact Lib.hid rfl
          · have a0 := HY.out.stored (j * 5) (.int .i64 k5)
            have a1 := a0.1.stored (j * 5 + 1) (.int .i64 (k5 + 1))
            have a2 := a1.1.stored (j * 5 + 2) (.int .i64 (k5 + 1 + 1))
            have a3 := a2.1.stored (j * 5 + 3) (.int .i64 (k5 + 1 + 1 + 1))
            have a4 := a3.1.stored (j * 5 + 4) (.int .i64 (k5 + 1 + 1 + 1 + 1))
            exact grown_tr HGR.out (grown_tr a0.2 (grown_tr a1.2 (grown_tr a2.2 (grown_tr a3.2 a4.2))))
        case measure => simp [intOf]; omega
      · obtain rfl : j = n := by omega
        go_wp2
        go_ret
        refine ⟨by simp, ?_, HGR.out⟩
        have h1 := HT.out
        have h2 : ys.length = j * 5 := HY.out.1
        rw [List.take_of_length_le (by omega)] at h1
        rw [← h1]
        exact HY.out

theorem ownBlock_lt {w : World} {base n size : Nat} {e : TypeId} {v : Value} {xs : List Value} (h : w.ownsRow base e size v n xs) (o : Obj) : v.ownBlock ≠ some w.heap.size := by
  intro hk
  have := (h.lt _ hk).2
  omega

end Go.Proofs.Ytkmhpiojbocjkaa
