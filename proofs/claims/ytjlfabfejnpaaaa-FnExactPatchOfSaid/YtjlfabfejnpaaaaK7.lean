/- Numbers in the first places of an own row: the answer of StaysOf. -/
import Derived.Test.YtjlfabfejnpaaaaK3
import Derived.Test.YtjlfabfejnpaaaaS11

namespace Go.Proofs.Ytjlfabfejnpaaaa
set_option linter.unusedSimpArgs false
set_option linter.unusedVariables false
open Go.RowKit

/-- The slice value reads the first n cells of an own row, that are xs. -/
def OwK (lo hi : Nat) (v : Value) (n : Nat) (xs : List Value) (w : World) : Prop :=
  xs.length = n ∧ ((v = .slice none 0 0 ∧ n = 0) ∨ ∃ g c m c' ys, v = .slice (some ⟨g, 0, none⟩) n c ∧ n ≤ c ∧ w.ownsRow lo 3 1 (.slice (some ⟨g, 0, none⟩) m c') m ys ∧ g < hi ∧ n ≤ m ∧ ys.take n = xs)

theorem OwK.form {lo hi n : Nat} {v : Value} {xs : List Value} {w : World} (h : OwK lo hi v n xs w) : ∃ A c, v = .slice A n c := by
  rcases h.2 with ⟨rfl, rfl⟩ | ⟨g, c, _, _, _, rfl, _⟩
  · exact ⟨none, 0, rfl⟩
  · exact ⟨_, _, rfl⟩
theorem OwK.keep {lo hi n : Nat} {v : Value} {xs : List Value} {w w' : World} (h : OwK lo hi v n xs w) (hk : ∀ k, lo ≤ k → k < hi → w'.heap[k]? = w.heap[k]?) : OwK lo hi v n xs w' := by
  refine ⟨h.1, ?_⟩
  rcases h.2 with hn | ⟨g, c, m, c', ys, rfl, hc, ho, hg, hm, ht⟩
  · exact .inl hn
  · have := (OwR.keep (⟨ho, fun k e => by cases e; exact hg⟩ : OwR lo hi 3 1 (.slice (some ⟨g, 0, none⟩) m c') m ys w) hk).1
    exact .inr ⟨g, c, m, c', ys, rfl, hc, this, hg, hm, ht⟩
theorem OwK.loc (lo hi : Nat) (v : Value) (n : Nat) (xs : List Value) : Loc lo hi (OwK lo hi v n xs) := fun w w' h hk => h.keep hk
theorem OwK.mono {lo hi lo' hi' n : Nat} {v : Value} {xs : List Value} {w : World} (h : OwK lo hi v n xs w) (h1 : lo' ≤ lo) (h2 : hi ≤ hi') : OwK lo' hi' v n xs w := by
  refine ⟨h.1, ?_⟩
  rcases h.2 with hn | ⟨g, c, m, c', ys, rfl, hc, ho, hg, hm, ht⟩
  · exact .inl hn
  · exact .inr ⟨g, c, m, c', ys, rfl, hc, own_mono ho h1, by omega, hm, ht⟩
theorem OwK.of_own {lo : Nat} {v : Value} {xs : List Int} {w : World} (h : OwnI w lo v xs) : OwK lo w.heap.size v xs.length (xs.map (Value.int .i64)) w := by
  refine ⟨by simp, ?_⟩
  rcases h.2 with ⟨rfl, h0⟩ | ⟨g, cap, cur, rfl, hb, hg, hc, hr⟩
  · exact .inl ⟨rfl, h0⟩
  · exact .inr ⟨g, cap, xs.length, cap, xs.map (Value.int .i64), rfl, hc, h, (World.ownsRow.lt h g rfl).2, Nat.le_refl _, List.take_of_length_le (by simp)⟩
theorem OwK.of_rf {lo g n fl : Nat} {f : Nat → Int} {w : World} (h : Rf lo g n f w) (hf : fl ≤ n) (c : Nat) (hc : fl ≤ c) : OwK lo w.heap.size (.slice (some ⟨g, 0, none⟩) fl c) fl ((il fl f).map (Value.int .i64)) w := by
  refine ⟨by simp [il], .inr ⟨g, c, n, n, vl n f, rfl, hc, h, h.lt.2, hf, ?_⟩⟩
  rw [il_vl]
  unfold vl
  rw [← List.map_take, List.take_range]
  rw [Nat.min_eq_left hf]
theorem OwK.ints {lo hi n c : Nat} {A : Option Addr} {xs : List Int} {w : World} (h : OwK lo hi (.slice A n c) n (xs.map (Value.int .i64)) w) : IS w hi A xs := by
  intro hn
  have hl : xs.length = n := by simpa using h.1
  rcases h.2 with ⟨hv, h0⟩ | ⟨g, c', m, c2, ys, hv, _, ho, hg, hm, ht⟩
  · omega
  · simp only [Value.slice.injEq] at hv
    obtain ⟨rfl, _, _⟩ := hv
    refine ⟨g, 0, rfl, hg, fun j hj => ?_⟩
    have hyl : ys.length = m * 1 := ho.1
    rw [ho.cellAt (0 + j) (by omega)]
    have e : (ys.take n)[j]? = (xs.map (Value.int .i64))[j]? := by rw [ht]
    rw [List.getElem?_take, if_pos (by omega)] at e
    rw [Nat.zero_add, e]
    simp [List.getD, hj]
theorem OwK.cap {lo hi n c : Nat} {A : Option Addr} {xs : List Value} {w : World} (h : OwK lo hi (.slice A n c) n xs w) : n ≤ c := by
  rcases h.2 with ⟨hv, h0⟩ | ⟨g, c', m, c2, ys, hv, hc, _⟩
  · omega
  · simp only [Value.slice.injEq] at hv
    obtain ⟨_, _, rfl⟩ := hv
    exact hc

theorem kept_start {lo n : Nat} {v : Value} {xs : List Value} {w : World} (h : OwK lo w.heap.size v n xs w) : As lo w.heap.size (OwK lo w.heap.size v n xs) w := ⟨h, Nat.le_refl _, OwK.loc _ _ _ _ _⟩
theorem As.kept {lo hi n c : Nat} {A : Option Addr} {xs : List Int} {w : World} (h : As lo hi (OwK lo hi (.slice A n c) n (xs.map (Value.int .i64))) w) : IS w w.heap.size A xs := h.it.ints.more h.le

/-- Returns numbers in the first places of a fresh row. -/
def RetK (w : World) (xs : List Int) (e : Ending) (w' : World) : Prop := ∃ v, e = .returned v ∧ OwK w.heap.size w'.heap.size v xs.length (xs.map (Value.int .i64)) w' ∧ Below w.heap.size w w'
theorem RetK.of_ret {w w' : World} {xs : List Int} {e : Ending} (h : RetI w xs e w') : RetK w xs e w' := by
  obtain ⟨v, he, ho, hb⟩ := h
  exact ⟨v, he, OwK.of_own ho, hb⟩

set_option maxHeartbeats 800000 in
theorem markK (base g n c m c' : Nat) (ys : List Value) (k : Int) (w : World) (h : w.ownsRow base 3 1 (.slice (some ⟨g, 0, none⟩) m c') m ys) (hnm : n ≤ m) (hk : 0 ≤ k) (hk' : k ≤ 1125899906842624) (hs : n ≤ 2000000) :
    Calls Try.prog 17 #[.slice (some ⟨g, 0, none⟩) n c, .int .i64 k] w fun e w' => e = .returned (.int .i64 (k + n)) ∧ (∃ ys', w'.ownsRow base 3 1 (.slice (some ⟨g, 0, none⟩) m c') m ys' ∧ ys'.take n = mks k n) ∧ w.grownBy w' (some g) := by
  have HO := Lib.hid h
  have hgl : g < w.heap.size := (h.lt g rfl).2
  clear h
  go_enter Try.func17, Try.ntmps17
  go_wp2
  go_loopw [5, 1] (fun i u wr => ∃ (j : Nat) (ys : List Value), j ≤ n ∧ i = .int .i64 j ∧ u = .int .i64 (k + j) ∧ Hid (wr.ownsRow base 3 1 (.slice (some ⟨g, 0, none⟩) m c') m ys) ∧ Hid (ys.take j = mks k j) ∧ Hid (w.grownBy wr (some g))) (fun i _ _ => n - (intOf i).toNat)
  case atStart => exact ⟨0, ys, by omega, rfl, by simp, HO.out, by simp [Hid, mks], grown_refl _ _⟩
  case round =>
    obtain ⟨j, ys, hj, rfl, rfl, HY, HT, HGR⟩ := hrel
    by_cases hlt : j < n
    · have hl : ys.length = m * 1 := HY.out.1
      have u0 := HY.out.cellAt j (by omega)
      rw [List.getElem?_eq_getElem (by omega)] at u0
      have f0 := HY.out.frozenAt j
      generalize ys[j]'(by omega) = v0 at u0
      have HL := Lib.hid hl
      clear hl
      go_wp2
      all_goals try (go_region; go_wp2)
      all_goals go_roundw
      case rel =>
        have ho := HY.out.stored j (.int .i64 (k + j))
        refine ⟨j + 1, _, by omega, by go_num, by go_num, by first | exact ho.1 | exact ho.1.drew, ?_, by first | exact grown_tr HGR.out ho.2 | exact grown_tr HGR.out ⟨ho.2.os, ho.2.tape, ho.2.output, ho.2.size, ho.2.block⟩⟩
        rw [mks_succ, ← HT.out]
        exact take_set1 ys j _ (by have := HL.out; omega)
      case measure => simp [intOf]; omega
    · obtain rfl : j = n := by omega
      go_wp2
      go_ret
      exact ⟨by simp, ⟨ys, HY.out, HT.out⟩, HGR.out⟩

set_option maxHeartbeats 800000 in
theorem heldK (base g n c m c' : Nat) (ys : List Value) (k : Int) (w : World) (h : w.ownsRow base 3 1 (.slice (some ⟨g, 0, none⟩) m c') m ys) (ht : ys.take n = mks k n) (hnm : n ≤ m) (hk : 0 ≤ k) (hk' : k ≤ 1125899906842624) (hs : n ≤ 2000000) :
    Calls Try.prog 18 #[.slice (some ⟨g, 0, none⟩) n c, .int .i64 k] w fun e w' => e = .returned (.int .i64 (k + n)) ∧ Below w.heap.size w w' := by
  have HO := Lib.hid h
  have HT := Lib.hid ht
  clear h ht
  go_enter Try.func18, Try.ntmps18
  go_wp2
  go_loopw [5, 1] (fun i u wr => ∃ j : Nat, j ≤ n ∧ i = .int .i64 j ∧ u = .int .i64 (k + j) ∧ Below w.heap.size w wr) (fun i _ _ => n - (intOf i).toNat)
  case atStart => exact ⟨0, by omega, rfl, by simp, Below.refl _ _⟩
  case round =>
    obtain ⟨j, hj, rfl, rfl, hB⟩ := hrel
    by_cases hlt : j < n
    · have u0 := (own_below HO.out hB).cellAt j (by omega)
      have e : (ys.take n)[j]? = (mks k n)[j]? := by rw [HT.out]
      rw [List.getElem?_take, if_pos hlt, mks_get k n j hlt] at e
      rw [e] at u0
      clear e
      go_wp2
      go_roundw
      case rel => exact ⟨j + 1, by omega, by go_num, by go_num, hB⟩
      case measure => simp [intOf]; omega
    · obtain rfl : j = n := by omega
      go_wp2
      go_ret
      exact ⟨by simp, hB⟩

theorem mark_kept (lo hi n : Nat) (v : Value) (xs : List Value) (k : Int) (w : World) (h : As lo hi (OwK lo hi v n xs) w) (hk : 0 ≤ k) (hk' : k ≤ 562949953421312) (hs : n ≤ 2000000) :
    Calls Try.prog 17 #[v, .int .i64 k] w fun e w' => MkS lo hi (OwK lo hi v n (mks k n)) w (k + n) e w' := by
  rcases h.it.2 with ⟨rfl, rfl⟩ | ⟨g, c, m, c', ys, rfl, hc, ho, hg, hm, ht⟩
  · refine (laws_markIntS lo 0 (.slice none 0 0) [] k w (World.ownsRow_nil _ _ _ _) hk (by omega) (by omega)).mono ?_
    rintro e w' ⟨he, ho, hg⟩
    refine ⟨by simpa using he, ⟨⟨by simp [mks], .inl ⟨rfl, rfl⟩⟩, Nat.le_trans h.le hg.size, OwK.loc _ _ _ _ _⟩, Tch.of_grown hg fun k hk => by simp [Value.ownBlock] at hk⟩
  · refine (markK lo g n c m c' ys k w ho hm hk (by omega) hs).mono ?_
    rintro e w' ⟨he, ⟨ys', ho', ht'⟩, hgr⟩
    refine ⟨he, ⟨⟨by simp [mks], .inr ⟨g, c, m, c', ys', rfl, hc, ho', hg, hm, ht'⟩⟩, Nat.le_trans h.le hgr.size, OwK.loc _ _ _ _ _⟩, Tch.of_grown hgr fun k hk => ?_⟩
    cases hk
    exact ⟨(ho.lt g rfl).1, hg⟩

theorem held_kept (lo hi n : Nat) (v : Value) (k : Int) (w : World) (h : As lo hi (OwK lo hi v n (mks k n)) w) (hk : 0 ≤ k) (hk' : k ≤ 562949953421312) (hs : n ≤ 2000000) :
    Calls Try.prog 18 #[v, .int .i64 k] w fun e w' => e = .returned (.int .i64 (k + n)) ∧ Below w.heap.size w w' := by
  rcases h.it.2 with ⟨rfl, rfl⟩ | ⟨g, c, m, c', ys, rfl, hc, ho, hg, hm, ht⟩
  · exact laws_heldIntS lo 0 (.slice none 0 0) k w (by simpa [mks] using World.ownsRow_nil w lo 3 1) hk (by omega) (by omega)
  · exact heldK lo g n c m c' ys k w ho ht hm hk (by omega) hs
end Go.Proofs.Ytjlfabfejnpaaaa
