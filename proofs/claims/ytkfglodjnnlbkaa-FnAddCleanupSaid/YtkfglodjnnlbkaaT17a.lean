/- Words and contracts for memory that the texts behind use. -/
import Derived.Test.YtkfglodjnnlbkaaT0a
import Derived.Test.YtkfglodjnnlbkaaT1a
import Derived.Test.YtkfglodjnnlbkaaT2b
import Derived.Test.YtkfglodjnnlbkaaT3a
import Derived.Test.YtkfglodjnnlbkaaT4a
import Derived.Test.YtkfglodjnnlbkaaT5a
import Derived.Test.YtkfglodjnnlbkaaT6a
import Derived.Test.YtkfglodjnnlbkaaT7a
import Derived.Test.YtkfglodjnnlbkaaT8a
import Derived.Test.YtkfglodjnnlbkaaT9a
import Derived.Test.YtkfglodjnnlbkaaT10a
import Derived.Test.YtkfglodjnnlbkaaT11a
import Derived.Test.YtkfglodjnnlbkaaT13a
import Derived.Test.YtkfglodjnnlbkaaT14a
import Derived.Test.YtkfglodjnnlbkaaT15a
import Derived.Test.YtkfglodjnnlbkaaT16a
import Derived.WalkKit
import Derived.Laws.OwnMore
import Derived.Deep.Draws
import Derived.Test.YtkfglodjnnlbkaaProg
import Derived.WalkSpells
import Derived.WalkLawsBesides
import Derived.Outline
import Derived.Lib.Hide
import Derived.BigQuiet
import Derived.Deep.QuietTactic
import Derived.StillTailTactics
import Derived.Deep.LoopGhost
import Derived.Laws.MakeOwn
import Derived.WalkSmall
import Derived.RegionTactic
import Derived.BigRegion
import Derived.Deep.RegionWith
import Derived.Deep.RegionHeld3
import Derived.Maps.AppendAt
import Derived.Laws.CopyOwn
import Derived.Maps.Own
import Derived.Maps.Views
import Derived.Deep.Cut
import Derived.Laws.Entries
import Derived.Laws.Bits64
import Derived.IntWalk
import Derived.Deep.RegionLaw
import Derived.Deep.AppendLies
import Derived.Deep.DeepCutAuto
import Derived.ArgAppend
import Derived.RangeFuncNested
import Derived.RangeFuncBound
import Derived.RangeFuncCalls
import Derived.RangeFuncLeaves
import Derived.RangeFuncBox
import Derived.Shelf.Abstract
import Derived.Shelf.RegionOpen
import Derived.OwnWalkIn
import Derived.TacticsInMore
import Derived.LoopNIn
import Derived.LoopIn
import Derived.Sort.QuietIn
import Derived.Sort.QuietTacIn
import Derived.RegionIn
import Derived.Sort.CutIn

namespace Go.Proofs.Ytkfglodjnnlbkaa
set_option linter.unusedSimpArgs false
set_option linter.unusedVariables false
open Go.RowKit
theorem take_step {α : Type} [Inhabited α] (l m : List α) (k : Nat) (h : k < l.length) (h' : k < m.length) (ht : l.take k = m.take k) (he : l.getD k default = m.getD k default) : l.take (k + 1) = m.take (k + 1) := by
  rw [take_succ_getD l k h, take_succ_getD m k h', ht, he]
theorem take_all_eq {α : Type} (l m : List α) (n : Nat) (h : n = l.length) (h' : n = m.length) (ht : l.take n = m.take n) : l = m := by
  rw [List.take_of_length_le (by omega), List.take_of_length_le (by omega)] at ht
  exact ht
theorem getD_ne {α : Type} [Inhabited α] [DecidableEq α] (l m : List α) (k : Nat) (h : l.getD k default ≠ m.getD k default) : decide (l = m) = false := by
  rw [decide_eq_false_iff_not]; rintro rfl; exact h rfl
end Go.Proofs.Ytkfglodjnnlbkaa

namespace Go.Proofs.Ytkfglodjnnlbkaa
set_option linter.unusedSimpArgs false
set_option linter.unusedVariables false
open Go.RowKit
set_option maxRecDepth 100000 in
set_option maxHeartbeats 800000 in
theorem laws_eqIntS (A A' : Option Addr) (n n' c c' : Nat) (xs ys : List Int) (w : World) (B : Nat) (hB : B ≤ w.heap.size) (hn : n = xs.length) (hn' : n' = ys.length) (h : IS w B A xs) (h' : IS w B A' ys) (hs : n ≤ 2000000) (hs' : n' ≤ 2000000) :
    Calls Try.prog 36 #[.slice A n c, .slice A' n' c'] w fun e w' => e = .returned (.bool (decide (xs = ys))) ∧ Below w.heap.size w w' := by
  by_cases hl : n = n'
  · have hne : ((n : Int) != (n' : Int)) = false := by simp [hl]
    have HL := Lib.hid hl
    have HN := Lib.hid hn
    have HN' := Lib.hid hn'
    have H := Lib.hid h
    have H' := Lib.hid h'
    clear hl hn hn' h h'
    go_enter Try.func36, Try.ntmps36
    go_wp2
    go_loopw [5] (fun i wr => ∃ k : Nat, k ≤ n ∧ i = .int .i64 k ∧ Hid (xs.take k = ys.take k) ∧ Below w.heap.size w wr) (fun i _ => n - (intOf i).toNat)
    case atStart => exact ⟨0, Nat.zero_le _, rfl, by simp [Hid], Below.refl _ _⟩
    case round =>
      obtain ⟨k, hk, rfl, HT, hb⟩ := hrel
      by_cases hlt : k < n
      · obtain ⟨b, off, rfl, hbB, hc⟩ := H.out (by have := HN.out; omega)
        obtain ⟨b', off', rfl, hbB', hc'⟩ := H'.out (by have := HN'.out; have := HL.out; omega)
        have c0 := hc k (by have := HN.out; omega)
        have d0 := hc' k (by have := HN'.out; have := HL.out; omega)
        clear hc hc' H H'
        have hlt' : k < n' := by have := HL.out; omega
        have b0 := (hb.cell (p := ⟨b, off + k, none⟩) (by simp; omega)).trans c0
        have e0 := (hb.cell (p := ⟨b', off' + k, none⟩) (by simp; omega)).trans d0
        clear c0 d0
        generalize hp : xs.getD k 0 = p at *
        generalize hq : ys.getD k 0 = q at *
        have HP := Lib.hid hp
        have HQ := Lib.hid hq
        clear hp hq
        cases hpq : (p != q)
        · have HPQ := Lib.hid hpq
          go_wp2
          go_region
          go_wp2
          go_roundw
          case rel =>
            have hts := take_step xs ys k (by have := HN.out; omega) (by have := HN'.out; omega) HT.out (HP.out.trans ((by simpa using HPQ.out : p = q).trans HQ.out.symm))
            exact ⟨k + 1, by omega, by go_num, hts, hb.drew⟩
          case measure => simp [intOf]; omega
        · have HPQ := Lib.hid hpq
          go_wp2
          go_region
          go_wp2
          go_ret
          refine ⟨ret_b ?_, hb.drew⟩
          have hne : xs.getD k default ≠ ys.getD k default := by
            intro e
            have : p = q := HP.out.symm.trans (e.trans HQ.out)
            have h2 := HPQ.out
            simp [this] at h2
          simp [getD_ne xs ys k hne]
      · go_wp2
        go_ret
        refine ⟨ret_b ?_, hb⟩
        have hkn : k = n := by omega
        have := take_all_eq xs ys n HN.out (HL.out.trans HN'.out) (by rw [← hkn]; exact HT.out)
        simp [this]
  · have hne : ((n : Int) != (n' : Int)) = true := by simp; omega
    have hf : decide (xs = ys) = false := by
      rw [decide_eq_false_iff_not]; rintro rfl; omega
    rw [hf]
    clear hl hn hn' h h' hf
    go_enter Try.func36, Try.ntmps36
    go_wp2
    go_ret
    exact ⟨rfl, Below.refl _ _⟩
theorem take_set1 (xs : List Value) (k : Nat) (v : Value) (h : k < xs.length) : (xs.set k v).take (k + 1) = xs.take k ++ [v] := by
  rw [List.take_succ_eq_append_getElem (by simpa using h), List.take_set_of_le (by omega)]
  simp
set_option maxHeartbeats 800000 in
theorem laws_toIntS (A : Option Addr) (n c : Nat) (xs : List Int) (w : World) (B : Nat) (hB : B ≤ w.heap.size) (hn : n = xs.length) (h : IS w B A xs) (hs : n ≤ 2000000) :
    Calls Try.prog 76 #[.slice A n c] w fun e w' => e = .returned (.slice (some ⟨w.heap.size, 0, none⟩) n n) ∧ w'.ownsRow w.heap.size 3 1 (.slice (some ⟨w.heap.size, 0, none⟩) n n) n (xs.map (Value.int .i64)) ∧ Below w.heap.size w w' := by
  obtain ⟨i0, hi, hz0, hz1, hz2⟩ := info_parts info_int
  obtain ⟨w0, hmk, hown0, hgr0⟩ := run_make_full (P := Try.prog) w w.heap.size 26 3 i0 _ 1 Try.underlying26 hi hz0 hz1 .i64 .i64 n (by rw [hz2]; omega) (by unfold maxLen; omega) (Nat.le_refl _)
  have H := Lib.hid h
  have HN := Lib.hid hn
  clear hn h
  go_enter Try.func76, Try.ntmps76
  go_wp2
  go_loopw [4] (fun i wr => ∃ (k : Nat) (vs : List Value), k ≤ n ∧ i = .int .i64 k ∧ Hid (wr.ownsRow w.heap.size 3 1 (.slice (some ⟨w.heap.size, 0, none⟩) n n) n vs) ∧ Hid (vs.take k = (xs.take k).map (Value.int .i64)) ∧ Below w.heap.size w wr) (fun i _ => n - (intOf i).toNat)
  case atStart => exact ⟨0, _, Nat.zero_le _, rfl, hown0, by simp [Hid], ⟨hgr0.os, hgr0.tape, hgr0.output, hgr0.size, fun k hk => hgr0.block k hk (by simp)⟩⟩
  case round =>
    obtain ⟨k, vs, hk, rfl, HO, HT, hb⟩ := hrel
    by_cases hlt : k < n
    · obtain ⟨b, off, rfl, hbB, hc⟩ := H.out (by have := HN.out; omega)
      have c0 := hc k (by have := HN.out; omega)
      clear hc H
      have b0 := (hb.cell (p := ⟨b, off + k, none⟩) (by simp; omega)).trans c0
      clear c0
      generalize hp : xs.getD k 0 = p at *
      have HP := Lib.hid hp
      clear hp
      have hxl : vs.length = n * 1 := HO.out.1
      have u0 := HO.out.cellAt k (by omega)
      rw [List.getElem?_eq_getElem (by omega)] at u0
      have f0 := HO.out.frozenAt k
      generalize vs[k]'(by omega) = v0 at u0
      have HXL := Lib.hid hxl
      clear hxl
      go_wp2
      all_goals try (go_region; go_wp2)
      go_roundw
      case rel =>
        have hx1 : (vs.set k (.int .i64 p)).take (k + 1) = (xs.take (k + 1)).map (Value.int .i64) := by
          rw [take_set1 _ _ _ (by have := HXL.out; omega), HT.out, show xs.take (k + 1) = xs.take k ++ [p] by rw [← HP.out, List.take_succ_eq_append_getElem (by have := HN.out; omega)]; simp [List.getD, show k < xs.length by have := HN.out; omega]]
          simp
        have ho := (HO.out.stored k (.int .i64 p)).1
        exact ⟨k + 1, _, by omega, by go_num, by first | exact ho | exact ho.alloc _, hx1, by first | exact (hb.setCell (p := ⟨w.heap.size, k, none⟩) (Nat.le_refl _) _).drew | exact hb.setCell (p := ⟨w.heap.size, k, none⟩) (Nat.le_refl _) _⟩
      case measure => simp [intOf]; omega
    · go_wp2
      go_ret
      have hkn : k = n := by omega
      have hx : vs = xs.map (Value.int .i64) := by
        have h1 := HT.out
        have h2 : vs.length = n * 1 := HO.out.1
        rw [hkn, List.take_of_length_le (by omega), List.take_of_length_le (by have := HN.out; omega)] at h1
        exact h1
      exact ⟨by simp, by rw [← hx]; exact HO.out, hb⟩
end Go.Proofs.Ytkfglodjnnlbkaa

namespace Go.Proofs.Ytkfglodjnnlbkaa
set_option linter.unusedSimpArgs false
set_option linter.unusedVariables false
open Go.RowKit
/-- A row of numbers from k on. -/
def mks (k : Int) (m : Nat) : List Value := (List.range m).map fun j : Nat => Value.int .i64 (k + j)
theorem mks_get (k : Int) (m j : Nat) (h : j < m) : (mks k m)[j]? = some (.int .i64 (k + j)) := by simp [mks, h]
theorem mks_succ (k : Int) (m : Nat) : mks k (m + 1) = mks k m ++ [.int .i64 (k + m)] := by simp [mks, List.range_succ]
theorem grown_refl (a : World) (row : Option Nat) : a.grownBy a row := ⟨rfl, rfl, rfl, Nat.le_refl _, fun _ _ _ => rfl⟩
/-- What a mark leaves. -/
def Marked (w : World) (base : Nat) (e : TypeId) (size : Nat) (v : Value) (n : Nat) (k : Int) (r : Ending) (w' : World) : Prop :=
  r = .returned (.int .i64 (k + ((n * size : Nat) : Int))) ∧ w'.ownsRow base e size v n (mks k (n * size)) ∧ w.grownBy w' v.ownBlock
set_option maxHeartbeats 800000 in
theorem laws_markIntS (base n : Nat) (v : Value) (xs : List Value) (k : Int) (w : World) (h : w.ownsRow base 3 1 v n xs) (hk : 0 ≤ k) (hk' : k ≤ 1125899906842624) (hs : n ≤ 2000000) :
    Calls Try.prog 38 #[v, .int .i64 k] w fun e w' => Marked w base 3 1 v n k e w' := by
  rcases h.2 with ⟨rfl, rfl⟩ | ⟨g, cap, _, rfl, hbg, hgh, _⟩
  · clear h
    go_enter Try.func38, Try.ntmps38
    go_wp2
    go_loopw [5, 1] (fun i u wr => i = .int .i64 0 ∧ u = .int .i64 k ∧ wr = w) (fun i _ _ => 0)
    case atStart => exact ⟨rfl, rfl, rfl⟩
    case round =>
      obtain ⟨rfl, rfl, rfl⟩ := hrel
      go_wp2
      go_ret
      exact ⟨by simp, World.ownsRow_nil _ _ _ _, grown_refl _ _⟩
  · have HO := Lib.hid h
    have hgl : g < w.heap.size := (h.lt g rfl).2
    clear h hgh
    go_enter Try.func38, Try.ntmps38
    go_wp2
    go_loopw [5, 1] (fun i u wr => ∃ (j : Nat) (ys : List Value), j ≤ n ∧ i = .int .i64 j ∧ u = .int .i64 (k + j) ∧ Hid (wr.ownsRow base 3 1 (.slice (some ⟨g, 0, none⟩) n cap) n ys) ∧ Hid (ys.take j = mks k j) ∧ Hid (w.grownBy wr (some g))) (fun i _ _ => n - (intOf i).toNat)
    case atStart => exact ⟨0, xs, by omega, rfl, by simp, HO.out, by simp [Hid, mks], grown_refl _ _⟩
    case round =>
      obtain ⟨j, ys, hj, rfl, rfl, HY, HT, HGR⟩ := hrel
      by_cases hlt : j < n
      · have hl : ys.length = n * 1 := HY.out.1
        have u0 := HY.out.cellAt j (by omega)
        rw [List.getElem?_eq_getElem (by omega)] at u0
        have f0 := HY.out.frozenAt j
        generalize ys[j]'(by omega) = v0 at u0
        have HL := Lib.hid hl
        clear hl
        go_wp2
        all_goals try (go_region; go_wp2)
        all_goals go_roundw
        case rel =>
          have ho := HY.out.stored j (.int .i64 (k + j))
          refine ⟨j + 1, _, by omega, by go_num, by go_num, by first | exact ho.1 | exact ho.1.drew, ?_, by first | exact grown_tr HGR.out ho.2 | exact grown_tr HGR.out ⟨ho.2.os, ho.2.tape, ho.2.output, ho.2.size, ho.2.block⟩⟩
          rw [mks_succ, ← HT.out]
          exact take_set1 ys j _ (by have := HL.out; omega)
        case measure => simp [intOf]; omega
      · obtain rfl : j = n := by omega
        go_wp2
        go_ret
        refine ⟨by simp, ?_, HGR.out⟩
        have h1 := HT.out
        have h2 : ys.length = j * 1 := HY.out.1
        rw [List.take_of_length_le (by omega)] at h1
        rw [Nat.mul_one, ← h1]
        exact HY.out
set_option maxHeartbeats 800000 in
theorem laws_heldIntS (base n : Nat) (v : Value) (k : Int) (w : World) (h : w.ownsRow base 3 1 v n (mks k n)) (hk : 0 ≤ k) (hk' : k ≤ 1125899906842624) (hs : n ≤ 2000000) :
    Calls Try.prog 40 #[v, .int .i64 k] w fun e w' => e = .returned (.int .i64 (k + n)) ∧ Below w.heap.size w w' := by
  obtain ⟨A, c, rfl⟩ := own_form h
  rcases h.2 with ⟨hv, rfl⟩ | ⟨g, cap, _, hv, hbg, hgh, _⟩
  · clear h hv
    go_enter Try.func40, Try.ntmps40
    go_wp2
    go_loop [5, 1] (fun i u => i = .int .i64 0 ∧ u = .int .i64 k) (fun i _ => 0)
    case atStart => exact ⟨rfl, rfl⟩
    case round =>
      obtain ⟨rfl, rfl⟩ := hrel
      go_wp2
      go_ret
      exact ⟨by simp, Below.refl _ _⟩
  · cases hv
    have HO := Lib.hid h
    clear h hgh
    go_enter Try.func40, Try.ntmps40
    go_wp2
    go_loopw [5, 1] (fun i u wr => ∃ j : Nat, j ≤ n ∧ i = .int .i64 j ∧ u = .int .i64 (k + j) ∧ Below w.heap.size w wr) (fun i _ _ => n - (intOf i).toNat)
    case atStart => exact ⟨0, by omega, rfl, by simp, Below.refl _ _⟩
    case round =>
      obtain ⟨j, hj, rfl, rfl, hB⟩ := hrel
      by_cases hlt : j < n
      · have u0 := (own_below HO.out hB).cellAt j (by omega)
        rw [mks_get k n j hlt] at u0
        go_wp2
        go_roundw
        case rel => exact ⟨j + 1, by omega, by go_num, by go_num, hB⟩
        case measure => simp [intOf]; omega
      · obtain rfl : j = n := by omega
        go_wp2
        go_ret
        exact ⟨by simp, hB⟩
end Go.Proofs.Ytkfglodjnnlbkaa

namespace Go.Proofs.Ytkfglodjnnlbkaa
set_option linter.unusedSimpArgs false
set_option linter.unusedVariables false
open Go.RowKit
/-- P speaks of blocks lo to hi - 1 alone. -/
def Loc (lo hi : Nat) (P : World → Prop) : Prop := ∀ w w' : World, P w → (∀ k, lo ≤ k → k < hi → w'.heap[k]? = w.heap[k]?) → P w'
/-- P holds, of blocks lo to hi - 1. -/
structure As (lo hi : Nat) (P : World → Prop) (w : World) : Prop where
  it : P w
  le : hi ≤ w.heap.size
  loc : Loc lo hi P
section
variable {lo hi a b : Nat} {P : World → Prop} {w w' : World}
theorem As.step (h : As lo hi P w) (hb : Below w.heap.size w w') : As lo hi P w' :=
  ⟨h.loc _ _ h.it fun k _ hk => hb.block k (Nat.lt_of_lt_of_le hk h.le), Nat.le_trans h.le hb.size, h.loc⟩
theorem As.turn (h : As lo hi P w) (ht : Tch a b w w') (hd : b ≤ lo ∨ hi ≤ a) : As lo hi P w' :=
  ⟨h.loc _ _ h.it fun k hl hk => ht.block k (Nat.lt_of_lt_of_le hk h.le) (by omega), Nat.le_trans h.le ht.size, h.loc⟩
theorem As.alloc (h : As lo hi P w) (o : Obj) : As lo hi P (w.alloc o) := h.step ((Below.refl _ _).alloc (Nat.le_refl _) o)
theorem As.keep (h : As lo hi P w) (hk : ∀ k, lo ≤ k → k < hi → w'.heap[k]? = w.heap[k]?) (hs : w.heap.size ≤ w'.heap.size) : As lo hi P w' :=
  ⟨h.loc _ _ h.it hk, Nat.le_trans h.le hs, h.loc⟩
end
theorem Loc.and {lo hi : Nat} {P Q : World → Prop} (hP : Loc lo hi P) (hQ : Loc lo hi Q) : Loc lo hi fun w => P w ∧ Q w :=
  fun w w' h hk => ⟨hP w w' h.1 hk, hQ w w' h.2 hk⟩
theorem Loc.mono {lo hi lo' hi' : Nat} {P : World → Prop} (h : Loc lo hi P) (h1 : lo' ≤ lo) (h2 : hi ≤ hi') : Loc lo' hi' P :=
  fun w w' hp hk => h w w' hp fun k a b => hk k (by omega) (by omega)
theorem IS.loc (B : Nat) (A : Option Addr) (xs : List Int) : Loc 0 B fun w => IS w B A xs :=
  fun w w' h hk => h.keep fun p hp => World.cell?_of_block (hk p.block (Nat.zero_le _) hp)
theorem PS.loc (B : Nat) (A : Option Addr) (ps : List Pt) : Loc 0 B fun w => PS w B A ps :=
  fun w w' h hk => h.keep fun p hp => World.cell?_of_block (hk p.block (Nat.zero_le _) hp)
section
variable {lo hi lo' hi' : Nat} {e : TypeId} {size n : Nat} {v : Value} {xs : List Value} {w w' : World}
theorem OwR.loc (lo hi : Nat) (e : TypeId) (size : Nat) (v : Value) (n : Nat) (xs : List Value) : Loc lo hi (OwR lo hi e size v n xs) := fun w w' h hk => h.keep hk
end
end Go.Proofs.Ytkfglodjnnlbkaa

namespace Go.Proofs.Ytkfglodjnnlbkaa
set_option linter.unusedSimpArgs false
set_option linter.unusedVariables false
open Go.RowKit
/-- What is left of a size. -/
def leftOf (l : Int) (s : Nat) : Int := if (s : Int) ≤ l then l - s else -1
end Go.Proofs.Ytkfglodjnnlbkaa

namespace Go.Proofs.Ytkfglodjnnlbkaa
set_option linter.unusedSimpArgs false
set_option linter.unusedVariables false
open Go.RowKit
/-- What a mark leaves, where the marks do not matter. -/
def MkW (lo hi : Nat) (w : World) (k top : Int) (e : Ending) (w' : World) : Prop := ∃ k' : Int, e = .returned (.int .i64 k') ∧ k ≤ k' ∧ k' ≤ top ∧ Tch lo hi w w'
end Go.Proofs.Ytkfglodjnnlbkaa

namespace Go.Proofs.Ytkfglodjnnlbkaa
set_option linter.unusedSimpArgs false
set_option linter.unusedVariables false
open Go.RowKit
/-- Of what was there when the law began nothing has turned. -/
def Bl (W wk : World) : Prop := Below W.heap.size W wk
theorem Bl.step {W wk wl : World} (h : Bl W wk) (hb : Below wk.heap.size wk wl) : Bl W wl := Below.trans h (hb.mono (Below.size h))
theorem Bl.alloc {W wk : World} (h : Bl W wk) (o : Obj) : Bl W (wk.alloc o) := h.step ((Below.refl _ _).alloc (Nat.le_refl _) o)
theorem Bl.turn {a b : Nat} {W wk wl : World} (h : Bl W wk) (ht : Tch a b wk wl) (ha : W.heap.size ≤ a) : Bl W wl := Below.trans h (ht.below ha (Below.size h))
theorem Bl.refl (W : World) : Bl W W := Below.refl _ _
theorem Bl.le {W wk : World} (h : Bl W wk) : W.heap.size ≤ wk.heap.size := Below.size h
/-- A row of numbers of the call's own, in blocks lo to hi - 1. -/
theorem row_start {lo size n : Nat} {e : TypeId} {v : Value} {xs : List Value} {w : World} (h : w.ownsRow lo e size v n xs) : As lo w.heap.size (OwR lo w.heap.size e size v n xs) w := ⟨OwR.start h, Nat.le_refl _, OwR.loc _ _ _ _ _ _ _⟩
theorem As.ints {lo hi n c : Nat} {A : Option Addr} {xs : List Int} {w : World} (h : As lo hi (OwR lo hi 3 1 (.slice A n c) n (xs.map (Value.int .i64))) w) : IS w w.heap.size A xs := h.it.ints.more h.le
/-- What a mark of an answer leaves. -/
def MkS (lo hi : Nat) (P : World → Prop) (w : World) (k' : Int) (e : Ending) (w' : World) : Prop := e = .returned (.int .i64 k') ∧ As lo hi P w' ∧ Tch lo hi w w'
theorem mark_ints (lo hi n : Nat) (v : Value) (xs : List Value) (k : Int) (w : World) (h : As lo hi (OwR lo hi 3 1 v n xs) w) (hk : 0 ≤ k) (hk' : k ≤ 562949953421312) (hs : n ≤ 2000000) :
    Calls Try.prog 38 #[v, .int .i64 k] w fun e w' => MkS lo hi (OwR lo hi 3 1 v n (mks k n)) w (k + n) e w' := by
  refine (laws_markIntS lo n v xs k w h.it.1 hk (by omega) hs).mono ?_
  rintro e w' ⟨he, ho, hg⟩
  have hl := h.it.1.lt
  rw [Nat.mul_one] at he ho
  exact ⟨he, ⟨⟨ho, h.it.2⟩, Nat.le_trans h.le hg.size, OwR.loc _ _ _ _ _ _ _⟩, Tch.of_grown hg fun k hk => ⟨(hl k hk).1, h.it.2 k hk⟩⟩
theorem held_ints (lo hi n : Nat) (v : Value) (k : Int) (w : World) (h : As lo hi (OwR lo hi 3 1 v n (mks k n)) w) (hk : 0 ≤ k) (hk' : k ≤ 562949953421312) (hs : n ≤ 2000000) :
    Calls Try.prog 40 #[v, .int .i64 k] w fun e w' => e = .returned (.int .i64 (k + n)) ∧ Below w.heap.size w w' :=
  laws_heldIntS lo n v k w h.it.1 hk (by omega) hs
theorem leftOf_no {l : Int} {s : Nat} (h : ¬ (s : Int) ≤ l) : leftOf l s = -1 := by unfold leftOf; rw [if_neg h]
theorem leftOf_ok {l : Int} {s : Nat} (h : (s : Int) ≤ l) : leftOf l s = l - s := by unfold leftOf; rw [if_pos h]
end Go.Proofs.Ytkfglodjnnlbkaa

namespace Go.Proofs.Ytkfglodjnnlbkaa
set_option linter.unusedSimpArgs false
set_option linter.unusedVariables false
open Go.RowKit
theorem SS.loc (B : Nat) (A : Option Addr) (xss : List (List Int)) : Loc 0 B fun w => SS w B A xss :=
  fun w w' h hk => h.keep fun p hp => World.cell?_of_block (hk p.block (Nat.zero_le _) hp)
def offOf (xss : List (List Int)) (j : Nat) : Nat := ((xss.take j).map List.length).sum
theorem offOf_succ (xss : List (List Int)) (j : Nat) (h : j < xss.length) : offOf xss (j + 1) = offOf xss j + lenOf xss j := by
  unfold offOf lenOf
  rw [List.take_succ_eq_append_getElem h, List.map_append, List.sum_append]
  simp [List.getD, h]
theorem offOf_all (xss : List (List Int)) : offOf xss xss.length = (xss.map List.length).sum := by unfold offOf; rw [List.take_of_length_le (Nat.le_refl _)]
theorem offOf_le (xss : List (List Int)) (j : Nat) : offOf xss j ≤ (xss.map List.length).sum := by
  have : (xss.map List.length).sum = offOf xss j + ((xss.drop j).map List.length).sum := by
    unfold offOf
    rw [← List.sum_append, ← List.map_append, List.take_append_drop]
  omega
/-- Lists of numbers of the call's own. -/
def OwSS (lo hi : Nat) (v : Value) (n : Nat) (xss : List (List Int)) (w : World) : Prop :=
  n = xss.length ∧ ∃ vs, OwR lo hi 26 1 v n vs w ∧ SSk lo hi vs (lenOf xss) (rowOf xss) w
theorem OwSS.loc (lo hi : Nat) (v : Value) (n : Nat) (xss : List (List Int)) : Loc lo hi (OwSS lo hi v n xss) := by
  rintro w w' ⟨h0, vs, h1, h2⟩ hk
  exact ⟨h0, vs, h1.keep hk, h2.keep hk⟩
theorem OwSS.mono {lo hi lo' hi' n : Nat} {v : Value} {xss : List (List Int)} {w : World} (h : OwSS lo hi v n xss w) (h1 : lo' ≤ lo) (h2 : hi ≤ hi') : OwSS lo' hi' v n xss w := by
  obtain ⟨h0, vs, e1, e2⟩ := h
  exact ⟨h0, vs, e1.mono h1 h2, e2.mono h1 h2⟩
theorem OwSS.form {lo hi n : Nat} {v : Value} {xss : List (List Int)} {w : World} (h : OwSS lo hi v n xss w) : ∃ A c, v = .slice A n c := by
  obtain ⟨_, xs, h1, _⟩ := h
  exact own_form h1.1
theorem OwSS.lists {lo hi n c : Nat} {A : Option Addr} {xss : List (List Int)} {w : World} (h : OwSS lo hi (.slice A n c) n xss w) : SS w hi A xss := by
  obtain ⟨h0, vs, h1, h2⟩ := h
  intro hn
  rcases h1.1.2 with ⟨_, hz⟩ | ⟨g, cap, cur, hv, _⟩
  · omega
  · have hg := h1.2 g (by rw [hv]; rfl)
    simp only [Value.slice.injEq] at hv
    obtain ⟨rfl, _, rfl⟩ := hv
    have hvl : vs.length = n := by have := h1.1.1; omega
    refine ⟨g, 0, rfl, hg, fun j hj => ?_⟩
    obtain ⟨A', m, c', e1, e2, e3⟩ := h2.row j (by omega)
    refine ⟨A', m, c', ?_, e2, e3.ints⟩
    rw [Nat.zero_add, h1.1.cellAt _ (by omega)]; exact e1
theorem As.lists {lo hi n c : Nat} {A : Option Addr} {xss : List (List Int)} {w : World} (h : As lo hi (OwSS lo hi (.slice A n c) n xss) w) : SS w w.heap.size A xss := h.it.lists.more h.le
theorem ints_ne_int : (3 : TypeId) ≠ 26 := by decide
theorem SSk.mark {lo hi : Nat} {vs : List Value} {xss : List (List Int)} {k : Int} {w w' : World} {e : Ending} {A : Option Addr} {m c J : Nat} (h : SSk lo hi vs (lenOf xss) (fun j => if j < J then mks (k + offOf xss j) (lenOf xss j) else rowOf xss j) w) (hJ : vs[J]? = some (.slice A m c)) (hml : m = lenOf xss J)
    (hm : Marked w lo 3 1 (.slice A m c) m (k + offOf xss J) e w') : SSk lo hi vs (lenOf xss) (fun j => if j < J + 1 then mks (k + offOf xss j) (lenOf xss j) else rowOf xss j) w' := by
  refine ⟨fun j hj => ?_, h.apart⟩
  obtain ⟨A', m', c', e1, e2, e3⟩ := h.row j hj
  by_cases ej : j = J
  · subst ej
    rw [hJ] at e1
    cases e1
    refine ⟨A, m, c, hJ, hml, ?_, e3.2⟩
    rw [if_pos (by omega), ← hml]
    have := hm.2.1
    rwa [Nat.mul_one] at this
  · refine ⟨A', m', c', e1, e2, ?_, e3.2⟩
    have hne : (Value.slice A' m' c').ownBlock = none ∨ (Value.slice A' m' c').ownBlock ≠ (Value.slice A m c).ownBlock := by
      cases hb : (Value.slice A' m' c').ownBlock with
      | none => exact .inl rfl
      | some q => exact .inr fun e => h.apart j J _ _ q ej e1 hJ hb e.symm
    have := e3.1.kept hm.2.2 hne
    have hif : (if j < J + 1 then mks (k + offOf xss j) (lenOf xss j) else rowOf xss j) = (if j < J then mks (k + offOf xss j) (lenOf xss j) else rowOf xss j) := by
      by_cases h1 : j < J
      · rw [if_pos (by omega), if_pos h1]
      · rw [if_neg (by omega), if_neg h1]
    rw [hif]
    exact this
theorem OwSS.nil (lo hi : Nat) (w : World) : OwSS lo hi (.slice none 0 0) 0 [] w := ⟨rfl, [], OwR.nil _ _ _ _ _, ⟨fun j hj => by simp at hj, fun i j v u k _ h => by simp at h⟩⟩
end Go.Proofs.Ytkfglodjnnlbkaa

namespace Go.Proofs.Ytkfglodjnnlbkaa
set_option linter.unusedSimpArgs false
set_option linter.unusedVariables false
open Go.RowKit
theorem OwSS.snoc {base k : Nat} {v v' : Value} {xss : List (List Int)} {D : List Int} {A : Option Addr} {m c : Nat} {wr w5 w6 : World} {vs : List Value} {o : Obj} (hrow : wr.ownsRow base 26 1 v k vs) (hss : SSk base wr.heap.size vs (lenOf xss) (rowOf xss) wr) (hk : k = xss.length) (hb : Below wr.heap.size wr w5)
    (hd : w5.ownsRow wr.heap.size 3 1 (.slice A m c) m (D.map (Value.int .i64))) (hm : m = D.length) (happ : w6.ownsRow base 26 1 v' (k + 1) (vs ++ [.slice A m c])) (hgrow : (w5.alloc o).grownBy w6 v.ownBlock) (hbs : base ≤ wr.heap.size) : OwSS base w6.heap.size v' (k + 1) (xss ++ [D]) w6 := by
  have hvl : vs.length = k := by have := hrow.1; omega
  have hrow5 := (own_below hrow hb).alloc o
  have hss5 : SSk base wr.heap.size vs (lenOf xss) (rowOf xss) (w5.alloc o) := (hss.keep fun q _ hq => hb.block q hq).keep fun q _ hq => Below.heap_alloc _ _ _ (Nat.lt_of_lt_of_le hq hb.size)
  have hss6 : SSk base wr.heap.size vs (lenOf xss) (rowOf xss) w6 := hss5.grown hgrow (hss5.ne hrow5 ints_ne_int)
  have hd6 : w6.ownsRow wr.heap.size 3 1 (.slice A m c) m (D.map (Value.int .i64)) := (hd.alloc o).kept hgrow (blocks_ne (hd.alloc o) hrow5 ints_ne_int)
  refine ⟨by rw [List.length_append, hk]; rfl, vs ++ [.slice A m c], OwR.start happ, ?_⟩
  refine hss6.put (hi' := w6.heap.size) (lens' := lenOf (xss ++ [D])) (cont' := rowOf (xss ++ [D])) (A := A) (m := m) (c := c) k ?_ ?_ ?_ ?_ ?_ ?_ hbs ?_
  · rw [List.getElem?_append_right (by omega), hvl, Nat.sub_self]; rfl
  · intro j hj
    rcases Nat.lt_or_ge j vs.length with h1 | h1
    · rw [List.getElem?_append_left h1]
    · rw [List.getElem?_eq_none h1, List.getElem?_eq_none (by simp; omega)]
  · intro j hj hjk; simp at hj; omega
  · rw [hm]; unfold lenOf; simp [List.getD, hk]
  · intro j hj
    have : (xss ++ [D]).getD j [] = xss.getD j [] := by
      rcases Nat.lt_or_ge j xss.length with h1 | h1
      · simp [List.getD, List.getElem?_append_left h1]
      · rw [List.getD, List.getElem?_eq_none (by simp; omega), List.getD, List.getElem?_eq_none h1]
    unfold lenOf rowOf
    rw [this]
    exact ⟨rfl, rfl⟩
  · refine ⟨?_, fun q hq => (hd6.lt q hq).2⟩
    have : rowOf (xss ++ [D]) k = D.map (Value.int .i64) := by unfold rowOf; simp [List.getD, hk]
    rw [this]; exact hd6
  · have h1 := hgrow.size; simp at h1; have := hb.size; omega
end Go.Proofs.Ytkfglodjnnlbkaa

namespace Go.Proofs.Ytkfglodjnnlbkaa
set_option linter.unusedSimpArgs false
set_option linter.unusedVariables false
open Go.RowKit
section
variable {w w' : World} {B B' C : Nat} {A E : Option Addr} {e : Eg}
theorem ES.loc (B : Nat) (A E : Option Addr) (e : Eg) : Loc 0 B fun w => ES w B A E e := (IS.loc B A e.vs).and (SS.loc B E e.rs)
end
set_option maxHeartbeats 400000 in
theorem laws_szIntS (A : Option Addr) (n c : Nat) (l : Int) (w : World) (hl0 : 0 ≤ l) (hl : l ≤ 2000000) (hn : n ≤ 9223372036854775807) :
    Calls Try.prog 75 #[.slice A n c, .int .i64 l] w fun e w' => e = .returned (.int .i64 (leftOf l n)) ∧ Below w.heap.size w w' := by
  unfold leftOf
  by_cases h : (n : Int) ≤ l
  · rw [if_pos h]
    have h' : ¬ l - n < 0 := by omega
    go_enter Try.func75, Try.ntmps75
    go_wp2
    go_ret
    exact ⟨rfl, Below.refl _ _⟩
  · rw [if_neg h]
    have h' : l - n < 0 := by omega
    go_enter Try.func75, Try.ntmps75
    go_wp2
    go_ret
    exact ⟨rfl, Below.refl _ _⟩
end Go.Proofs.Ytkfglodjnnlbkaa

namespace Go.Proofs.Ytkfglodjnnlbkaa
set_option linter.unusedSimpArgs false
set_option linter.unusedVariables false
open Go.RowKit
-- WANT impl_inRange spec_inRange impl_allInRange spec_allIn impl_copyOf spec_copyIntsA spec_copyInts RetI OwnI form nil Bl turn refl le alloc step MkW MkS leftOf leftOf_ok leftOf_no mark_ints held_ints markw_ints row_start laws_eqIntS laws_toIntS laws_markIntS laws_heldIntS box_new own_start below_of_drew As IS ints it loc mono keep Tch OwR own_form below more cell own_below set_getD getD_ne take_step take_all_eq take_succ_getD bcell RetT RetF RetB run_append1 append1 spec_append lt start setCell own lengths
theorem OS.loc (B : Nat) (A : Option Addr) (ds : List On) : Loc 0 B fun w => OS w B A ds :=
  fun w w' h hk => h.keep fun p hp => World.cell?_of_block (hk p.block (Nat.zero_le _) hp)
def osz (ds : List On) : Nat := ds.length + ((rowsO ds).map List.length).sum
theorem OB.of_osz {ds : List On} (h : osz ds ≤ 1048576) : OB ds := OB.of_sum (by unfold osz at h; omega) (by unfold osz at h; omega)
theorem OwO.loc (lo hi : Nat) (v : Value) (n : Nat) (ds : List On) : Loc lo hi (OwO lo hi v n ds) := fun w w' h hk => h.keep hk
theorem owners_start {lo n : Nat} {v : Value} {ds : List On} {w : World} (h : OwO lo w.heap.size v n ds w) : As lo w.heap.size (OwO lo w.heap.size v n ds) w := ⟨h, Nat.le_refl _, OwO.loc _ _ _ _ _⟩
theorem As.owners {lo hi n c : Nat} {A : Option Addr} {ds : List On} {w : World} (h : As lo hi (OwO lo hi (.slice A n c) n ds) w) : OS w w.heap.size A ds := h.it.owners.more h.le
end Go.Proofs.Ytkfglodjnnlbkaa

namespace Go.Proofs.Ytkfglodjnnlbkaa
set_option linter.unusedSimpArgs false
set_option linter.unusedVariables false
open Go.RowKit
/-- Returns an owner with fresh lists. -/
def RetOn (w : World) (d : On) (e : Ending) (w' : World) : Prop := ∃ (A : Option Addr) (n c : Nat) (A' : Option Addr) (n' c' mid : Nat), e = .returned (.agg #[.int .i64 d.p, .bool d.o, .slice A n c, .slice A' n' c']) ∧ n = d.cl.length ∧ n' = d.cx.length ∧
  OwR w.heap.size mid 3 1 (.slice A n c) n (d.cl.map (Value.int .i64)) w' ∧ OwR mid w'.heap.size 3 1 (.slice A' n' c') n' (d.cx.map (Value.int .i64)) w' ∧ w.heap.size ≤ mid ∧ mid ≤ w'.heap.size ∧ Below w.heap.size w w'
set_option maxRecDepth 100000 in
set_option maxHeartbeats 1600000 in
theorem laws_toOwner (p : Int) (o : Bool) (A A' : Option Addr) (n c n' c' : Nat) (xs ys : List Int) (w : World) (B : Nat) (hB : B ≤ w.heap.size) (hn : n = xs.length) (hn' : n' = ys.length) (h : IS w B A xs) (h' : IS w B A' ys) (hs : n ≤ 2000000) (hs' : n' ≤ 2000000) :
    Calls Try.prog 64 #[.agg #[.int .i64 p, .bool o, .slice A n c, .slice A' n' c']] w fun e w' => RetOn w ⟨p, o, xs, ys⟩ e w' := by
  have HC1 := Lib.hid fun (w : World) (hB : B ≤ w.heap.size) (h : IS w B A xs) => laws_toIntS A n c xs w B hB hn h hs
  have HC2 := Lib.hid fun (w : World) (hB : B ≤ w.heap.size) (h : IS w B A' ys) => laws_toIntS A' n' c' ys w B hB hn' h hs'
  have HN := Lib.hid hn
  have HN' := Lib.hid hn'
  have HIS := Lib.hid h
  have HIS' := Lib.hid h'
  have hB0 : Below w.heap.size w (((w.alloc (.cells #[.int .i64 p, .bool o, .slice A n c, .slice A' n' c'] 70)).alloc (.cells #[.int .i64 0, .bool false, .slice none 0 0, .slice none 0 0] 30)).alloc (.cells #[.int .i64 p, .bool o, .slice none 0 0, .slice none 0 0] 30)) := (((Below.refl _ _).alloc (Nat.le_refl _) _).alloc (by simp) _).alloc (by simp; omega) _
  have X0 := Lib.hid (((box4_start w (.int .i64 p) (.bool o) (.slice A n c) (.slice A' n' c') 70).alloc (.cells #[.int .i64 0, .bool false, .slice none 0 0, .slice none 0 0] 30)).alloc (.cells #[.int .i64 p, .bool o, .slice none 0 0, .slice none 0 0] 30))
  have X1 := Lib.hid ((box4_start (w.alloc (.cells #[.int .i64 p, .bool o, .slice A n c, .slice A' n' c'] 70)) (.int .i64 0) (.bool false) (.slice none 0 0) (.slice none 0 0) 30).alloc (.cells #[.int .i64 p, .bool o, .slice none 0 0, .slice none 0 0] 30))
  have X2 := Lib.hid (box4_start ((w.alloc (.cells #[.int .i64 p, .bool o, .slice A n c, .slice A' n' c'] 70)).alloc (.cells #[.int .i64 0, .bool false, .slice none 0 0, .slice none 0 0] 30)) (.int .i64 p) (.bool o) (.slice none 0 0) (.slice none 0 0) 30)
  clear hn hn' h h'
  simp only [World.size_alloc] at X0 X1 X2
  go_enter Try.func64, Try.ntmps64
  go_wp2_with fail
  generalize hW0 : (((w.alloc (.cells #[.int .i64 p, .bool o, .slice A n c, .slice A' n' c'] 70)).alloc (.cells #[.int .i64 0, .bool false, .slice none 0 0, .slice none 0 0] 30)).alloc (.cells #[.int .i64 p, .bool o, .slice none 0 0, .slice none 0 0] 30)) = W1 at *
  have hw0 : W1.heap.size = w.heap.size + 3 := by rw [← hW0]; simp
  clear hW0
  have hw1a : w.heap.size + 3 ≤ W1.heap.size := by omega
  have hw1b : W1.heap.size ≤ w.heap.size + 3 := by omega
  have HI1 := Lib.hid (HIS.out.below hB0 hB)
  have HI1' := Lib.hid (HIS'.out.below hB0 hB)
  have Y0 := X0
  have Y1 := X1
  have Y2 := X2
  have hB1 := hB0
  clear X0 X1 X2 hB0 HIS HIS' hw0
  have HB1 := Lib.hid hB1
  refine (HC1.out W1 (Nat.le_trans hB hB1.size) HI1.out).mono ?_
  rintro e w2 ⟨rfl, ho1, hb1⟩
  have hs2 := hb1.size
  have Z0 := Lib.hid (Y0.out.step hb1 (by omega))
  have Z1 := Lib.hid (Y1.out.step hb1 (by omega))
  have Z2 := Lib.hid (Y2.out.step hb1 (by omega))
  have hlt1 : W1.heap.size < w2.heap.size := (ho1.lt _ rfl).2
  have c1 := Z0.out.c3
  have d0 := Z2.out.c2
  have d1 := Z2.out.f 2
  obtain ⟨V1, hV1⟩ : ∃ V : Value, V = .slice (some ⟨W1.heap.size, 0, none⟩) n n := ⟨_, rfl⟩
  obtain ⟨w3, hw3⟩ : ∃ w3 : World, w3 = w2.setCell ⟨w.heap.size + 1 + 1, 2, none⟩ V1 := ⟨_, rfl⟩
  have hs3 : w3.heap.size = w2.heap.size := by rw [hw3]; simp [World.setCell]
  have hbA : Below w.heap.size w w3 := by rw [hw3]; exact (HB1.out.trans (hb1.mono (by omega))).setCell (by simp; omega) _
  have HL2 := Lib.hid (HI1'.out.below (show Below B W1 w3 from by rw [hw3]; exact (hb1.mono (by omega)).setCell (by simp; omega) _) (Nat.le_refl _))
  have Q0 := Lib.hid (show Bx4 _ _ _ _ _ w3 from by rw [hw3]; exact Z0.out.other (by omega))
  have Q1 := Lib.hid (show Bx4 _ _ _ _ _ w3 from by rw [hw3]; exact Z1.out.other (by omega))
  have Q2 := Lib.hid (show Bx4 _ _ _ V1 _ w3 from by rw [hw3]; exact Z2.out.set2)
  have ho2 := ownsRow_setCell_below ho1 (a := ⟨w.heap.size + 1 + 1, 2, none⟩) (by simp; omega) V1
  rw [← hw3] at ho2
  have HO := Lib.hid ho2
  have HV := Lib.hid hV1
  have HB2 := Lib.hid hbA
  have hlt2 : W1.heap.size < w3.heap.size := by omega
  clear hb1 ho1 ho2 Y0 Y1 Y2 Z0 Z1 Z2 HI1 HI1' HC1 HB1 hB1 hbA
  go_wp2_with fail
  rw [← hV1, ← hw3]
  clear hw3 hV1 c1 d0 d1
  refine (HC2.out w3 (by omega) HL2.out).mono ?_
  rintro e w5 ⟨rfl, ho5, hb5⟩
  have hs5 := hb5.size
  have R1 := Lib.hid (Q1.out.step hb5 (by omega))
  have R2 := Lib.hid (Q2.out.step hb5 (by omega))
  have d0 := R2.out.c0
  have d1 := R2.out.c1
  have d2 := R2.out.c2
  have d3 := R2.out.c3
  have f2 := R2.out.f 3
  have e0 := R1.out.c0
  have e1 := R1.out.c1
  have e2 := R1.out.c2
  have e3 := R1.out.c3
  have g0 := R1.out.f 0
  have g1 := R1.out.f 1
  have g2 := R1.out.f 2
  have g3 := R1.out.f 3
  rw [HV.out] at d2
  have hlt5 := ho5.lt _ rfl
  have HO5 := Lib.hid ho5
  have r1 := own_below HO.out hb5
  try rw [HV.out] at r1
  have HR1 := Lib.hid r1
  have HB5 := Lib.hid (HB2.out.trans (hb5.mono (by omega)))
  clear hb5 ho5 Q0 Q1 Q2 R1 R2 HL2 HC2 HO HB2 r1
  go_wp2
  refine bodyPost_ret (v := .agg #[.int .i64 p, .bool o, .slice (some ⟨W1.heap.size, 0, none⟩) n n, .slice (some ⟨w3.heap.size, 0, none⟩) n' n']) (by simp [results, Try.results64, go_sem, d0, d1, d2, d3, e0, e1, e2, e3]) rfl ?_
  have p1 : ∀ x0 x1 x2 x3 x4 : Value, (((((w5.setCell ⟨w.heap.size + 1 + 1, 3, none⟩ x0).setCell ⟨w.heap.size + 1, 0, none⟩ x1).setCell ⟨w.heap.size + 1, 1, none⟩ x2).setCell ⟨w.heap.size + 1, 2, none⟩ x3).setCell ⟨w.heap.size + 1, 3, none⟩ x4).ownsRow W1.heap.size 3 1 (.slice (some ⟨W1.heap.size, 0, none⟩) n n) n (xs.map (Value.int .i64)) := fun x0 x1 x2 x3 x4 => ownsRow_setCell_below (ownsRow_setCell_below (ownsRow_setCell_below (ownsRow_setCell_below (ownsRow_setCell_below (HR1.out) (by simp; omega) _) (by simp; omega) _) (by simp; omega) _) (by simp; omega) _) (by simp; omega) _
  have p2 : ∀ x0 x1 x2 x3 x4 : Value, (((((w5.setCell ⟨w.heap.size + 1 + 1, 3, none⟩ x0).setCell ⟨w.heap.size + 1, 0, none⟩ x1).setCell ⟨w.heap.size + 1, 1, none⟩ x2).setCell ⟨w.heap.size + 1, 2, none⟩ x3).setCell ⟨w.heap.size + 1, 3, none⟩ x4).ownsRow w3.heap.size 3 1 (.slice (some ⟨w3.heap.size, 0, none⟩) n' n') n' (ys.map (Value.int .i64)) := fun x0 x1 x2 x3 x4 => ownsRow_setCell_below (ownsRow_setCell_below (ownsRow_setCell_below (ownsRow_setCell_below (ownsRow_setCell_below (HO5.out) (by simp; omega) _) (by simp; omega) _) (by simp; omega) _) (by simp; omega) _) (by simp; omega) _
  have p3 : ∀ x0 x1 x2 x3 x4 : Value, Below w.heap.size w (((((w5.setCell ⟨w.heap.size + 1 + 1, 3, none⟩ x0).setCell ⟨w.heap.size + 1, 0, none⟩ x1).setCell ⟨w.heap.size + 1, 1, none⟩ x2).setCell ⟨w.heap.size + 1, 2, none⟩ x3).setCell ⟨w.heap.size + 1, 3, none⟩ x4) := fun x0 x1 x2 x3 x4 => ((((HB5.out.setCell (by simp; omega) _).setCell (by simp) _).setCell (by simp) _).setCell (by simp) _).setCell (by simp) _
  generalize hx : Value.slice (some ⟨w2.heap.size, 0, none⟩) n' n' = VX
  have hz : (((((w5.setCell ⟨w.heap.size + 1 + 1, 3, none⟩ VX).setCell ⟨w.heap.size + 1, 0, none⟩ (.int .i64 p)).setCell ⟨w.heap.size + 1, 1, none⟩ (.bool o)).setCell ⟨w.heap.size + 1, 2, none⟩ (.slice (some ⟨W1.heap.size, 0, none⟩) n n)).setCell ⟨w.heap.size + 1, 3, none⟩ VX).heap.size = w5.heap.size := by simp [World.setCell]
  refine ⟨_, _, _, _, _, _, w3.heap.size, rfl, HN.out, HN'.out, ⟨own_mono (p1 _ _ _ _ _) (by omega), fun k hk => by cases hk; exact hlt2⟩, ⟨p2 _ _ _ _ _, fun k hk => by cases hk; rw [hz]; exact hlt5.2⟩, by omega, by rw [hz]; exact hs5, p3 _ _ _ _ _⟩
set_option maxRecDepth 100000 in
set_option maxHeartbeats 1600000 in
theorem laws_toOwnerS (A : Option Addr) (n c : Nat) (ds : List On) (w : World) (B : Nat) (hB : B ≤ w.heap.size) (hn : n = ds.length) (h : OS w B A ds) (hs : OB ds) :
    Calls Try.prog 34 #[.slice A n c] w fun e w' => e = .returned (.slice (some ⟨w.heap.size, 0, none⟩) n n) ∧ OwO w.heap.size w'.heap.size (.slice (some ⟨w.heap.size, 0, none⟩) n n) n ds w' ∧ Below w.heap.size w w' := by
  have hn1 : n ≤ 1048576 := by rw [hn]; exact hs.1
  obtain ⟨i0, hi, hz0, hz1, hz2⟩ := info_parts info_owner
  obtain ⟨w0, hmk, hown0, hgr0⟩ := run_make_full (P := Try.prog) w w.heap.size 23 30 i0 _ 4 Try.underlying23 hi hz0 hz1 .i64 .i64 n (by rw [hz2]; omega) (by unfold maxLen; omega) (Nat.le_refl _)
  have hgl : w.heap.size < w0.heap.size := (hown0.lt _ rfl).2
  have hb0 : Below w.heap.size w w0 := ⟨hgr0.os, hgr0.tape, hgr0.output, hgr0.size, fun k hk => hgr0.block k hk (by simp)⟩
  have HO0 := Lib.hid (made_owners ds hn hown0 (fun j hj => made4 _ _ _ _ n j hj))
  have H := Lib.hid h
  have HN := Lib.hid hn
  have HS := Lib.hid hs
  have HB0 := Lib.hid hb0
  clear hn h hs hown0 hgr0 hb0
  go_enter Try.func34, Try.ntmps34
  go_wp2
  clear hmk
  go_loopw [4] (fun i wr => ∃ k : Nat, k ≤ n ∧ i = .int .i64 k ∧ Hid (OwO w.heap.size wr.heap.size (.slice (some ⟨w.heap.size, 0, none⟩) n n) n (cpO ds n k) wr) ∧ Hid (Below w.heap.size w wr) ∧ w.heap.size < wr.heap.size) (fun i _ => n - (intOf i).toNat)
  case atStart => exact ⟨0, Nat.zero_le _, rfl, HO0.out, HB0.out, hgl⟩
  case round =>
    obtain ⟨k, hk, rfl, HO, HB, hwr⟩ := hrel
    by_cases hlt : k < n
    · obtain ⟨b, off, rfl, hbB, c0, c1, ⟨A1, n1, d1, c2, hn1', hp1⟩, A2, n2, d2, c3, hn2', hp2⟩ := H.out.at_ k (by have := HN.out; omega)
      have hnb := HS.out.2.2 k
      have e0 := (HB.out.cell (p := ⟨b, off + k * 4, none⟩) (by simp; omega)).trans c0
      have e1 := (HB.out.cell (p := ⟨b, off + k * 4 + 1, none⟩) (by simp; omega)).trans c1
      have e2 := (HB.out.cell (p := ⟨b, off + k * 4 + 2, none⟩) (by simp; omega)).trans c2
      have e3 := (HB.out.cell (p := ⟨b, off + k * 4 + 3, none⟩) (by simp; omega)).trans c3
      have HP1 := Lib.hid (hp1.below HB.out hB)
      have HP2 := Lib.hid (hp2.below HB.out hB)
      have HSU := Lib.hid (cpO_succ ds n k HN.out hlt)
      generalize ds.getD k default = d at *
      obtain ⟨dp, dO, dcl, dcx⟩ := d
      dsimp only at *
      have HN1 := Lib.hid hn1'
      have HN2 := Lib.hid hn2'
      have hb1 : n1 ≤ 2000000 := by omega
      have hb2 : n2 ≤ 2000000 := by omega
      clear c0 c1 c2 c3 hp1 hp2 hn1' hn2' hnb H
      go_wp2_with fail
      refine (laws_toOwner dp dO A1 A2 n1 d1 n2 d2 dcl dcx _ B (by omega) HN1.out HN2.out HP1.out HP2.out hb1 hb2).mono ?_
      rintro e w1 ⟨A3, n3, c3, A4, n4, c4, mid, rfl, hn3, hn4, ho3, ho4, hm1, hm2, hb3⟩
      have HW1 := Lib.hid (HO.out.keep (w' := w1) fun q _ hq => hb3.block q hq)
      obtain ⟨-, xs, us, hr, -⟩ := HW1.out
      have hxl : xs.length = n * 4 := hr.1.1
      have u0 := hr.1.cellAt (k * 4) (by omega)
      have u1 := hr.1.cellAt (k * 4 + 1) (by omega)
      have u2 := hr.1.cellAt (k * 4 + 2) (by omega)
      have u3 := hr.1.cellAt (k * 4 + 3) (by omega)
      rw [List.getElem?_eq_getElem (by omega)] at u0 u1 u2 u3
      have f0 := hr.1.frozenAt (k * 4)
      have f1 := hr.1.frozenAt (k * 4 + 1)
      have f2 := hr.1.frozenAt (k * 4 + 2)
      have f3 := hr.1.frozenAt (k * 4 + 3)
      generalize xs[k * 4]'(by omega) = v0 at u0
      generalize xs[k * 4 + 1]'(by omega) = v1 at u1
      generalize xs[k * 4 + 2]'(by omega) = v2 at u2
      generalize xs[k * 4 + 3]'(by omega) = v3 at u3
      have HNEW := Lib.hid (HW1.out.put (d := ⟨dp, dO, dcl, dcx⟩) hlt hn3 hn4 ho3 ho4 (by omega) hm1 hm2)
      have HB3 := Lib.hid (put4_below (HB.out.trans (hb3.mono HB.out.size)) (Nat.le_refl w.heap.size) (k * 4) (.int .i64 dp) (.bool dO) (.slice A3 n3 c3) (.slice A4 n4 c4))
      have HS3 := Lib.hid hb3.size
      have hs4 : w.heap.size < w1.heap.size := by have := hb3.size; omega
      clear hr hxl HW1 ho3 ho4 hb3 hn3 hn4 HO HB hm1 hm2 hb1 hb2 hwr
      go_wp2
      go_roundw
      case rel =>
        refine ⟨k + 1, by omega, by go_num, ?_, HB3.out, ?_⟩
        · have h1 := HNEW.out
          rw [HSU.out] at h1
          show OwO _ (put4 w1 w.heap.size (k * 4) _ _ _ _).heap.size _ _ _ (put4 w1 w.heap.size (k * 4) _ _ _ _)
          rw [put4_size]
          exact h1
        · show _ < (put4 w1 w.heap.size (k * 4) _ _ _ _).heap.size
          rw [put4_size]; exact hs4
      case measure => simp [intOf]; omega
    · go_wp2
      go_ret
      have hkn : k = n := by omega
      subst hkn
      have h1 := HO.out
      rw [cpO_all ds k HN.out] at h1
      exact ⟨by simp, h1, HB.out⟩
end Go.Proofs.Ytkfglodjnnlbkaa

namespace Go.Proofs.Ytkfglodjnnlbkaa
set_option linter.unusedSimpArgs false
set_option linter.unusedVariables false
open Go.RowKit
set_option maxHeartbeats 800000 in
theorem laws_szOwner (p : Int) (o : Bool) (A A' : Option Addr) (n c n' c' : Nat) (l : Int) (w : World) (hl0 : 0 ≤ l) (hl : l ≤ 2000000) (hn : n ≤ 9223372036854775807) (hn' : n' ≤ 9223372036854775807) :
    Calls Try.prog 63 #[.agg #[.int .i64 p, .bool o, .slice A n c, .slice A' n' c'], .int .i64 l] w fun e w' => e = .returned (.int .i64 (leftOf l (n + n'))) ∧ Below w.heap.size w w' := by
  have HC1 := Lib.hid fun (w : World) => laws_szIntS A n c l w hl0 hl hn
  by_cases h1 : (n : Int) ≤ l
  · rw [leftOf_ok h1] at HC1
    have HC2 := Lib.hid fun (w : World) => laws_szIntS A' n' c' (l - n) w (by omega) (by omega) hn'
    have hL : leftOf l (n + n') = leftOf (l - n) n' := by
      unfold leftOf; split <;> split <;> omega
    rw [hL]
    have hL2 : leftOf (l - n) n' = -1 ∨ 0 ≤ leftOf (l - n) n' := by unfold leftOf; split <;> omega
    generalize leftOf (l - n) n' = L at *
    have hq1 : ¬ l - n < 0 := by omega
    clear hL
    rcases hL2 with rfl | hL2
    all_goals
      go_enter Try.func63, Try.ntmps63
      go_wp2_with fail
      refine (HC1.out _).mono ?_
      rintro e w1 ⟨rfl, hb⟩
      have q1 : w1.cell? ⟨w.heap.size, 3, none⟩ = some (.slice A' n' c') := (hb.cell (p := ⟨w.heap.size, 3, none⟩) (by simp)).trans (by go_simp)
      have hs1 : w.heap.size < w1.heap.size := by have := hb.size; simp at this; omega
      go_wp2_with fail
      refine (HC2.out _).mono ?_
      rintro e w2 ⟨rfl, hb2⟩
      go_wp2
      go_ret
      exact ⟨rfl, (((Below.refl _ _).alloc (Nat.le_refl _) _).trans (hb.mono (by simp))).trans (hb2.mono (by omega))⟩
  · rw [leftOf_no h1] at HC1
    have hL : leftOf l (n + n') = -1 := by unfold leftOf; rw [if_neg (by omega)]
    rw [hL]
    clear hL
    go_enter Try.func63, Try.ntmps63
    go_wp2_with fail
    refine (HC1.out _).mono ?_
    rintro e w1 ⟨rfl, hb⟩
    go_wp2
    go_ret
    exact ⟨rfl, ((Below.refl _ _).alloc (Nat.le_refl _) _).trans (hb.mono (by simp))⟩
theorem offO_cl (ds : List On) (k : Nat) (h : k < ds.length) : offOf (rowsO ds) (k * 2 + 1) = offOf (rowsO ds) (k * 2) + (ds.getD k default).cl.length := by
  rw [offOf_succ _ _ (by rw [rowsO_len]; omega), lenOfO, rowO_cl]
theorem offO_cx (ds : List On) (k : Nat) (h : k < ds.length) : offOf (rowsO ds) ((k + 1) * 2) = offOf (rowsO ds) (k * 2 + 1) + (ds.getD k default).cx.length := by
  rw [show (k + 1) * 2 = (k * 2 + 1) + 1 by omega, offOf_succ _ _ (by rw [rowsO_len]; omega), lenOfO, rowO_cx]
theorem offO_succ (ds : List On) (k : Nat) (h : k < ds.length) : offOf (rowsO ds) ((k + 1) * 2) = offOf (rowsO ds) (k * 2) + ((ds.getD k default).cl.length + (ds.getD k default).cx.length) := by
  rw [offO_cx ds k h, offO_cl ds k h]; omega
theorem offO_all (ds : List On) : offOf (rowsO ds) (ds.length * 2) = ((rowsO ds).map List.length).sum := by rw [← rowsO_len, offOf_all]
set_option maxRecDepth 100000 in
set_option maxHeartbeats 800000 in
theorem laws_szOwnerS (A : Option Addr) (n c : Nat) (ds : List On) (l : Int) (w : World) (B : Nat) (hB : B ≤ w.heap.size) (hn : n = ds.length) (h : OS w B A ds) (hl0 : 0 ≤ l) (hl : l ≤ 2000000) (hm : n ≤ 9223372036854775807) (hm' : ∀ j, (ds.getD j default).cl.length ≤ 9223372036854775807 ∧ (ds.getD j default).cx.length ≤ 9223372036854775807) :
    Calls Try.prog 33 #[.slice A n c, .int .i64 l] w fun e w' => e = .returned (.int .i64 (leftOf l (osz ds))) ∧ Below w.heap.size w w' := by
  by_cases hln : l - n < 0
  · have e : leftOf l (osz ds) = -1 := by unfold leftOf; rw [if_neg (by unfold osz; omega)]
    rw [e]
    clear e h hn hm'
    go_enter Try.func33, Try.ntmps33
    go_wp2
    go_ret
    exact ⟨rfl, Below.refl _ _⟩
  have H := Lib.hid h
  have HN := Lib.hid hn
  have HM := Lib.hid hm'
  clear hn h hm'
  go_enter Try.func33, Try.ntmps33
  go_wp2
  go_loopw [5, 1] (fun i u wr => ∃ (k : Nat) (q : Int), k ≤ n ∧ i = .int .i64 k ∧ u = .int .i64 q ∧ 0 ≤ q ∧ q ≤ 2000000 ∧ Hid (q = l - n - (offOf (rowsO ds) (k * 2) : Nat)) ∧ Below w.heap.size w wr) (fun i _ _ => n - (intOf i).toNat)
  case atStart => exact ⟨0, l - n, Nat.zero_le _, rfl, rfl, by omega, by omega, by simp [Hid, offOf], Below.refl _ _⟩
  case round =>
    obtain ⟨k, q, hk, rfl, rfl, hq0, hq, HQ, hb⟩ := hrel
    by_cases hlt : k < n
    · obtain ⟨b, off, rfl, hbB, c0, c1, ⟨A1, n1, d1, c2, hn1', hp1⟩, A2, n2, d2, c3, hn2', hp2⟩ := H.out.at_ k (by have := HN.out; omega)
      have hnb := HM.out k
      have b0 := (hb.cell (p := ⟨b, off + k * 4, none⟩) (by simp; omega)).trans c0
      have b1 := (hb.cell (p := ⟨b, off + k * 4 + 1, none⟩) (by simp; omega)).trans c1
      have b2 := (hb.cell (p := ⟨b, off + k * 4 + 2, none⟩) (by simp; omega)).trans c2
      have b3 := (hb.cell (p := ⟨b, off + k * 4 + 3, none⟩) (by simp; omega)).trans c3
      have hst := offO_succ ds k (by have := HN.out; omega)
      have htl := offOf_le (rowsO ds) ((k + 1) * 2)
      clear c0 c1 c2 c3 hp1 hp2 H
      generalize ds.getD k default = d at *
      obtain ⟨dp, dO, dcl, dcx⟩ := d
      dsimp only at *
      have hnb1 : n1 ≤ 9223372036854775807 := by omega
      have hnb2 : n2 ≤ 9223372036854775807 := by omega
      rw [← hn1', ← hn2'] at hst
      have HST := Lib.hid hst
      have HTL := Lib.hid htl
      clear hst htl hn1' hn2' hnb
      have HC := Lib.hid fun (w : World) => laws_szOwner dp dO A1 A2 n1 d1 n2 d2 q w hq0 hq hnb1 hnb2
      by_cases h1 : ((n1 + n2 : Nat) : Int) ≤ q
      · rw [leftOf_ok h1] at HC
        obtain ⟨q2, hq2⟩ : ∃ q2 : Int, q2 = q - ((n1 + n2 : Nat) : Int) := ⟨_, rfl⟩
        rw [← hq2] at HC
        have hq3 : 0 ≤ q2 := by omega
        have hq4 : q2 ≤ 2000000 := by omega
        have HQ2 := Lib.hid hq2
        clear hq2 h1
        go_wp2_with fail
        refine (HC.out _).mono ?_
        rintro e w' ⟨rfl, hb1⟩
        go_wp2
        go_roundw
        case rel => exact ⟨k + 1, q2, by omega, by go_num, rfl, hq3, hq4, by have a1 := HST.out; have a3 := HQ2.out; have a4 := HQ.out; show q2 = _; omega, hb.trans (hb1.mono hb.size)⟩
        case measure => simp [intOf]; omega
      · rw [leftOf_no h1] at HC
        have HQ1 := Lib.hid h1
        clear h1
        go_wp2_with fail
        refine (HC.out _).mono ?_
        rintro e w' ⟨rfl, hb1⟩
        go_wp2
        go_ret
        refine ⟨ret_i ?_, hb.trans (hb1.mono hb.size)⟩
        unfold leftOf
        rw [if_neg]
        have a1 := HST.out; have a2 := HTL.out; have a3 := HQ1.out; have a4 := HQ.out; have a5 := HN.out
        unfold osz
        omega
    · obtain rfl : k = n := by omega
      go_wp2
      go_ret
      refine ⟨ret_i ?_, hb⟩
      have a4 := HQ.out
      have a5 := HN.out
      rw [a5, offO_all] at a4
      unfold leftOf
      rw [if_pos (by unfold osz; omega), a4]
      unfold osz
      omega
def eqOn (d e : On) : Bool := decide (d = e)
theorem eqOn_iff (d e : On) : eqOn d e = true ↔ d = e := by simp [eqOn]
set_option maxRecDepth 100000 in
set_option maxHeartbeats 800000 in
theorem laws_eqOwner (p p' : Int) (o o' : Bool) (A A' E E' : Option Addr) (n c n' c' m d m' d' : Nat) (xs ys xs' ys' : List Int) (w : World) (B : Nat) (hB : B ≤ w.heap.size) (hn : n = xs.length) (hn' : n' = ys.length) (hm : m = xs'.length) (hm' : m' = ys'.length)
    (h : IS w B A xs) (h' : IS w B A' ys) (k : IS w B E xs') (k' : IS w B E' ys') (hs : n ≤ 2000000) (hs' : n' ≤ 2000000) (hs2 : m ≤ 2000000) (hs2' : m' ≤ 2000000) :
    Calls Try.prog 65 #[.agg #[.int .i64 p, .bool o, .slice A n c, .slice A' n' c'], .agg #[.int .i64 p', .bool o', .slice E m d, .slice E' m' d']] w fun e w' => e = .returned (.bool (eqOn ⟨p, o, xs, ys⟩ ⟨p', o', xs', ys'⟩)) ∧ Below w.heap.size w w' := by
  have hd : eqOn ⟨p, o, xs, ys⟩ ⟨p', o', xs', ys'⟩ = (!(p != p') && (!(o != o') && (decide (xs = xs') && decide (ys = ys')))) := by
    simp only [eqOn, On.mk.injEq]
    by_cases h1 : p = p' <;> by_cases h2 : o = o' <;> by_cases h3 : xs = xs' <;> by_cases h4 : ys = ys' <;> simp [h1, h2, h3, h4]
  rw [hd]
  have HC1 := Lib.hid fun (w : World) (hB : B ≤ w.heap.size) (h : IS w B A xs) (k : IS w B E xs') => laws_eqIntS A E n m c d xs xs' w B hB hn hm h k hs hs2
  have HC2 := Lib.hid fun (w : World) (hB : B ≤ w.heap.size) (h : IS w B A' ys) (k : IS w B E' ys') => laws_eqIntS A' E' n' m' c' d' ys ys' w B hB hn' hm' h k hs' hs2'
  have H1 := Lib.hid h
  have H2 := Lib.hid h'
  have K1 := Lib.hid k
  have K2 := Lib.hid k'
  generalize decide (xs = xs') = b1 at *
  generalize decide (ys = ys') = b2 at *
  clear hd hn hn' hm hm' h h' k k'
  cases hp : (p != p')
  · by_cases ho : o = o'
    · subst ho
      cases o
      all_goals
          cases b1
          · go_enter Try.func65, Try.ntmps65
            go_wp2_with fail
            refine (HC1.out _ (by simp; omega) ((H1.out.alloc hB _).alloc (by simp; omega) _) ((K1.out.alloc hB _).alloc (by simp; omega) _)).mono ?_
            rintro e w1 ⟨rfl, hb⟩
            go_wp2
            go_ret
            exact ⟨rfl, (((Below.refl _ _).alloc (Nat.le_refl _) _).alloc (by simp) _).trans (hb.mono (by simp; omega))⟩
          · cases b2
            all_goals
              go_enter Try.func65, Try.ntmps65
              go_wp2_with fail
              refine (HC1.out _ (by simp; omega) ((H1.out.alloc hB _).alloc (by simp; omega) _) ((K1.out.alloc hB _).alloc (by simp; omega) _)).mono ?_
              rintro e w1 ⟨rfl, hb⟩
              have q1 : w1.cell? ⟨w.heap.size, 3, none⟩ = some (.slice A' n' c') := (hb.cell (p := ⟨w.heap.size, 3, none⟩) (by simp; omega)).trans (by go_simp)
              have q2 : w1.cell? ⟨w.heap.size + 1, 3, none⟩ = some (.slice E' m' d') := (hb.cell (p := ⟨w.heap.size + 1, 3, none⟩) (by simp)).trans (by go_simp)
              have hs1 : w.heap.size + 2 ≤ w1.heap.size := by have := hb.size; simp at this; omega
              have H3 := Lib.hid (show IS w1 B A' ys from ((H2.out.alloc hB _).alloc (by simp; omega) _).below hb (by simp; omega))
              have H4 := Lib.hid (show IS w1 B E' ys' from ((K2.out.alloc hB _).alloc (by simp; omega) _).below hb (by simp; omega))
              go_wp2_with fail
              refine (HC2.out _ (by omega) H3.out H4.out).mono ?_
              rintro e w2 ⟨rfl, hb2⟩
              go_wp2
              go_ret
              exact ⟨rfl, ((((Below.refl _ _).alloc (Nat.le_refl _) _).alloc (by simp) _).trans (hb.mono (by simp; omega))).trans (hb2.mono (by omega))⟩
    · have ho2 : (o = true ∧ o' = false) ∨ (o = false ∧ o' = true) := by cases o <;> cases o' <;> simp_all
      rcases ho2 with ⟨rfl, rfl⟩ | ⟨rfl, rfl⟩
      all_goals
        go_enter Try.func65, Try.ntmps65
        go_wp2
        go_ret
        exact ⟨rfl, ((Below.refl _ _).alloc (Nat.le_refl _) _).alloc (by simp) _⟩
  · go_enter Try.func65, Try.ntmps65
    go_wp2
    go_ret
    exact ⟨rfl, ((Below.refl _ _).alloc (Nat.le_refl _) _).alloc (by simp) _⟩
set_option maxRecDepth 100000 in
set_option maxHeartbeats 1600000 in
theorem laws_eqOwnerS (A A' : Option Addr) (n n' c c' : Nat) (gs hs : List On) (w : World) (B : Nat) (hB : B ≤ w.heap.size) (hn : n = gs.length) (hn' : n' = hs.length) (h : OS w B A gs) (h' : OS w B A' hs) (hb1 : OB gs) (hb2 : OB hs) :
    Calls Try.prog 35 #[.slice A n c, .slice A' n' c'] w fun e w' => e = .returned (.bool (decide (gs = hs))) ∧ Below w.heap.size w w' := by
  have hm1 : n ≤ 1048576 := by rw [hn]; exact hb1.1
  have hm2 : n' ≤ 1048576 := by rw [hn']; exact hb2.1
  by_cases hl : n = n'
  · have hne : ((n : Int) != (n' : Int)) = false := by simp [hl]
    have HL := Lib.hid hl
    have HN := Lib.hid hn
    have HN' := Lib.hid hn'
    have H := Lib.hid h
    have H' := Lib.hid h'
    have HB1 := Lib.hid hb1
    have HB2 := Lib.hid hb2
    clear hl hn hn' h h' hb1 hb2
    go_enter Try.func35, Try.ntmps35
    go_wp2
    go_loopw [5] (fun i wr => ∃ k : Nat, k ≤ n ∧ i = .int .i64 k ∧ Hid (gs.take k = hs.take k) ∧ Below w.heap.size w wr) (fun i _ => n - (intOf i).toNat)
    case atStart => exact ⟨0, Nat.zero_le _, rfl, by simp [Hid], Below.refl _ _⟩
    case round =>
      obtain ⟨k, hk, rfl, HT, hb⟩ := hrel
      by_cases hlt : k < n
      · obtain ⟨b, off, rfl, hbB, c0, c1, ⟨A1, n1, d1, c2, hn1', hp1⟩, A2, n2, d2, c3, hn2', hp2⟩ := H.out.at_ k (by have := HN.out; omega)
        obtain ⟨b', off', rfl, hbB', e0, e1, ⟨A3, n3, d3, e2, hn3', hp3⟩, A4, n4, d4, e3, hn4', hp4⟩ := H'.out.at_ k (by have := HN'.out; have := HL.out; omega)
        have hx1 := HB1.out.2.2 k
        have hx2 := HB2.out.2.2 k
        clear H H'
        have hlt' : k < n' := by have := HL.out; omega
        have b0 := (hb.cell (p := ⟨b, off + k * 4, none⟩) (by simp; omega)).trans c0
        have b1 := (hb.cell (p := ⟨b, off + k * 4 + 1, none⟩) (by simp; omega)).trans c1
        have b2 := (hb.cell (p := ⟨b, off + k * 4 + 2, none⟩) (by simp; omega)).trans c2
        have b3 := (hb.cell (p := ⟨b, off + k * 4 + 3, none⟩) (by simp; omega)).trans c3
        have g0 := (hb.cell (p := ⟨b', off' + k * 4, none⟩) (by simp; omega)).trans e0
        have g1 := (hb.cell (p := ⟨b', off' + k * 4 + 1, none⟩) (by simp; omega)).trans e1
        have g2 := (hb.cell (p := ⟨b', off' + k * 4 + 2, none⟩) (by simp; omega)).trans e2
        have g3 := (hb.cell (p := ⟨b', off' + k * 4 + 3, none⟩) (by simp; omega)).trans e3
        have HP1 := Lib.hid (hp1.below hb hB)
        have HP2 := Lib.hid (hp2.below hb hB)
        have HP3 := Lib.hid (hp3.below hb hB)
        have HP4 := Lib.hid (hp4.below hb hB)
        clear c0 c1 c2 c3 e0 e1 e2 e3 hp1 hp2 hp3 hp4
        generalize hp : gs.getD k default = p at *
        generalize hq : hs.getD k default = q at *
        obtain ⟨pp, po, pcl, pcx⟩ := p
        obtain ⟨qp, qo, qcl, qcx⟩ := q
        dsimp only at *
        have HP := Lib.hid hp
        have HQ := Lib.hid hq
        have HC := Lib.hid fun (w' : World) (hB : B ≤ w'.heap.size) (a1 : IS w' B A1 pcl) (a2 : IS w' B A2 pcx) (a3 : IS w' B A3 qcl) (a4 : IS w' B A4 qcx) => laws_eqOwner pp qp po qo A1 A2 A3 A4 n1 d1 n2 d2 n3 d3 n4 d4 pcl pcx qcl qcx w' B hB hn1' hn2' hn3' hn4' a1 a2 a3 a4 (by omega) (by omega) (by omega) (by omega)
        have HEQ := Lib.hid (eqOn_iff ⟨pp, po, pcl, pcx⟩ ⟨qp, qo, qcl, qcx⟩)
        generalize eqOn ⟨pp, po, pcl, pcx⟩ ⟨qp, qo, qcl, qcx⟩ = r at *
        clear hp hq hn1' hn2' hn3' hn4' hx1 hx2
        go_wp2
        go_still_tail 8, (by kernel_rfl)
        go_wp2_with fail
        refine (HC.out wr.drew (Nat.le_trans hB hb.size) HP1.out HP2.out HP3.out HP4.out).mono ?_
        rintro e w1 ⟨rfl, hb1⟩
        cases r
        · go_wp2
          go_ret
          refine ⟨ret_b ?_, hb.drew.trans (hb1.mono hb.size)⟩
          have hne : gs.getD k default ≠ hs.getD k default := by
            rw [HP.out, HQ.out]; intro e; exact absurd (HEQ.out.2 e) (by simp)
          simp [getD_ne gs hs k hne]
        · have he : gs.getD k default = hs.getD k default := by
            rw [HP.out, HQ.out]; exact HEQ.out.1 rfl
          have HTS := Lib.hid (take_step gs hs k (by have := HN.out; omega) (by have := HN'.out; omega) HT.out he)
          clear he
          go_wp2
          go_roundw
          case rel => exact ⟨k + 1, by omega, by go_num, HTS.out, hb.drew.trans (hb1.mono hb.size)⟩
          case measure => simp [intOf]; omega
      · go_wp2
        go_ret
        refine ⟨ret_b ?_, hb⟩
        have hkn : k = n := by omega
        have := take_all_eq gs hs n HN.out (HL.out.trans HN'.out) (by rw [← hkn]; exact HT.out)
        simp [this]
  · have hne : ((n : Int) != (n' : Int)) = true := by simp; omega
    have hf : decide (gs = hs) = false := by
      rw [decide_eq_false_iff_not]; rintro rfl; omega
    rw [hf]
    clear hl hn hn' h h' hf hb1 hb2
    go_enter Try.func35, Try.ntmps35
    go_wp2
    go_ret
    exact ⟨rfl, Below.refl _ _⟩
end Go.Proofs.Ytkfglodjnnlbkaa

namespace Go.Proofs.Ytkfglodjnnlbkaa
set_option linter.unusedSimpArgs false
set_option linter.unusedVariables false
open Go.RowKit
/-- The marks of owner j begin here. -/
def topO (ds : List On) (k : Int) (j : Nat) : Int := k + ((2 * j + offOf (rowsO ds) (j * 2) : Nat) : Int)
/-- The marks of list i begin here. -/
def posO (ds : List On) (k : Int) (i : Nat) : Int := k + ((2 * (i / 2 + 1) + offOf (rowsO ds) i : Nat) : Int)
def otot (ds : List On) : Nat := 2 * ds.length + ((rowsO ds).map List.length).sum
def m3 (x : Int) : Bool := x % 3 == 0
/-- The content of lists of which the first J are marked. -/
def ctM (ds : List On) (k : Int) (J : Nat) (i : Nat) : List Value := if i < J then mks (posO ds k i) (lenOf (rowsO ds) i) else rowOf (rowsO ds) i
/-- The cells of the row, of which the first J owners are marked. -/
def FldM (xs us : List Value) (ds : List On) (k : Int) (J : Nat) : Prop := ∀ j, j < ds.length → xs[j * 4 + 2]? = us[j * 2]? ∧ xs[j * 4 + 3]? = us[j * 2 + 1]? ∧ (j < J → xs[j * 4]? = some (.int .i64 (topO ds k j)) ∧ xs[j * 4 + 1]? = some (.bool (m3 (topO ds k j + 1))))
/-- Owners of the call's own, marked from k on. -/
def MkO (lo hi : Nat) (v : Value) (n : Nat) (ds : List On) (k : Int) (w : World) : Prop :=
  n = ds.length ∧ ∃ xs us, OwR lo hi 30 4 v n xs w ∧ us.length = n * 2 ∧ FldM xs us ds k n ∧ SSk lo hi us (lenOf (rowsO ds)) (ctM ds k (n * 2)) w
theorem MkO.loc (lo hi : Nat) (v : Value) (n : Nat) (ds : List On) (k : Int) : Loc lo hi (MkO lo hi v n ds k) := by
  rintro w w' ⟨h0, xs, us, h1, h2, h3, h4⟩ hk
  exact ⟨h0, xs, us, h1.keep hk, h2, h3, h4.keep hk⟩
theorem topO_cl (ds : List On) (k : Int) (j : Nat) : posO ds k (j * 2) = topO ds k j + 1 + 1 := by
  unfold posO topO; rw [show j * 2 / 2 = j by omega]; omega
theorem topO_cx (ds : List On) (k : Int) (j : Nat) (h : j < ds.length) : posO ds k (j * 2 + 1) = topO ds k j + 1 + 1 + ((ds.getD j default).cl.length : Nat) := by
  unfold posO topO; rw [show (j * 2 + 1) / 2 = j by omega, offO_cl ds j h]; omega
theorem topO_succ (ds : List On) (k : Int) (j : Nat) (h : j < ds.length) : topO ds k (j + 1) = topO ds k j + 1 + 1 + ((ds.getD j default).cl.length : Nat) + ((ds.getD j default).cx.length : Nat) := by
  unfold topO; rw [offO_succ ds j h]; omega
theorem topO_all (ds : List On) (k : Int) : topO ds k ds.length = k + (otot ds : Nat) := by
  unfold topO otot; rw [offO_all]
theorem topO_le (ds : List On) (k : Int) (j : Nat) (h : j ≤ ds.length) : k ≤ topO ds k j ∧ topO ds k j ≤ k + (otot ds : Nat) := by
  have := offOf_le (rowsO ds) (j * 2)
  unfold topO otot; omega
theorem OB.tot {ds : List On} (h : OB ds) : otot ds ≤ 3145728 := by have := h.1; have := h.2.1; unfold otot; omega
theorem SSk.mark1 {lo hi J : Nat} {vs : List Value} {lens : Nat → Nat} {cont : Nat → List Value} {w w' : World} {A : Option Addr} {m c : Nat} {q : Int} {e : Ending} (h : SSk lo hi vs lens cont w) (hJ : vs[J]? = some (.slice A m c)) (hm : Marked w lo 3 1 (.slice A m c) m q e w') : SSk lo hi vs lens (fun i => if i = J then mks q m else cont i) w' := by
  refine ⟨fun j hj => ?_, h.apart⟩
  obtain ⟨A', m', c', e1, e2, e3⟩ := h.row j hj
  by_cases ej : j = J
  · subst ej
    rw [hJ] at e1
    cases e1
    refine ⟨A, m, c, hJ, e2, ?_, e3.2⟩
    rw [if_pos rfl]
    have := hm.2.1
    rwa [Nat.mul_one] at this
  · refine ⟨A', m', c', e1, e2, ?_, e3.2⟩
    have hne : (Value.slice A' m' c').ownBlock = none ∨ (Value.slice A' m' c').ownBlock ≠ (Value.slice A m c).ownBlock := by
      cases hb : (Value.slice A' m' c').ownBlock with
      | none => exact .inl rfl
      | some q => exact .inr fun e => h.apart j J _ _ q ej e1 hJ hb e.symm
    rw [if_neg ej]
    exact e3.1.kept hm.2.2 hne
theorem ctM_step (ds : List On) (k : Int) (J : Nat) (m : Nat) (q : Int) (hq : q = posO ds k J) (hm : m = lenOf (rowsO ds) J) (i : Nat) : (if i = J then mks q m else ctM ds k J i) = ctM ds k (J + 1) i := by
  subst hq; subst hm
  unfold ctM
  by_cases e : i = J
  · subst e; rw [if_pos rfl, if_pos (by omega)]
  · rw [if_neg e]
    by_cases e2 : i < J
    · rw [if_pos e2, if_pos (by omega)]
    · rw [if_neg e2, if_neg (by omega)]
theorem FldM.step {xs us : List Value} {ds : List On} {k : Int} {J : Nat} (h : FldM xs us ds k J) (hl : xs.length = ds.length * 4) (hJ : J < ds.length) :
    FldM ((xs.set (J * 4) (.int .i64 (topO ds k J))).set (J * 4 + 1) (.bool (m3 (topO ds k J + 1)))) us ds k (J + 1) := by
  intro j hj
  obtain ⟨a, b, c⟩ := h j hj
  refine ⟨?_, ?_, fun hjJ => ?_⟩
  · rw [List.getElem?_set, if_neg (by omega), List.getElem?_set, if_neg (by omega)]; exact a
  · rw [List.getElem?_set, if_neg (by omega), List.getElem?_set, if_neg (by omega)]; exact b
  · by_cases e : j = J
    · subst e
      refine ⟨?_, ?_⟩
      · rw [List.getElem?_set, if_neg (by omega), List.getElem?_set, if_pos rfl, if_pos (by omega)]
      · rw [List.getElem?_set, if_pos rfl, if_pos (by simp; omega)]
    · obtain ⟨c1, c2⟩ := c (by omega)
      refine ⟨?_, ?_⟩
      · rw [List.getElem?_set, if_neg (by omega), List.getElem?_set, if_neg (by omega)]; exact c1
      · rw [List.getElem?_set, if_neg (by omega), List.getElem?_set, if_neg (by omega)]; exact c2
set_option maxRecDepth 100000 in
set_option maxHeartbeats 1600000 in
theorem laws_markOwnerS (lo hi n : Nat) (v : Value) (ds : List On) (k : Int) (w : World) (h : OwO lo hi v n ds w) (hB : OB ds) (hhi : hi ≤ w.heap.size) (hk : 0 ≤ k) (hk' : k ≤ 562949953421312) :
    Calls Try.prog 37 #[v, .int .i64 k] w fun e w' => MkS lo hi (MkO lo hi v n ds k) w (k + (otot ds : Nat)) e w' := by
  obtain ⟨hn, xs, us, hr, hul, hf, hs⟩ := h
  have hnb : n ≤ 1048576 := by rw [hn]; exact hB.1
  have HN := Lib.hid hn
  have HB := Lib.hid hB
  have htot := hB.tot
  have HUL := Lib.hid hul
  have hf0 : FldM xs us ds k 0 := fun j hj => ⟨(hf j hj).2.2.1, (hf j hj).2.2.2, fun h => by omega⟩
  have hs0 : SSk lo hi us (lenOf (rowsO ds)) (ctM ds k 0) w := hs.congr fun j _ => by unfold ctM; rw [if_neg (by omega)]
  rcases hr.1.2 with ⟨hv, hz⟩ | ⟨g, cap, cur, hv, hbg, hgh, hrest⟩
  · subst hv
    subst hz
    have hx : ds = [] := List.eq_nil_of_length_eq_zero hn.symm
    subst hx
    have HR := Lib.hid hr
    have HF := Lib.hid hf0
    have HS := Lib.hid hs0
    clear hr hf hs hn hul hf0 hs0
    go_enter Try.func37, Try.ntmps37
    go_wp2
    go_loopw [5, 1] (fun i u wr => i = .int .i64 0 ∧ u = .int .i64 k ∧ wr = w) (fun i _ _ => 0)
    case atStart => exact ⟨rfl, rfl, rfl⟩
    case round =>
      obtain ⟨rfl, rfl, rfl⟩ := hrel
      go_wp2
      go_ret
      exact ⟨ret_i (by simp [otot, rowsO]), ⟨⟨rfl, xs, us, HR.out, HUL.out, HF.out, HS.out⟩, hhi, MkO.loc _ _ _ _ _ _⟩, Tch.refl _ _ _⟩
  · subst hv
    have hglo : lo ≤ g := hbg
    have hghi : g < hi := hr.2 g rfl
    have HST : Hid (∃ xs us, OwR lo hi 30 4 (.slice (some ⟨g, 0, none⟩) n cap) n xs w ∧ us.length = n * 2 ∧ FldM xs us ds k 0 ∧ SSk lo hi us (lenOf (rowsO ds)) (ctM ds k (0 * 2)) w) := ⟨xs, us, hr, hul, hf0, by rw [Nat.zero_mul]; exact hs0⟩
    clear hr hf hs hn hul hf0 hs0 hgh hrest hB hbg HUL
    go_enter Try.func37, Try.ntmps37
    go_wp2
    go_loopw [5, 1] (fun i u wr => ∃ j : Nat, j ≤ n ∧ i = .int .i64 j ∧ u = .int .i64 (topO ds k j) ∧ Hid (∃ xs us, OwR lo hi 30 4 (.slice (some ⟨g, 0, none⟩) n cap) n xs wr ∧ us.length = n * 2 ∧ FldM xs us ds k j ∧ SSk lo hi us (lenOf (rowsO ds)) (ctM ds k (j * 2)) wr) ∧ Hid (Tch lo hi w wr)) (fun i _ _ => n - (intOf i).toNat)
    case atStart => exact ⟨0, by omega, rfl, by unfold topO; simp [offOf], HST.out, Tch.refl _ _ _⟩
    case round =>
      obtain ⟨j, hj, rfl, rfl, HST', HT⟩ := hrel
      by_cases hlt : j < n
      · obtain ⟨xs, us, hr, hul, hf, hs⟩ := HST'.out
        have hxl : xs.length = n * 4 := hr.1.1
        have hjd : j < ds.length := by have := HN.out; omega
        obtain ⟨f2, f3, -⟩ := hf j hjd
        obtain ⟨A1, m1, c1, r1, r2, r3⟩ := hs.row (j * 2) (by omega)
        obtain ⟨A2, m2, c2, s1, s2, s3⟩ := hs.row (j * 2 + 1) (by omega)
        have hle := topO_le ds k j (by omega)
        have hfs := hf.step (by have := HN.out; omega) hjd
        have hts := topO_succ ds k j hjd
        have hp1 := topO_cl ds k j
        have hp2 := topO_cx ds k j hjd
        have hl1 : lenOf (rowsO ds) (j * 2) = (ds.getD j default).cl.length := by rw [lenOfO, rowO_cl]
        have hl2 : lenOf (rowsO ds) (j * 2 + 1) = (ds.getD j default).cx.length := by rw [lenOfO, rowO_cx]
        have hbd := HB.out.2.2 j
        rw [← hl1, ← r2] at hts hp2
        rw [← hl2, ← s2] at hts
        have hm1 : m1 ≤ 2000000 := by omega
        have hm2 : m2 ≤ 2000000 := by omega
        obtain ⟨q, hq⟩ : ∃ q : Int, q = topO ds k j := ⟨_, rfl⟩
        rw [← hq] at hle hfs hts hp1 hp2
        have hq0 : 0 ≤ q := by omega
        have hq1 : q ≤ 562949956567040 := by omega
        have st1 := hr.1.stored (j * 4) (.int .i64 q)
        have st2 := st1.1.stored (j * 4 + 1) (.bool (m3 (q + 1)))
        have hgr := grown_tr st1.2 st2.2
        have hs2 := hs.grown hgr (hs.ne hr.1 owner_ne_int.symm)
        have hR2 : OwR lo hi 30 4 (.slice (some ⟨g, 0, none⟩) n cap) n _ _ := ⟨st2.1, hr.2⟩
        have hT2 : Tch lo hi wr _ := Tch.of_grown hgr fun x hx => by cases hx; exact ⟨hglo, hghi⟩
        have u0 := hr.1.cellAt (j * 4) (by omega)
        have u1 := hr.1.cellAt (j * 4 + 1) (by omega)
        rw [List.getElem?_eq_getElem (by omega)] at u0 u1
        have f0 := hr.1.frozenAt (j * 4)
        have f1 := hr.1.frozenAt (j * 4 + 1)
        generalize xs[j * 4]'(by omega) = v0 at u0
        generalize xs[j * 4 + 1]'(by omega) = v1 at u1
        have u2 := (hr.1.cellAt (j * 4 + 2) (by omega)).trans (f2.trans r1)
        have u3 := (hr.1.cellAt (j * 4 + 3) (by omega)).trans (f3.trans s1)
        have U2 := Lib.hid u2
        have HFS := Lib.hid hfs
        have HTS := Lib.hid hts
        have HP1 := Lib.hid hp1
        have HP2 := Lib.hid hp2
        have HQ := Lib.hid hq
        have HS2 := Lib.hid hs2
        have HR2 := Lib.hid hR2
        have HT2 := Lib.hid (HT.out.trans hT2)
        have HUL := Lib.hid hul
        have HR1 := Lib.hid r1
        have HS1 := Lib.hid s1
        have HL1 := Lib.hid r2
        have HL2 := Lib.hid s2
        rw [← hq]
        clear hr hul hf hs hxl f2 f3 r1 r2 r3 s1 s2 s3 hle hfs hts hp1 hp2 hl1 hl2 hbd hq st1 st2 hgr hs2 hR2 hT2 HST' HT htot
        go_wp2_with fail
        have hb3 : ((q + 1) % 3 == 0) = m3 (q + 1) := rfl
        rw [hb3]
        clear hb3
        generalize m3 (q + 1) = b3 at *
        obtain ⟨W2, hW2⟩ : ∃ W : World, W = (wr.setCell ⟨g, j * 4, none⟩ (.int .i64 q)).setCell ⟨g, j * 4 + 1, none⟩ (.bool b3) := ⟨_, rfl⟩
        have HR3 : Hid (OwR lo hi 30 4 (.slice (some ⟨g, 0, none⟩) n cap) n ((xs.set (j * 4) (.int .i64 q)).set (j * 4 + 1) (.bool b3)) W2) := by rw [hW2]; exact HR2.out
        have HS3 : Hid (SSk lo hi us (lenOf (rowsO ds)) (ctM ds k (j * 2)) W2) := by rw [hW2]; exact HS2.out
        have HT3 : Hid (Tch lo hi w W2) := by rw [hW2]; exact HT2.out
        rw [← hW2]
        clear hW2 HR2 HS2 HT2 u0 u1 u2 u3 f0 f1
        obtain ⟨B1, mm1, cc1, r1', r2', r3'⟩ := HS3.out.row (j * 2) (by have := HUL.out; omega)
        have hrr := HR1.out
        rw [hrr] at r1'
        cases r1'
        clear hrr r2'
        have HR4 := Lib.hid r3'.1
        have hlt1 := fun x hx => HS3.out.lt (j * 2) _ x HR1.out hx
        refine (laws_markIntS lo m1 _ _ (q + 1 + 1) _ HR4.out (by omega) (by omega) hm1).mono ?_
        rintro e w3 hm
        have he := hm.1
        have HS4 : Hid (SSk lo hi us (lenOf (rowsO ds)) (ctM ds k (j * 2 + 1)) w3) := (HS3.out.mark1 HR1.out hm).congr fun i _ => ctM_step ds k (j * 2) m1 (q + 1 + 1) HP1.out.symm HL1.out i
        have HR5 : Hid (OwR lo hi 30 4 (.slice (some ⟨g, 0, none⟩) n cap) n ((xs.set (j * 4) (.int .i64 q)).set (j * 4 + 1) (.bool b3)) w3) := ⟨HR3.out.1.kept hm.2.2 (blocks_ne HR3.out.1 HR4.out owner_ne_int), HR3.out.2⟩
        have HT4 : Hid (Tch lo hi w w3) := HT3.out.trans (Tch.of_grown hm.2.2 fun x hx => hlt1 x hx)
        have f3 := (HFS.out j (by have := HN.out; omega)).2.1
        have u3 := (HR5.out.1.cellAt (j * 4 + 3) (by omega)).trans (f3.trans HS1.out)
        obtain ⟨B2, mm2, cc2, s1', s2', s3'⟩ := HS4.out.row (j * 2 + 1) (by have := HUL.out; omega)
        have hss := HS1.out
        rw [hss] at s1'
        cases s1'
        clear hss s2'
        have HR6 := Lib.hid s3'.1
        have hlt2 := fun x hx => HS4.out.lt (j * 2 + 1) _ x HS1.out hx
        rw [Nat.mul_one] at he
        obtain ⟨q2, hq2⟩ : ∃ q2 : Int, q2 = q + 1 + 1 + (m1 : Int) := ⟨_, rfl⟩
        rw [← hq2] at he
        have hq20 : 0 ≤ q2 := by omega
        have hq21 : q2 ≤ 562949960000000 := by omega
        have HQ2 := Lib.hid hq2
        subst he
        clear hm f3 HR3 HS3 HT3 HR4 r3' s3' hq2 hlt1
        go_wp2_with fail
        refine (laws_markIntS lo m2 _ _ q2 _ HR6.out (by omega) (by omega) hm2).mono ?_
        rintro e w4 hm
        have he := hm.1
        have HS5 : Hid (SSk lo hi us (lenOf (rowsO ds)) (ctM ds k ((j + 1) * 2)) w4) := (HS4.out.mark1 HS1.out hm).congr fun i _ => by
          rw [ctM_step ds k (j * 2 + 1) m2 q2 (by rw [HQ2.out, HP2.out]) HL2.out i]
          rw [show (j + 1) * 2 = j * 2 + 1 + 1 by omega]
        have HR7 : Hid (OwR lo hi 30 4 (.slice (some ⟨g, 0, none⟩) n cap) n ((xs.set (j * 4) (.int .i64 q)).set (j * 4 + 1) (.bool b3)) w4) := ⟨HR5.out.1.kept hm.2.2 (blocks_ne HR5.out.1 HR6.out owner_ne_int), HR5.out.2⟩
        have HT5 : Hid (Tch lo hi w w4) := HT4.out.trans (Tch.of_grown hm.2.2 fun x hx => hlt2 x hx)
        rw [Nat.mul_one] at he
        obtain ⟨q3, hq3⟩ : ∃ q3 : Int, q3 = q2 + (m2 : Int) := ⟨_, rfl⟩
        rw [← hq3] at he
        have HQ3 := Lib.hid hq3
        subst he
        clear hm HR5 HS4 HT4 HR6 hq3 hlt2 u3
        go_wp2
        go_roundw
        case rel => exact ⟨j + 1, by omega, by go_num, by rw [HTS.out, HQ3.out, HQ2.out], ⟨_, us, HR7.out, HUL.out, HFS.out, HS5.out⟩, HT5.out⟩
        case measure => simp [intOf]; omega
      · obtain rfl : j = n := by omega
        obtain ⟨q, hq⟩ : ∃ q : Int, q = topO ds k j := ⟨_, rfl⟩
        have HQ := Lib.hid hq
        rw [← hq]
        clear hq
        go_wp2
        go_ret
        obtain ⟨xs, us, hr, hul, hf, hs⟩ := HST'.out
        refine ⟨ret_i ?_, ⟨⟨HN.out, xs, us, hr, hul, hf, hs⟩, Nat.le_trans hhi HT.out.size, MkO.loc _ _ _ _ _ _⟩, HT.out⟩
        rw [HQ.out, HN.out, topO_all]
set_option maxRecDepth 100000 in
set_option maxHeartbeats 1600000 in
theorem laws_heldOwnerS (lo hi n : Nat) (v : Value) (ds : List On) (k : Int) (w : World) (h : MkO lo hi v n ds k w) (hB : OB ds) (hk : 0 ≤ k) (hk' : k ≤ 562949953421312) :
    Calls Try.prog 39 #[v, .int .i64 k] w fun e w' => e = .returned (.int .i64 (k + (otot ds : Nat))) ∧ Below w.heap.size w w' := by
  obtain ⟨hn, xs, us, hr, hul, hf, hs⟩ := h
  have hnb : n ≤ 1048576 := by rw [hn]; exact hB.1
  have HN := Lib.hid hn
  have HB := Lib.hid hB
  have htot := hB.tot
  have HUL := Lib.hid hul
  have HF := Lib.hid hf
  have HS := Lib.hid hs
  rcases hr.1.2 with ⟨hv, hz⟩ | ⟨g, cap, cur, hv, hbg, hgh, hrest⟩
  · subst hv
    subst hz
    have hx : ds = [] := List.eq_nil_of_length_eq_zero hn.symm
    subst hx
    clear hr hf hs hn hul
    go_enter Try.func39, Try.ntmps39
    go_wp2
    go_loopw [5, 1] (fun i u wr => i = .int .i64 0 ∧ u = .int .i64 k ∧ wr = w) (fun i _ _ => 0)
    case atStart => exact ⟨rfl, rfl, rfl⟩
    case round =>
      obtain ⟨rfl, rfl, rfl⟩ := hrel
      go_wp2
      go_ret
      exact ⟨ret_i (by simp [otot, rowsO]), Below.refl _ _⟩
  · subst hv
    have HR := Lib.hid hr
    clear hr hf hs hn hul hgh hrest hB hbg
    go_enter Try.func39, Try.ntmps39
    go_wp2
    go_loopw [5, 1] (fun i u wr => ∃ j : Nat, j ≤ n ∧ i = .int .i64 j ∧ u = .int .i64 (topO ds k j) ∧ Below w.heap.size w wr) (fun i _ _ => n - (intOf i).toNat)
    case atStart => exact ⟨0, by omega, rfl, by unfold topO; simp [offOf], Below.refl _ _⟩
    case round =>
      obtain ⟨j, hj, rfl, rfl, hb⟩ := hrel
      by_cases hlt : j < n
      · have hjd : j < ds.length := by have := HN.out; omega
        obtain ⟨f2, f3, ff⟩ := HF.out j hjd
        obtain ⟨f0, f1⟩ := ff hlt
        obtain ⟨A1, m1, c1, r1, r2, r3⟩ := HS.out.row (j * 2) (by have := HUL.out; omega)
        obtain ⟨A2, m2, c2, s1, s2, s3⟩ := HS.out.row (j * 2 + 1) (by have := HUL.out; omega)
        have hr := own_below HR.out.1 hb
        have hle := topO_le ds k j (by omega)
        have hts := topO_succ ds k j hjd
        have hp1 := topO_cl ds k j
        have hp2 := topO_cx ds k j hjd
        have hl1 : lenOf (rowsO ds) (j * 2) = (ds.getD j default).cl.length := by rw [lenOfO, rowO_cl]
        have hl2 : lenOf (rowsO ds) (j * 2 + 1) = (ds.getD j default).cx.length := by rw [lenOfO, rowO_cx]
        have hbd := HB.out.2.2 j
        rw [← hl1, ← r2] at hts hp2
        rw [← hl2, ← s2] at hts
        unfold ctM at r3 s3
        rw [if_pos (by omega), ← r2, hp1] at r3
        rw [if_pos (by omega), ← s2, hp2] at s3
        have hm1 : m1 ≤ 2000000 := by omega
        have hm2 : m2 ≤ 2000000 := by omega
        obtain ⟨q, hq⟩ : ∃ q : Int, q = topO ds k j := ⟨_, rfl⟩
        rw [← hq] at hle hts hp1 hp2 f0 f1 r3 s3
        have hq0 : 0 ≤ q := by omega
        have hq1 : q ≤ 562949956567040 := by omega
        have u0 := (hr.cellAt (j * 4) (by omega)).trans f0
        have u1 : _ = some (Value.bool ((q + 1) % 3 == 0)) := (hr.cellAt (j * 4 + 1) (by omega)).trans f1
        have u2 := (hr.cellAt (j * 4 + 2) (by omega)).trans (f2.trans r1)
        have u3 := (hr.cellAt (j * 4 + 3) (by omega)).trans (f3.trans s1)
        have U3 := Lib.hid u3
        have hlt3 : g < wr.heap.size := (hr.lt g rfl).2
        have hq3 : ¬ q + 1 + 1 + (m1 : Int) < 0 := by omega
        have hq4 : ¬ q + 1 + 1 + (m1 : Int) + (m2 : Int) < 0 := by omega
        have R3 := Lib.hid (own_below r3.1 hb)
        have S3 := Lib.hid (own_below s3.1 hb)
        have HTS := Lib.hid hts
        rw [← hq]
        clear hr hle hts hp1 hp2 hl1 hl2 hbd hq f0 f1 f2 f3 ff r1 r2 r3 s1 s2 s3 u3
        go_wp2_with fail
        refine (laws_heldIntS lo m1 _ (q + 1 + 1) _ R3.out (by omega) (by omega) hm1).mono ?_
        rintro e w3 ⟨rfl, hb3⟩
        have u3 := (hb3.cell (p := ⟨g, j * 4 + 3, none⟩) hlt3).trans U3.out
        have S4 := Lib.hid (own_below S3.out hb3)
        have HB3 := Lib.hid (hb.trans (hb3.mono hb.size))
        obtain ⟨q2, hq2⟩ : ∃ q2 : Int, q2 = q + 1 + 1 + (m1 : Int) := ⟨_, rfl⟩
        rw [← hq2] at hq3 hq4 S4
        rw [← hq2]
        have hq20 : 0 ≤ q2 := by omega
        have hq21 : q2 ≤ 562949960000000 := by omega
        have HQ2 := Lib.hid hq2
        clear hq2 hb3 hb u0 u1 u2 S3 U3
        go_wp2_with fail
        refine (laws_heldIntS lo m2 _ q2 _ S4.out (by omega) (by omega) hm2).mono ?_
        rintro e w4 ⟨rfl, hb4⟩
        have HB4 := Lib.hid (HB3.out.trans (hb4.mono HB3.out.size))
        obtain ⟨q3, hq3'⟩ : ∃ q3 : Int, q3 = q2 + (m2 : Int) := ⟨_, rfl⟩
        rw [← hq3'] at hq4
        rw [← hq3']
        have HQ3 := Lib.hid hq3'
        clear hq3' hb4 u3 S4
        go_wp2
        go_roundw
        case rel => exact ⟨j + 1, by omega, by go_num, by rw [HTS.out, HQ3.out, HQ2.out], HB4.out⟩
        case measure => simp [intOf]; omega
      · obtain rfl : j = n := by omega
        obtain ⟨q, hq⟩ : ∃ q : Int, q = topO ds k j := ⟨_, rfl⟩
        have HQ := Lib.hid hq
        rw [← hq]
        clear hq
        go_wp2
        go_ret
        exact ⟨ret_i (by rw [HQ.out, HN.out, topO_all]), hb⟩
theorem mark_owners (lo hi n : Nat) (v : Value) (ds : List On) (k : Int) (w : World) (h : As lo hi (OwO lo hi v n ds) w) (hB : OB ds) (hk : 0 ≤ k) (hk' : k ≤ 562949953421312) :
    Calls Try.prog 37 #[v, .int .i64 k] w fun e w' => MkS lo hi (MkO lo hi v n ds k) w (k + (otot ds : Nat)) e w' :=
  laws_markOwnerS lo hi n v ds k w h.it hB h.le hk hk'
theorem held_owners (lo hi n : Nat) (v : Value) (ds : List On) (k : Int) (w : World) (h : As lo hi (MkO lo hi v n ds k) w) (hB : OB ds) (hk : 0 ≤ k) (hk' : k ≤ 562949953421312) :
    Calls Try.prog 39 #[v, .int .i64 k] w fun e w' => e = .returned (.int .i64 (k + (otot ds : Nat))) ∧ Below w.heap.size w w' :=
  laws_heldOwnerS lo hi n v ds k w h.it hB hk hk'
/-- The mark of an argument's copy. -/
theorem markw_owners (lo hi n : Nat) (v : Value) (ds : List On) (k : Int) (w : World) (h : As lo hi (OwO lo hi v n ds) w) (hB : OB ds) (hk : 0 ≤ k) (hk' : k ≤ 562949953421312) :
    Calls Try.prog 37 #[v, .int .i64 k] w fun e w' => MkW lo hi w k (k + 6000000000000) e w' := by
  have := hB.tot
  refine (mark_owners lo hi n v ds k w h hB hk hk').mono ?_
  rintro e w' ⟨he, _, ht⟩
  exact ⟨_, he, by omega, by omega, ht⟩
end Go.Proofs.Ytkfglodjnnlbkaa

namespace Go.Proofs.Ytkfglodjnnlbkaa
set_option linter.unusedSimpArgs false
set_option linter.unusedVariables false
open Go.RowKit
theorem clr_labels (f : Nat) (ds : List On) (o : Nat) (hv : validO ds = true) : (clr f ds o).1.length ≤ 60 := by
  have := clr_tot f ds o
  have := tot_valid hv
  omega
theorem rerF_OB (ds : List On) (o : Int) : OB (rerF ds o) := by
  unfold rerF
  split
  · rename_i h
    obtain ⟨k, rfl, _, hv⟩ := hasOpO_at h
    exact (clr_same _ _ _).small hv
  · exact OB.small (by simp) fun j => by simp [List.getD]; exact ⟨Nat.zero_le _, Nat.zero_le _⟩
theorem rerL_len (ds : List On) (o : Int) : (rerL ds o).length ≤ 60 := by
  unfold rerL
  split
  · rename_i h
    obtain ⟨k, rfl, _, hv⟩ := hasOpO_at h
    exact clr_labels _ _ _ hv
  · simp
theorem dispF_OB (ds : List On) (o : Int) : OB (dispF ds o) := by
  unfold dispF
  split
  · rename_i h
    obtain ⟨k, rfl, _, hv⟩ := hasOpO_at (dispB_has h)
    exact ((clr_same _ _ _).trans (SameP.shut _ _)).small hv
  · exact OB.small (by simp) fun j => by simp [List.getD]; exact ⟨Nat.zero_le _, Nat.zero_le _⟩
theorem dispL_len (ds : List On) (o : Int) : (dispL ds o).length ≤ 60 := by
  unfold dispL
  split
  · rename_i h
    obtain ⟨k, rfl, _, hv⟩ := hasOpO_at (dispB_has h)
    exact clr_labels _ _ _ hv
  · simp
set_option maxRecDepth 100000 in
set_option maxHeartbeats 3200000 in
theorem top_spec_RerunOwner (ds : List On) (o : Int) (hO : OB ds) : ∀ (A : Option Addr) (n c : Nat) (w : World), n = ds.length → n ≤ c → OS w w.heap.size A ds →
    Calls Try.prog 25 #[.slice A n c, .int .i64 o] w fun e w' => RetOI w (rerF ds o) (rerL ds o) e w' := by
  intro A n c w hn hnc h
  have hnb : n ≤ 1048576 := by rw [hn]; exact hO.1
  have HS := Lib.hid h
  have HC := Lib.hid (spec_validOwners A n c ds w w.heap.size (Nat.le_refl _) hn h hO)
  have HI := Lib.hid fun (w' : World) (hB : w.heap.size ≤ w'.heap.size) (h : OS w' w.heap.size A ds) => spec_isOpen A n c ds o w' w.heap.size hB hn h hnb
  cases hv0 : validO ds
  · rw [hv0] at HC
    have hf : hasOpO ds o = false := by unfold hasOpO hasO; rw [hv0]; rfl
    unfold rerF rerL
    rw [hf]
    clear hf hn h hO hv0 HI
    simp only [Bool.false_eq_true, if_false]
    go_enter Try.func25, Try.ntmps25
    go_wp2_with fail
    refine HC.out.mono ?_
    rintro e w1 ⟨rfl, hb⟩
    go_wp2
    go_ret2
    exact RetOI.nil hb
  rw [hv0] at HC
  cases hio : (rng o 0 ((n : Int) - 1) && opn ds o)
  · rw [hio] at HI
    have hf : hasOpO ds o = false := by unfold hasOpO hasO; rw [hv0, Bool.true_and, ← hn, hio]
    unfold rerF rerL
    rw [hf]
    clear hf hn h hO hv0 hio
    simp only [Bool.false_eq_true, if_false]
    go_enter Try.func25, Try.ntmps25
    go_wp2_with fail
    refine HC.out.mono ?_
    rintro e w1 ⟨rfl, hb⟩
    go_wp2_with fail
    refine (HI.out w1 hb.size (HS.out.below hb (Nat.le_refl _))).mono ?_
    rintro e w1' ⟨rfl, rfl⟩
    go_wp2
    go_ret2
    exact RetOI.nil hb
  rw [hio] at HI
  have hv : hasOpO ds o = true := by unfold hasOpO hasO; rw [hv0, Bool.true_and, ← hn, hio]
  have hf : hasOpO ds o = true := by exact hv
  clear hio hv0
  obtain ⟨k, rfl, hkd, hval⟩ := hasOpO_at hv
  have hkn : k < n := by omega
  unfold rerF rerL
  rw [hf]
  simp only [if_true, Int.toNat_natCast]
  rw [← hn]
  have HCP := Lib.hid fun (w' : World) (hB : w.heap.size ≤ w'.heap.size) (h : OS w' w.heap.size A ds) => spec_copyOwners A n c ds w' w.heap.size hB hn h hO
  have HN := Lib.hid hn
  have HV := Lib.hid hval
  have hn12 : n ≤ 12 := by rw [hn]; exact (validO_ok hval).2.1
  have HSM := Lib.hid (clr_same n ds k)
  generalize hR1 : (clr n ds k).1 = R1 at *
  generalize hR2 : (clr n ds k).2 = R2 at *
  have HR1 := Lib.hid hR1
  have HR2 := Lib.hid hR2
  clear hf hn h hO hval hv hkd hR1 hR2
  go_enter Try.func25, Try.ntmps25
  go_wp2_with fail
  refine HC.out.mono ?_
  rintro e w1 ⟨rfl, hb⟩
  have HB1 := Lib.hid hb
  go_wp2_with fail
  refine (HI.out w1 hb.size (HS.out.below hb (Nat.le_refl _))).mono ?_
  rintro e w1' ⟨rfl, rfl⟩
  have hs1 := hb.size
  have HS1 := Lib.hid (HS.out.below hb (Nat.le_refl _))
  clear hb
  go_wp2_with fail
  refine (HCP.out w1 hs1 HS1.out).mono ?_
  rintro e w2 ⟨v, rfl, ho, hb2⟩
  rw [← HN.out] at ho
  obtain ⟨g, cap, rfl⟩ : ∃ g cap, v = .slice (some ⟨g, 0, none⟩) n cap := by
    obtain ⟨_, xs, us, h1, _⟩ := ho
    exact row_form2 h1.1 (by omega)
  have HB2 := Lib.hid (HB1.out.trans (hb2.mono HB1.out.size))
  have HCL := Lib.hid (spec_clear w1.heap.size g cap n n ds k w2.heap.size (fun _ => False) w2 (by omega) hkn HN.out (PO.of_valid HV.out) (by omega) (by have := tot_valid HV.out; omega) (OwOn.of ho (fun q h => h.elim)) (Nat.le_refl _) (fun q h => h.elim))
  rw [HR1.out, HR2.out] at HCL
  have hgl : w1.heap.size ≤ g ∧ g < w2.heap.size := by
    obtain ⟨_, xs, us, h1, _⟩ := ho
    exact h1.1.lt g rfl
  clear ho hb2 HC HI HCP HS HS1
  go_wp2_with fail
  refine HCL.out.mono ?_
  rintro e w3 ⟨g6, c6, l6, rfl, hl6, hrow6, hown6, ht6⟩
  have HL6 := Lib.hid hl6
  have HB3 := Lib.hid (HB2.out.trans (ht6.below (B := w.heap.size) (by omega) HB2.out.size))
  have HO6 := Lib.hid hrow6
  have HW6 := Lib.hid hown6
  have HSL : Hid (R2.length = n) := by show _ = _; rw [HSM.out.len, ← HN.out]
  clear hl6 hrow6 hown6 ht6 HSM HR1 HR2
  go_wp2
  go_ret2
  refine ⟨_, _, rfl, ?_, ?_, HB3.out⟩
  · rw [HSL.out]; exact HW6.out.all.mono (by omega) (Nat.le_refl _)
  · unfold OwnI; rw [← HL6.out]; exact own_mono HO6.out (by omega)
set_option maxRecDepth 100000 in
set_option maxHeartbeats 3200000 in
theorem top_spec_LabelsOf (ds : List On) (o : Int) (hO : OB ds) : ∀ (A : Option Addr) (n c : Nat) (w : World), n = ds.length → n ≤ c → OS w w.heap.size A ds →
    Calls Try.prog 32 #[.slice A n c, .int .i64 o] w fun e w' => RetI w (rerL ds o) e w' := by
  intro A n c w hn hnc h
  have hnb : n ≤ 1048576 := by rw [hn]; exact hO.1
  have HS := Lib.hid h
  have HC := Lib.hid (spec_validOwners A n c ds w w.heap.size (Nat.le_refl _) hn h hO)
  have HI := Lib.hid fun (w' : World) (hB : w.heap.size ≤ w'.heap.size) (h : OS w' w.heap.size A ds) => spec_isOpen A n c ds o w' w.heap.size hB hn h hnb
  cases hv0 : validO ds
  · rw [hv0] at HC
    have hf : hasOpO ds o = false := by unfold hasOpO hasO; rw [hv0]; rfl
    unfold rerL
    rw [hf]
    clear hf hn h hO hv0 HI
    simp only [Bool.false_eq_true, if_false]
    go_enter Try.func32, Try.ntmps32
    go_wp2_with fail
    refine HC.out.mono ?_
    rintro e w1 ⟨rfl, hb⟩
    go_wp2
    go_ret
    exact ⟨_, rfl, World.ownsRow_nil _ _ _ _, hb⟩
  rw [hv0] at HC
  cases hio : (rng o 0 ((n : Int) - 1) && opn ds o)
  · rw [hio] at HI
    have hf : hasOpO ds o = false := by unfold hasOpO hasO; rw [hv0, Bool.true_and, ← hn, hio]
    unfold rerL
    rw [hf]
    clear hf hn h hO hv0 hio
    simp only [Bool.false_eq_true, if_false]
    go_enter Try.func32, Try.ntmps32
    go_wp2_with fail
    refine HC.out.mono ?_
    rintro e w1 ⟨rfl, hb⟩
    go_wp2_with fail
    refine (HI.out w1 hb.size (HS.out.below hb (Nat.le_refl _))).mono ?_
    rintro e w1' ⟨rfl, rfl⟩
    go_wp2
    go_ret
    exact ⟨_, rfl, World.ownsRow_nil _ _ _ _, hb⟩
  rw [hio] at HI
  have hv : hasOpO ds o = true := by unfold hasOpO hasO; rw [hv0, Bool.true_and, ← hn, hio]
  have hf : hasOpO ds o = true := by exact hv
  clear hio hv0
  obtain ⟨k, rfl, hkd, hval⟩ := hasOpO_at hv
  have hkn : k < n := by omega
  unfold rerL
  rw [hf]
  simp only [if_true, Int.toNat_natCast]
  rw [← hn]
  have HCP := Lib.hid fun (w' : World) (hB : w.heap.size ≤ w'.heap.size) (h : OS w' w.heap.size A ds) => spec_copyOwners A n c ds w' w.heap.size hB hn h hO
  have HN := Lib.hid hn
  have HV := Lib.hid hval
  have hn12 : n ≤ 12 := by rw [hn]; exact (validO_ok hval).2.1
  have HSM := Lib.hid (clr_same n ds k)
  generalize hR1 : (clr n ds k).1 = R1 at *
  generalize hR2 : (clr n ds k).2 = R2 at *
  have HR1 := Lib.hid hR1
  have HR2 := Lib.hid hR2
  clear hf hn h hO hval hv hkd hR1 hR2
  go_enter Try.func32, Try.ntmps32
  go_wp2_with fail
  refine HC.out.mono ?_
  rintro e w1 ⟨rfl, hb⟩
  have HB1 := Lib.hid hb
  go_wp2_with fail
  refine (HI.out w1 hb.size (HS.out.below hb (Nat.le_refl _))).mono ?_
  rintro e w1' ⟨rfl, rfl⟩
  have hs1 := hb.size
  have HS1 := Lib.hid (HS.out.below hb (Nat.le_refl _))
  clear hb
  go_wp2_with fail
  refine (HCP.out w1 hs1 HS1.out).mono ?_
  rintro e w2 ⟨v, rfl, ho, hb2⟩
  rw [← HN.out] at ho
  obtain ⟨g, cap, rfl⟩ : ∃ g cap, v = .slice (some ⟨g, 0, none⟩) n cap := by
    obtain ⟨_, xs, us, h1, _⟩ := ho
    exact row_form2 h1.1 (by omega)
  have HB2 := Lib.hid (HB1.out.trans (hb2.mono HB1.out.size))
  have HCL := Lib.hid (spec_clear w1.heap.size g cap n n ds k w2.heap.size (fun _ => False) w2 (by omega) hkn HN.out (PO.of_valid HV.out) (by omega) (by have := tot_valid HV.out; omega) (OwOn.of ho (fun q h => h.elim)) (Nat.le_refl _) (fun q h => h.elim))
  rw [HR1.out, HR2.out] at HCL
  have hgl : w1.heap.size ≤ g ∧ g < w2.heap.size := by
    obtain ⟨_, xs, us, h1, _⟩ := ho
    exact h1.1.lt g rfl
  clear ho hb2 HC HI HCP HS HS1
  go_wp2_with fail
  refine HCL.out.mono ?_
  rintro e w3 ⟨g6, c6, l6, rfl, hl6, hrow6, hown6, ht6⟩
  have HL6 := Lib.hid hl6
  have HB3 := Lib.hid (HB2.out.trans (ht6.below (B := w.heap.size) (by omega) HB2.out.size))
  have HO6 := Lib.hid hrow6
  have HW6 := Lib.hid hown6
  have HSL : Hid (R2.length = n) := by show _ = _; rw [HSM.out.len, ← HN.out]
  clear hl6 hrow6 hown6 ht6 HSM HR1 HR2
  go_wp2
  go_ret
  refine ⟨_, rfl, ?_, HB3.out⟩
  unfold OwnI; rw [← HL6.out]; exact own_mono HO6.out (by omega)
end Go.Proofs.Ytkfglodjnnlbkaa
