/- Words and contracts for memory that the texts behind use. -/
import Derived.Test.YtlbomopjldhmeaaB0a
import Derived.Test.YtlbomopjldhmeaaB1a
import Derived.Test.YtlbomopjldhmeaaB2a
import Derived.WalkKit
import Derived.Laws.OwnMore
import Derived.Deep.Draws
import Derived.Test.YtlbomopjldhmeaaRows
import Derived.ProofKit
import Derived.OpenShut
import Derived.ShutString
import Derived.ChangeOld
import Derived.Below
import Derived.Deep.Slices
import Derived.Deep.Fields
import Derived.Test.YtlbomopjldhmeaaProg
import Derived.WalkSpells
import Derived.WalkLawsBesides
import Derived.Outline
import Derived.Lib.Hide
import Derived.BigQuiet
import Derived.Deep.QuietTactic
import Derived.StillTailTactics
import Derived.Deep.LoopGhost
import Derived.Laws.MakeOwn
import Derived.WalkSmall
import Derived.RegionTactic
import Derived.BigRegion
import Derived.Deep.RegionWith
import Derived.Deep.RegionHeld3
import Derived.Laws.Entries
import Derived.Laws.Bits64
import Derived.IntWalk
import Derived.Maps.AppendAt
import Derived.Deep.RegionLaw
import Derived.Deep.AppendLies
import Derived.Deep.Cut
import Derived.Deep.DeepCutAuto
import Derived.Laws.CopyOwn
import Derived.ArgAppend

namespace Go.Proofs.Ytlbomopjldhmeaa
set_option linter.unusedSimpArgs false
set_option linter.unusedVariables false
open Go.RowKit
/-- A part of a formula. -/
structure Pt where
  k : Int
  a : Int
  b : Int
  c : Int
  n : Int
deriving DecidableEq, Inhabited
def Pt.cells (p : Pt) : List Value := [.int .i64 p.k, .int .i64 p.a, .int .i64 p.b, .int .i64 p.c, .int .i64 p.n]
end Go.Proofs.Ytlbomopjldhmeaa

namespace Go.Proofs.Ytlbomopjldhmeaa
set_option linter.unusedSimpArgs false
set_option linter.unusedVariables false
open Go.ChangeShapes Go.WideShapes Go.ChangeAt Go.RowKit Go.Deep
theorem own : ownKnob Try.prog.godebug = none := by kernel_rfl
theorem cells_int : Try.prog.cellsOf 3 = 1 := by kernel_rfl
theorem add_of (b off n : Nat) : (⟨b, off, none⟩ : Addr).add n = ⟨b, off + n, none⟩ := by
  unfold Addr.add
  by_cases h : n = 0 <;> simp [h]
theorem add_add' (a : Addr) (i j : Nat) : (a.add i).add j = a.add (i + j) := by
  unfold Addr.add
  by_cases hi : i = 0 <;> by_cases hj : j = 0 <;> simp [hi, hj, Nat.add_assoc]
end Go.Proofs.Ytlbomopjldhmeaa

namespace Go.Proofs.Ytlbomopjldhmeaa
set_option linter.unusedSimpArgs false
set_option linter.unusedVariables false
open Go.RowKit
theorem take_succ_getD {α : Type} [Inhabited α] (l : List α) (k : Nat) (h : k < l.length) : l.take (k + 1) = l.take k ++ [l.getD k default] := by
  rw [List.take_succ_eq_append_getElem h]; simp [List.getD, h]
theorem take_step {α : Type} [Inhabited α] (l m : List α) (k : Nat) (h : k < l.length) (h' : k < m.length) (ht : l.take k = m.take k) (he : l.getD k default = m.getD k default) : l.take (k + 1) = m.take (k + 1) := by
  rw [take_succ_getD l k h, take_succ_getD m k h', ht, he]
theorem take_all_eq {α : Type} (l m : List α) (n : Nat) (h : n = l.length) (h' : n = m.length) (ht : l.take n = m.take n) : l = m := by
  rw [List.take_of_length_le (by omega), List.take_of_length_le (by omega)] at ht
  exact ht
theorem getD_ne {α : Type} [Inhabited α] [DecidableEq α] (l m : List α) (k : Nat) (h : l.getD k default ≠ m.getD k default) : decide (l = m) = false := by
  rw [decide_eq_false_iff_not]; rintro rfl; exact h rfl
end Go.Proofs.Ytlbomopjldhmeaa

namespace Go.Proofs.Ytlbomopjldhmeaa
set_option linter.unusedSimpArgs false
set_option linter.unusedVariables false
open Go.RowKit
set_option maxRecDepth 100000 in
set_option maxHeartbeats 800000 in
theorem laws_eqIntS (A A' : Option Addr) (n n' c c' : Nat) (xs ys : List Int) (w : World) (B : Nat) (hB : B ≤ w.heap.size) (hn : n = xs.length) (hn' : n' = ys.length) (h : IS w B A xs) (h' : IS w B A' ys) (hs : n ≤ 2000000) (hs' : n' ≤ 2000000) :
    Calls Try.prog 14 #[.slice A n c, .slice A' n' c'] w fun e w' => e = .returned (.bool (decide (xs = ys))) ∧ Below w.heap.size w w' := by
  by_cases hl : n = n'
  · have hne : ((n : Int) != (n' : Int)) = false := by simp [hl]
    have HL := Lib.hid hl
    have HN := Lib.hid hn
    have HN' := Lib.hid hn'
    have H := Lib.hid h
    have H' := Lib.hid h'
    clear hl hn hn' h h'
    go_enter Try.func14, Try.ntmps14
    go_wp2
    go_loopw [5] (fun i wr => ∃ k : Nat, k ≤ n ∧ i = .int .i64 k ∧ Hid (xs.take k = ys.take k) ∧ Below w.heap.size w wr) (fun i _ => n - (intOf i).toNat)
    case atStart => exact ⟨0, Nat.zero_le _, rfl, by simp [Hid], Below.refl _ _⟩
    case round =>
      obtain ⟨k, hk, rfl, HT, hb⟩ := hrel
      by_cases hlt : k < n
      · obtain ⟨b, off, rfl, hbB, hc⟩ := H.out (by have := HN.out; omega)
        obtain ⟨b', off', rfl, hbB', hc'⟩ := H'.out (by have := HN'.out; have := HL.out; omega)
        have c0 := hc k (by have := HN.out; omega)
        have d0 := hc' k (by have := HN'.out; have := HL.out; omega)
        clear hc hc' H H'
        have hlt' : k < n' := by have := HL.out; omega
        have b0 := (hb.cell (p := ⟨b, off + k, none⟩) (by simp; omega)).trans c0
        have e0 := (hb.cell (p := ⟨b', off' + k, none⟩) (by simp; omega)).trans d0
        clear c0 d0
        generalize hp : xs.getD k 0 = p at *
        generalize hq : ys.getD k 0 = q at *
        have HP := Lib.hid hp
        have HQ := Lib.hid hq
        clear hp hq
        cases hpq : (p != q)
        · have HPQ := Lib.hid hpq
          go_wp2
          go_region
          go_wp2
          go_roundw
          case rel =>
            have hts := take_step xs ys k (by have := HN.out; omega) (by have := HN'.out; omega) HT.out (HP.out.trans ((by simpa using HPQ.out : p = q).trans HQ.out.symm))
            exact ⟨k + 1, by omega, by go_num, hts, hb.drew⟩
          case measure => simp [intOf]; omega
        · have HPQ := Lib.hid hpq
          go_wp2
          go_region
          go_wp2
          go_ret
          refine ⟨ret_b ?_, hb.drew⟩
          have hne : xs.getD k default ≠ ys.getD k default := by
            intro e
            have : p = q := HP.out.symm.trans (e.trans HQ.out)
            have h2 := HPQ.out
            simp [this] at h2
          simp [getD_ne xs ys k hne]
      · go_wp2
        go_ret
        refine ⟨ret_b ?_, hb⟩
        have hkn : k = n := by omega
        have := take_all_eq xs ys n HN.out (HL.out.trans HN'.out) (by rw [← hkn]; exact HT.out)
        simp [this]
  · have hne : ((n : Int) != (n' : Int)) = true := by simp; omega
    have hf : decide (xs = ys) = false := by
      rw [decide_eq_false_iff_not]; rintro rfl; omega
    rw [hf]
    clear hl hn hn' h h' hf
    go_enter Try.func14, Try.ntmps14
    go_wp2
    go_ret
    exact ⟨rfl, Below.refl _ _⟩
theorem take_set1 (xs : List Value) (k : Nat) (v : Value) (h : k < xs.length) : (xs.set k v).take (k + 1) = xs.take k ++ [v] := by
  rw [List.take_succ_eq_append_getElem (by simpa using h), List.take_set_of_le (by omega)]
  simp
set_option maxHeartbeats 800000 in
theorem laws_toIntS (A : Option Addr) (n c : Nat) (xs : List Int) (w : World) (B : Nat) (hB : B ≤ w.heap.size) (hn : n = xs.length) (h : IS w B A xs) (hs : n ≤ 2000000) :
    Calls Try.prog 11 #[.slice A n c] w fun e w' => e = .returned (.slice (some ⟨w.heap.size, 0, none⟩) n n) ∧ w'.ownsRow w.heap.size 3 1 (.slice (some ⟨w.heap.size, 0, none⟩) n n) n (xs.map (Value.int .i64)) ∧ Below w.heap.size w w' := by
  obtain ⟨i0, hi, hz0, hz1, hz2⟩ := info_parts info_int
  obtain ⟨w0, hmk, hown0, hgr0⟩ := run_make_full (P := Try.prog) w w.heap.size 22 3 i0 _ 1 Try.underlying22 hi hz0 hz1 .i64 .i64 n (by rw [hz2]; omega) (by unfold maxLen; omega) (Nat.le_refl _)
  have H := Lib.hid h
  have HN := Lib.hid hn
  clear hn h
  go_enter Try.func11, Try.ntmps11
  go_wp2
  go_loopw [4] (fun i wr => ∃ (k : Nat) (vs : List Value), k ≤ n ∧ i = .int .i64 k ∧ Hid (wr.ownsRow w.heap.size 3 1 (.slice (some ⟨w.heap.size, 0, none⟩) n n) n vs) ∧ Hid (vs.take k = (xs.take k).map (Value.int .i64)) ∧ Below w.heap.size w wr) (fun i _ => n - (intOf i).toNat)
  case atStart => exact ⟨0, _, Nat.zero_le _, rfl, hown0, by simp [Hid], ⟨hgr0.os, hgr0.tape, hgr0.output, hgr0.size, fun k hk => hgr0.block k hk (by simp)⟩⟩
  case round =>
    obtain ⟨k, vs, hk, rfl, HO, HT, hb⟩ := hrel
    by_cases hlt : k < n
    · obtain ⟨b, off, rfl, hbB, hc⟩ := H.out (by have := HN.out; omega)
      have c0 := hc k (by have := HN.out; omega)
      clear hc H
      have b0 := (hb.cell (p := ⟨b, off + k, none⟩) (by simp; omega)).trans c0
      clear c0
      generalize hp : xs.getD k 0 = p at *
      have HP := Lib.hid hp
      clear hp
      have hxl : vs.length = n * 1 := HO.out.1
      have u0 := HO.out.cellAt k (by omega)
      rw [List.getElem?_eq_getElem (by omega)] at u0
      have f0 := HO.out.frozenAt k
      generalize vs[k]'(by omega) = v0 at u0
      have HXL := Lib.hid hxl
      clear hxl
      go_wp2
      all_goals try (go_region; go_wp2)
      go_roundw
      case rel =>
        have hx1 : (vs.set k (.int .i64 p)).take (k + 1) = (xs.take (k + 1)).map (Value.int .i64) := by
          rw [take_set1 _ _ _ (by have := HXL.out; omega), HT.out, show xs.take (k + 1) = xs.take k ++ [p] by rw [← HP.out, List.take_succ_eq_append_getElem (by have := HN.out; omega)]; simp [List.getD, show k < xs.length by have := HN.out; omega]]
          simp
        have ho := (HO.out.stored k (.int .i64 p)).1
        exact ⟨k + 1, _, by omega, by go_num, by first | exact ho | exact ho.alloc _, hx1, by first | exact (hb.setCell (p := ⟨w.heap.size, k, none⟩) (Nat.le_refl _) _).drew | exact hb.setCell (p := ⟨w.heap.size, k, none⟩) (Nat.le_refl _) _⟩
      case measure => simp [intOf]; omega
    · go_wp2
      go_ret
      have hkn : k = n := by omega
      have hx : vs = xs.map (Value.int .i64) := by
        have h1 := HT.out
        have h2 : vs.length = n * 1 := HO.out.1
        rw [hkn, List.take_of_length_le (by omega), List.take_of_length_le (by have := HN.out; omega)] at h1
        exact h1
      exact ⟨by simp, by rw [← hx]; exact HO.out, hb⟩
end Go.Proofs.Ytlbomopjldhmeaa

namespace Go.Proofs.Ytlbomopjldhmeaa
set_option linter.unusedSimpArgs false
set_option linter.unusedVariables false
open Go.RowKit
theorem own_form {w : World} {base e size n : Nat} {v : Value} {xs : List Value} (h : w.ownsRow base e size v n xs) : ∃ A c, v = .slice A n c := by
  rcases h.2 with ⟨hv, h0⟩ | ⟨g, cap, cur, hv, _⟩
  · exact ⟨none, 0, by rw [hv, h0]⟩
  · exact ⟨_, _, hv⟩
end Go.Proofs.Ytlbomopjldhmeaa

namespace Go.Proofs.Ytlbomopjldhmeaa
set_option linter.unusedSimpArgs false
set_option linter.unusedVariables false
open Go.RowKit
/-- A row of numbers from k on. -/
def mks (k : Int) (m : Nat) : List Value := (List.range m).map fun j : Nat => Value.int .i64 (k + j)
theorem mks_get (k : Int) (m j : Nat) (h : j < m) : (mks k m)[j]? = some (.int .i64 (k + j)) := by simp [mks, h]
theorem mks_succ (k : Int) (m : Nat) : mks k (m + 1) = mks k m ++ [.int .i64 (k + m)] := by simp [mks, List.range_succ]
/-- What a mark leaves. -/
def Marked (w : World) (base : Nat) (e : TypeId) (size : Nat) (v : Value) (n : Nat) (k : Int) (r : Ending) (w' : World) : Prop :=
  r = .returned (.int .i64 (k + ((n * size : Nat) : Int))) ∧ w'.ownsRow base e size v n (mks k (n * size)) ∧ w.grownBy w' v.ownBlock
set_option maxHeartbeats 800000 in
theorem laws_markIntS (base n : Nat) (v : Value) (xs : List Value) (k : Int) (w : World) (h : w.ownsRow base 3 1 v n xs) (hk : 0 ≤ k) (hk' : k ≤ 1125899906842624) (hs : n ≤ 2000000) :
    Calls Try.prog 16 #[v, .int .i64 k] w fun e w' => Marked w base 3 1 v n k e w' := by
  rcases h.2 with ⟨rfl, rfl⟩ | ⟨g, cap, _, rfl, hbg, hgh, _⟩
  · clear h
    go_enter Try.func16, Try.ntmps16
    go_wp2
    go_loopw [5, 1] (fun i u wr => i = .int .i64 0 ∧ u = .int .i64 k ∧ wr = w) (fun i _ _ => 0)
    case atStart => exact ⟨rfl, rfl, rfl⟩
    case round =>
      obtain ⟨rfl, rfl, rfl⟩ := hrel
      go_wp2
      go_ret
      exact ⟨by simp, World.ownsRow_nil _ _ _ _, grown_refl _ _⟩
  · have HO := Lib.hid h
    have hgl : g < w.heap.size := (h.lt g rfl).2
    clear h hgh
    go_enter Try.func16, Try.ntmps16
    go_wp2
    go_loopw [5, 1] (fun i u wr => ∃ (j : Nat) (ys : List Value), j ≤ n ∧ i = .int .i64 j ∧ u = .int .i64 (k + j) ∧ Hid (wr.ownsRow base 3 1 (.slice (some ⟨g, 0, none⟩) n cap) n ys) ∧ Hid (ys.take j = mks k j) ∧ Hid (w.grownBy wr (some g))) (fun i _ _ => n - (intOf i).toNat)
    case atStart => exact ⟨0, xs, by omega, rfl, by simp, HO.out, by simp [Hid, mks], grown_refl _ _⟩
    case round =>
      obtain ⟨j, ys, hj, rfl, rfl, HY, HT, HGR⟩ := hrel
      by_cases hlt : j < n
      · have hl : ys.length = n * 1 := HY.out.1
        have u0 := HY.out.cellAt j (by omega)
        rw [List.getElem?_eq_getElem (by omega)] at u0
        have f0 := HY.out.frozenAt j
        generalize ys[j]'(by omega) = v0 at u0
        have HL := Lib.hid hl
        clear hl
        go_wp2
        all_goals try (go_region; go_wp2)
        all_goals go_roundw
        case rel =>
          have ho := HY.out.stored j (.int .i64 (k + j))
          refine ⟨j + 1, _, by omega, by go_num, by go_num, by first | exact ho.1 | exact ho.1.drew, ?_, by first | exact grown_tr HGR.out ho.2 | exact grown_tr HGR.out ⟨ho.2.os, ho.2.tape, ho.2.output, ho.2.size, ho.2.block⟩⟩
          rw [mks_succ, ← HT.out]
          exact take_set1 ys j _ (by have := HL.out; omega)
        case measure => simp [intOf]; omega
      · obtain rfl : j = n := by omega
        go_wp2
        go_ret
        refine ⟨by simp, ?_, HGR.out⟩
        have h1 := HT.out
        have h2 : ys.length = j * 1 := HY.out.1
        rw [List.take_of_length_le (by omega)] at h1
        rw [Nat.mul_one, ← h1]
        exact HY.out
set_option maxHeartbeats 800000 in
theorem laws_heldIntS (base n : Nat) (v : Value) (k : Int) (w : World) (h : w.ownsRow base 3 1 v n (mks k n)) (hk : 0 ≤ k) (hk' : k ≤ 1125899906842624) (hs : n ≤ 2000000) :
    Calls Try.prog 18 #[v, .int .i64 k] w fun e w' => e = .returned (.int .i64 (k + n)) ∧ Below w.heap.size w w' := by
  obtain ⟨A, c, rfl⟩ := own_form h
  rcases h.2 with ⟨hv, rfl⟩ | ⟨g, cap, _, hv, hbg, hgh, _⟩
  · clear h hv
    go_enter Try.func18, Try.ntmps18
    go_wp2
    go_loop [5, 1] (fun i u => i = .int .i64 0 ∧ u = .int .i64 k) (fun i _ => 0)
    case atStart => exact ⟨rfl, rfl⟩
    case round =>
      obtain ⟨rfl, rfl⟩ := hrel
      go_wp2
      go_ret
      exact ⟨by simp, Below.refl _ _⟩
  · cases hv
    have HO := Lib.hid h
    clear h hgh
    go_enter Try.func18, Try.ntmps18
    go_wp2
    go_loopw [5, 1] (fun i u wr => ∃ j : Nat, j ≤ n ∧ i = .int .i64 j ∧ u = .int .i64 (k + j) ∧ Below w.heap.size w wr) (fun i _ _ => n - (intOf i).toNat)
    case atStart => exact ⟨0, by omega, rfl, by simp, Below.refl _ _⟩
    case round =>
      obtain ⟨j, hj, rfl, rfl, hB⟩ := hrel
      by_cases hlt : j < n
      · have u0 := (own_below HO.out hB).cellAt j (by omega)
        rw [mks_get k n j hlt] at u0
        go_wp2
        go_roundw
        case rel => exact ⟨j + 1, by omega, by go_num, by go_num, hB⟩
        case measure => simp [intOf]; omega
      · obtain rfl : j = n := by omega
        go_wp2
        go_ret
        exact ⟨by simp, hB⟩
end Go.Proofs.Ytlbomopjldhmeaa

namespace Go.Proofs.Ytlbomopjldhmeaa
set_option linter.unusedSimpArgs false
set_option linter.unusedVariables false
open Go.RowKit
/-- Only blocks from a to b - 1 have turned, of those that were there. -/
structure Tch (a b : Nat) (w w' : World) : Prop where
  os : w'.os = w.os
  tape : w'.tape = w.tape
  output : w'.output = w.output
  size : w.heap.size ≤ w'.heap.size
  block : ∀ k, k < w.heap.size → (k < a ∨ b ≤ k) → w'.heap[k]? = w.heap[k]?
theorem Tch.refl (a b : Nat) (w : World) : Tch a b w w := ⟨rfl, rfl, rfl, Nat.le_refl _, fun _ _ _ => rfl⟩
theorem Tch.trans {a b : Nat} {w w1 w2 : World} (h : Tch a b w w1) (k : Tch a b w1 w2) : Tch a b w w2 :=
  ⟨k.os.trans h.os, k.tape.trans h.tape, k.output.trans h.output, Nat.le_trans h.size k.size, fun i hi hr => (k.block i (Nat.lt_of_lt_of_le hi h.size) hr).trans (h.block i hi hr)⟩
theorem Tch.of_grown {a b : Nat} {w w' : World} {row : Option Nat} (h : w.grownBy w' row) (hr : ∀ k, row = some k → a ≤ k ∧ k < b) : Tch a b w w' :=
  ⟨h.os, h.tape, h.output, h.size, fun k hk ho => h.block k hk fun e => by have := hr k e.symm; omega⟩
theorem Tch.below {a b B : Nat} {w w' : World} (h : Tch a b w w') (hB : B ≤ a) (hs : B ≤ w.heap.size) : Below B w w' :=
  ⟨h.os, h.tape, h.output, h.size, fun k hk => h.block k (by omega) (by omega)⟩
theorem Tch.mono {a b a' b' : Nat} {w w' : World} (h : Tch a b w w') (ha : a' ≤ a) (hb : b ≤ b') : Tch a' b' w w' :=
  ⟨h.os, h.tape, h.output, h.size, fun k hk ho => h.block k hk (by omega)⟩
theorem Tch.drew {a b : Nat} {w w' : World} (h : Tch a b w w') : Tch a b w w'.drew := ⟨h.os, h.tape, h.output, h.size, h.block⟩
/-- P speaks of blocks lo to hi - 1 alone. -/
def Loc (lo hi : Nat) (P : World → Prop) : Prop := ∀ w w' : World, P w → (∀ k, lo ≤ k → k < hi → w'.heap[k]? = w.heap[k]?) → P w'
/-- P holds, of blocks lo to hi - 1. -/
structure As (lo hi : Nat) (P : World → Prop) (w : World) : Prop where
  it : P w
  le : hi ≤ w.heap.size
  loc : Loc lo hi P
section
variable {lo hi a b : Nat} {P : World → Prop} {w w' : World}
theorem As.step (h : As lo hi P w) (hb : Below w.heap.size w w') : As lo hi P w' :=
  ⟨h.loc _ _ h.it fun k _ hk => hb.block k (Nat.lt_of_lt_of_le hk h.le), Nat.le_trans h.le hb.size, h.loc⟩
theorem As.turn (h : As lo hi P w) (ht : Tch a b w w') (hd : b ≤ lo ∨ hi ≤ a) : As lo hi P w' :=
  ⟨h.loc _ _ h.it fun k hl hk => ht.block k (Nat.lt_of_lt_of_le hk h.le) (by omega), Nat.le_trans h.le ht.size, h.loc⟩
theorem As.alloc (h : As lo hi P w) (o : Obj) : As lo hi P (w.alloc o) := h.step ((Below.refl _ _).alloc (Nat.le_refl _) o)
theorem As.keep (h : As lo hi P w) (hk : ∀ k, lo ≤ k → k < hi → w'.heap[k]? = w.heap[k]?) (hs : w.heap.size ≤ w'.heap.size) : As lo hi P w' :=
  ⟨h.loc _ _ h.it hk, Nat.le_trans h.le hs, h.loc⟩
end
theorem Loc.and {lo hi : Nat} {P Q : World → Prop} (hP : Loc lo hi P) (hQ : Loc lo hi Q) : Loc lo hi fun w => P w ∧ Q w :=
  fun w w' h hk => ⟨hP w w' h.1 hk, hQ w w' h.2 hk⟩
theorem Loc.mono {lo hi lo' hi' : Nat} {P : World → Prop} (h : Loc lo hi P) (h1 : lo' ≤ lo) (h2 : hi ≤ hi') : Loc lo' hi' P :=
  fun w w' hp hk => h w w' hp fun k a b => hk k (by omega) (by omega)
theorem IS.loc (B : Nat) (A : Option Addr) (xs : List Int) : Loc 0 B fun w => IS w B A xs :=
  fun w w' h hk => h.keep fun p hp => World.cell?_of_block (hk p.block (Nat.zero_le _) hp)
/-- A row of the call's own in blocks lo to hi - 1. -/
def OwR (lo hi : Nat) (e : TypeId) (size : Nat) (v : Value) (n : Nat) (xs : List Value) (w : World) : Prop :=
  w.ownsRow lo e size v n xs ∧ ∀ k, v.ownBlock = some k → k < hi
section
variable {lo hi lo' hi' : Nat} {e : TypeId} {size n : Nat} {v : Value} {xs : List Value} {w w' : World}
theorem OwR.start (h : w.ownsRow lo e size v n xs) : OwR lo w.heap.size e size v n xs w := ⟨h, fun k hk => (h.lt k hk).2⟩
theorem OwR.mono (h : OwR lo hi e size v n xs w) (h1 : lo' ≤ lo) (h2 : hi ≤ hi') : OwR lo' hi' e size v n xs w := ⟨own_mono h.1 h1, fun k hk => Nat.lt_of_lt_of_le (h.2 k hk) h2⟩
theorem OwR.keep (h : OwR lo hi e size v n xs w) (hk : ∀ k, lo ≤ k → k < hi → w'.heap[k]? = w.heap[k]?) : OwR lo hi e size v n xs w' := by
  refine ⟨⟨h.1.1, ?_⟩, h.2⟩
  rcases h.1.2 with hn | ⟨g, cap, cur, rfl, hb, hg, r⟩
  · exact .inl hn
  · exact .inr ⟨g, cap, cur, rfl, hb, by rw [hk g hb (h.2 g rfl)]; exact hg, r⟩
theorem OwR.loc (lo hi : Nat) (e : TypeId) (size : Nat) (v : Value) (n : Nat) (xs : List Value) : Loc lo hi (OwR lo hi e size v n xs) := fun w w' h hk => h.keep hk
theorem OwR.nil (lo hi : Nat) (e : TypeId) (size : Nat) (w : World) : OwR lo hi e size (.slice none 0 0) 0 [] w := ⟨World.ownsRow_nil _ _ _ _, fun k hk => by simp [Value.ownBlock] at hk⟩
theorem OwR.step (h : OwR lo hi e size v n xs w) (hb : Below w.heap.size w w') : OwR lo hi e size v n xs w' := by
  refine ⟨own_below h.1 hb, h.2⟩
end
section
variable {lo hi : Nat} {n c : Nat} {A : Option Addr} {ps : List Pt} {xs : List Int} {w : World}
theorem OwR.ints (h : OwR lo hi 3 1 (.slice A n c) n (xs.map (Value.int .i64)) w) : IS w hi A xs := by
  intro hn
  obtain ⟨b, off, rfl, _, hc⟩ := IS.of_own h.1 hn
  exact ⟨b, off, rfl, h.2 b rfl, hc⟩
end
end Go.Proofs.Ytlbomopjldhmeaa

namespace Go.Proofs.Ytlbomopjldhmeaa
set_option linter.unusedSimpArgs false
set_option linter.unusedVariables false
open Go.RowKit
/-- What is left of a size. -/
def leftOf (l : Int) (s : Nat) : Int := if (s : Int) ≤ l then l - s else -1
end Go.Proofs.Ytlbomopjldhmeaa

namespace Go.Proofs.Ytlbomopjldhmeaa
set_option linter.unusedSimpArgs false
set_option linter.unusedVariables false
open Go.RowKit
/-- What a mark leaves, where the marks do not matter. -/
def MkW (lo hi : Nat) (w : World) (k top : Int) (e : Ending) (w' : World) : Prop := ∃ k' : Int, e = .returned (.int .i64 k') ∧ k ≤ k' ∧ k' ≤ top ∧ Tch lo hi w w'
end Go.Proofs.Ytlbomopjldhmeaa

namespace Go.Proofs.Ytlbomopjldhmeaa
set_option linter.unusedSimpArgs false
set_option linter.unusedVariables false
open Go.RowKit
/-- Of what was there when the law began nothing has turned. -/
def Bl (W wk : World) : Prop := Below W.heap.size W wk
theorem Bl.step {W wk wl : World} (h : Bl W wk) (hb : Below wk.heap.size wk wl) : Bl W wl := Below.trans h (hb.mono (Below.size h))
theorem Bl.alloc {W wk : World} (h : Bl W wk) (o : Obj) : Bl W (wk.alloc o) := h.step ((Below.refl _ _).alloc (Nat.le_refl _) o)
theorem Bl.turn {a b : Nat} {W wk wl : World} (h : Bl W wk) (ht : Tch a b wk wl) (ha : W.heap.size ≤ a) : Bl W wl := Below.trans h (ht.below ha (Below.size h))
theorem Bl.refl (W : World) : Bl W W := Below.refl _ _
theorem Bl.le {W wk : World} (h : Bl W wk) : W.heap.size ≤ wk.heap.size := Below.size h
/-- A row of numbers of the call's own, in blocks lo to hi - 1. -/
theorem row_start {lo size n : Nat} {e : TypeId} {v : Value} {xs : List Value} {w : World} (h : w.ownsRow lo e size v n xs) : As lo w.heap.size (OwR lo w.heap.size e size v n xs) w := ⟨OwR.start h, Nat.le_refl _, OwR.loc _ _ _ _ _ _ _⟩
theorem As.ints {lo hi n c : Nat} {A : Option Addr} {xs : List Int} {w : World} (h : As lo hi (OwR lo hi 3 1 (.slice A n c) n (xs.map (Value.int .i64))) w) : IS w w.heap.size A xs := h.it.ints.more h.le
/-- What a mark of an answer leaves. -/
def MkS (lo hi : Nat) (P : World → Prop) (w : World) (k' : Int) (e : Ending) (w' : World) : Prop := e = .returned (.int .i64 k') ∧ As lo hi P w' ∧ Tch lo hi w w'
theorem mark_ints (lo hi n : Nat) (v : Value) (xs : List Value) (k : Int) (w : World) (h : As lo hi (OwR lo hi 3 1 v n xs) w) (hk : 0 ≤ k) (hk' : k ≤ 562949953421312) (hs : n ≤ 2000000) :
    Calls Try.prog 16 #[v, .int .i64 k] w fun e w' => MkS lo hi (OwR lo hi 3 1 v n (mks k n)) w (k + n) e w' := by
  refine (laws_markIntS lo n v xs k w h.it.1 hk (by omega) hs).mono ?_
  rintro e w' ⟨he, ho, hg⟩
  have hl := h.it.1.lt
  rw [Nat.mul_one] at he ho
  exact ⟨he, ⟨⟨ho, h.it.2⟩, Nat.le_trans h.le hg.size, OwR.loc _ _ _ _ _ _ _⟩, Tch.of_grown hg fun k hk => ⟨(hl k hk).1, h.it.2 k hk⟩⟩
theorem held_ints (lo hi n : Nat) (v : Value) (k : Int) (w : World) (h : As lo hi (OwR lo hi 3 1 v n (mks k n)) w) (hk : 0 ≤ k) (hk' : k ≤ 562949953421312) (hs : n ≤ 2000000) :
    Calls Try.prog 18 #[v, .int .i64 k] w fun e w' => e = .returned (.int .i64 (k + n)) ∧ Below w.heap.size w w' :=
  laws_heldIntS lo n v k w h.it.1 hk (by omega) hs
/-- The mark of an argument's copy. -/
theorem markw_ints (lo hi n : Nat) (v : Value) (xs : List Value) (k : Int) (w : World) (h : As lo hi (OwR lo hi 3 1 v n xs) w) (hk : 0 ≤ k) (hk' : k ≤ 562949953421312) (hs : n ≤ 2000000) :
    Calls Try.prog 16 #[v, .int .i64 k] w fun e w' => MkW lo hi w k (k + 6000000000000) e w' := by
  refine (mark_ints lo hi n v xs k w h hk hk' hs).mono ?_
  rintro e w' ⟨he, _, ht⟩
  exact ⟨_, he, by omega, by omega, ht⟩
theorem leftOf_no {l : Int} {s : Nat} (h : ¬ (s : Int) ≤ l) : leftOf l s = -1 := by unfold leftOf; rw [if_neg h]
theorem leftOf_ok {l : Int} {s : Nat} (h : (s : Int) ≤ l) : leftOf l s = l - s := by unfold leftOf; rw [if_pos h]
end Go.Proofs.Ytlbomopjldhmeaa

namespace Go.Proofs.Ytlbomopjldhmeaa
set_option linter.unusedSimpArgs false
set_option linter.unusedVariables false
open Go.RowKit
theorem CS.loc (B : Nat) (A : Option Addr) (ps : List Ac) : Loc 0 B fun w => CS w B A ps :=
  fun w w' h hk => h.keep fun p hp => World.cell?_of_block (hk p.block (Nat.zero_le _) hp)
/-- Three cells written one after the other. -/
def set3 (xs : List Value) (j : Nat) (p : Ac) : List Value :=
  ((xs.set j (.int .i64 p.k)).set (j + 1) (.int .i64 p.a)).set (j + 2) (.int .i64 p.b)
theorem take_set3 (xs : List Value) (j : Nat) (p : Ac) (h : j + 3 ≤ xs.length) : (set3 xs j p).take (j + 3) = xs.take j ++ p.cells := by
  apply List.ext_getElem?
  intro i
  have hl : (xs.take j).length = j := by simp; omega
  rcases Nat.lt_or_ge i j with h1 | h1
  · rw [List.getElem?_append_left (by omega)]
    simp [set3, show i < j + 3 by omega, h1, show ¬ j = i by omega, show ¬ j + 1 = i by omega, show ¬ j + 2 = i by omega]
  · rw [List.getElem?_append_right (by omega), hl]
    obtain ⟨d, rfl⟩ : ∃ d, i = j + d := ⟨i - j, by omega⟩
    rw [Nat.add_sub_cancel_left]
    match d with
    | 0 => simp [set3, Ac.cells, List.getElem?_set]; omega
    | 1 => simp [set3, Ac.cells, List.getElem?_set]; omega
    | 2 => simp [set3, Ac.cells, List.getElem?_set]; omega
    | d + 3 => simp [Ac.cells]; omega
theorem own_set3 {w : World} {base e n cap g : Nat} {xs : List Value} (h : w.ownsRow base e 3 (.slice (some ⟨g, 0, none⟩) n cap) n xs) (j : Nat) (p : Ac) :
    (((w.setCell ⟨g, j, none⟩ (.int .i64 p.k)).setCell ⟨g, j + 1, none⟩ (.int .i64 p.a)).setCell ⟨g, j + 2, none⟩ (.int .i64 p.b)).ownsRow base e 3 (.slice (some ⟨g, 0, none⟩) n cap) n (set3 xs j p) :=
  (((h.stored j (.int .i64 p.k)).1.stored (j + 1) (.int .i64 p.a)).1.stored (j + 2) (.int .i64 p.b)).1
theorem below_set3 {B : Nat} {a w : World} (h : Below B a w) {g : Nat} (hg : B ≤ g) (j : Nat) (p : Ac) :
    Below B a (((w.setCell ⟨g, j, none⟩ (.int .i64 p.k)).setCell ⟨g, j + 1, none⟩ (.int .i64 p.a)).setCell ⟨g, j + 2, none⟩ (.int .i64 p.b)) :=
  ((h.setCell (p := ⟨g, j, none⟩) hg _).setCell (p := ⟨g, j + 1, none⟩) hg _).setCell (p := ⟨g, j + 2, none⟩) hg _
def eqAc (p q : Ac) : Bool := p.k == q.k && p.a == q.a && p.b == q.b
theorem eqAc_iff (p q : Ac) : eqAc p q = true ↔ p = q := by
  obtain ⟨a, b, c⟩ := p
  obtain ⟨a', b', c'⟩ := q
  simp [eqAc, and_assoc]
theorem mks_three (k k3 : Int) (m : Nat) (h : k3 = k + m) : mks k (m + 3) = mks k m ++ (⟨k3, k3 + 1, k3 + 1 + 1⟩ : Ac).cells := by
  have e : (⟨k3, k3 + 1, k3 + 1 + 1⟩ : Ac) = ⟨k + m, k + m + 1, k + m + 2⟩ := by subst h; congr 1; omega
  rw [e, mks_succ k (m + 2), mks_succ k (m + 1), mks_succ k m]
  simp [Ac.cells]
  omega
end Go.Proofs.Ytlbomopjldhmeaa

namespace Go.Proofs.Ytlbomopjldhmeaa
set_option linter.unusedSimpArgs false
set_option linter.unusedVariables false
open Go.ChangeShapes Go.WideShapes Go.ChangeAt Go.RowKit Go.Deep
theorem choose_acts (f : Nat → Nat → Option Value) (len : Nat) (hp : ∀ i, i < len → ∃ p : Ac, ∀ j, j < 3 → f i j = p.cells[j]?) :
    ∃ ps : List Ac, ps.length = len ∧ ∀ i, i < len → ∀ j, j < 3 → f i j = (ps.getD i default).cells[j]? := by
  induction len with
  | zero => exact ⟨[], rfl, fun i hi => by omega⟩
  | succ k ih =>
    obtain ⟨ps, hl, hps⟩ := ih (fun i hi => hp i (by omega))
    obtain ⟨p, hpp⟩ := hp k (by omega)
    refine ⟨ps ++ [p], by simp [hl], fun i hi j hj => ?_⟩
    rcases Nat.lt_or_ge i k with h1 | h1
    · rw [hps i h1 j hj]; simp [List.getD, List.getElem?_append, hl, h1]
    · obtain rfl : i = k := by omega
      rw [hpp j hj]; simp [List.getD, List.getElem?_append, hl]
end Go.Proofs.Ytlbomopjldhmeaa

namespace Go.Proofs.Ytlbomopjldhmeaa
set_option linter.unusedSimpArgs false
set_option linter.unusedVariables false
open Go.RowKit
theorem OwR.chgs {lo hi : Nat} {n c : Nat} {A : Option Addr} {ps : List Ac} {w : World} (h : OwR lo hi 44 3 (.slice A n c) n (ps.flatMap Ac.cells) w) : CS w hi A ps := by
  intro hn
  obtain ⟨b, off, rfl, _, hc⟩ := CS.of_own h.1 hn
  exact ⟨b, off, rfl, h.2 b rfl, hc⟩
theorem As.chgs {lo hi n c : Nat} {A : Option Addr} {ps : List Ac} {w : World} (h : As lo hi (OwR lo hi 44 3 (.slice A n c) n (ps.flatMap Ac.cells)) w) : CS w w.heap.size A ps := h.it.chgs.more h.le
set_option maxHeartbeats 800000 in
theorem laws_eqChange (p q : Ac) (w : World) :
    Calls Try.prog 41 #[.agg #[.int .i64 p.k, .int .i64 p.a, .int .i64 p.b], .agg #[.int .i64 q.k, .int .i64 q.a, .int .i64 q.b]] w fun e w' => e = .returned (.bool (eqAc p q)) ∧ Below w.heap.size w w' := by
  obtain ⟨k, a, b⟩ := p
  obtain ⟨k', a', b'⟩ := q
  go_enter Try.func41, Try.ntmps41
  go_wp2
  all_goals
    go_ret
    refine ⟨ret_b ?_, ((Below.refl _ _).alloc (Nat.le_refl _) _).alloc (by simp) _⟩
    simp_all [eqAc, bne]
set_option maxRecDepth 100000 in
set_option maxHeartbeats 800000 in
theorem laws_eqChangeS (A A' : Option Addr) (n n' c c' : Nat) (ps qs : List Ac) (w : World) (B : Nat) (hB : B ≤ w.heap.size) (hn : n = ps.length) (hn' : n' = qs.length) (h : CS w B A ps) (h' : CS w B A' qs) (hs : n ≤ 2000000) (hs' : n' ≤ 2000000) :
    Calls Try.prog 15 #[.slice A n c, .slice A' n' c'] w fun e w' => e = .returned (.bool (decide (ps = qs))) ∧ Below w.heap.size w w' := by
  by_cases hl : n = n'
  · have hne : ((n : Int) != (n' : Int)) = false := by simp [hl]
    have HL := Lib.hid hl
    have HN := Lib.hid hn
    have HN' := Lib.hid hn'
    have H := Lib.hid h
    have H' := Lib.hid h'
    clear hl hn hn' h h'
    go_enter Try.func15, Try.ntmps15
    go_wp2
    go_loopw [5] (fun i wr => ∃ k : Nat, k ≤ n ∧ i = .int .i64 k ∧ Hid (ps.take k = qs.take k) ∧ Below w.heap.size w wr) (fun i _ => n - (intOf i).toNat)
    case atStart => exact ⟨0, Nat.zero_le _, rfl, by simp [Hid], Below.refl _ _⟩
    case round =>
      obtain ⟨k, hk, rfl, HT, hb⟩ := hrel
      by_cases hlt : k < n
      · obtain ⟨b, off, rfl, hbB, hc⟩ := H.out (by have := HN.out; omega)
        obtain ⟨b', off', rfl, hbB', hc'⟩ := H'.out (by have := HN'.out; have := HL.out; omega)
        obtain ⟨c0, c1, c2⟩ := hc k (by have := HN.out; omega)
        obtain ⟨d0, d1, d2⟩ := hc' k (by have := HN'.out; have := HL.out; omega)
        clear hc hc' H H'
        have hlt' : k < n' := by have := HL.out; omega
        have b0 := (hb.cell (p := ⟨b, off + k * 3, none⟩) (by simp; omega)).trans c0
        have b1 := (hb.cell (p := ⟨b, off + k * 3 + 1, none⟩) (by simp; omega)).trans c1
        have b2 := (hb.cell (p := ⟨b, off + k * 3 + 2, none⟩) (by simp; omega)).trans c2
        have e0 := (hb.cell (p := ⟨b', off' + k * 3, none⟩) (by simp; omega)).trans d0
        have e1 := (hb.cell (p := ⟨b', off' + k * 3 + 1, none⟩) (by simp; omega)).trans d1
        have e2 := (hb.cell (p := ⟨b', off' + k * 3 + 2, none⟩) (by simp; omega)).trans d2
        clear c0 c1 c2 d0 d1 d2
        generalize hp : ps.getD k default = p at *
        generalize hq : qs.getD k default = q at *
        have HP := Lib.hid hp
        have HQ := Lib.hid hq
        clear hp hq
        go_wp2
        go_still_tail 8, (by kernel_rfl)
        go_wp2_with (go_at_call 41; refine (laws_eqChange _ _ _).mono ?_; rintro e w1 ⟨rfl, hb1⟩)
        · have ht : (!eqAc p q) = true := by assumption
          go_ret
          refine ⟨ret_b ?_, hb.drew.trans (hb1.mono hb.size)⟩
          have hne : ps.getD k default ≠ qs.getD k default := by
            rw [HP.out, HQ.out]; intro e; rw [(eqAc_iff p q).2 e] at ht; cases ht
          simp [getD_ne ps qs k hne]
        · have ht : (!eqAc p q) = false := by assumption
          have he : ps.getD k default = qs.getD k default := by
            rw [HP.out, HQ.out]; exact (eqAc_iff p q).1 (by simpa using ht)
          have hts := take_step ps qs k (by have := HN.out; omega) (by have := HN'.out; omega) HT.out he
          clear he
          go_roundw
          case rel => exact ⟨k + 1, by omega, by go_num, hts, hb.drew.trans (hb1.mono hb.size)⟩
          case measure => simp [intOf]; omega
      · go_wp2
        go_ret
        refine ⟨ret_b ?_, hb⟩
        have hkn : k = n := by omega
        have := take_all_eq ps qs n HN.out (HL.out.trans HN'.out) (by rw [← hkn]; exact HT.out)
        simp [this]
  · have hne : ((n : Int) != (n' : Int)) = true := by simp; omega
    have hf : decide (ps = qs) = false := by
      rw [decide_eq_false_iff_not]; rintro rfl; omega
    rw [hf]
    clear hl hn hn' h h' hf
    go_enter Try.func15, Try.ntmps15
    go_wp2
    go_ret
    exact ⟨rfl, Below.refl _ _⟩
set_option maxHeartbeats 400000 in
theorem laws_toChange (p : Ac) (w : World) :
    Calls Try.prog 38 #[.agg #[.int .i64 p.k, .int .i64 p.a, .int .i64 p.b]] w fun e w' => e = .returned (.agg #[.int .i64 p.k, .int .i64 p.a, .int .i64 p.b]) ∧ Below w.heap.size w w' := by
  obtain ⟨k, a, b⟩ := p
  go_enter Try.func38, Try.ntmps38
  go_wp2
  refine bodyPost_ret (v := .agg #[.int .i64 k, .int .i64 a, .int .i64 b]) (by simp [results, Try.results38, go_sem]) rfl ⟨rfl, ?_⟩
  exact (((Below.refl _ _).alloc (Nat.le_refl _) _).alloc (by simp) _).alloc (by simp; omega) _
theorem info_chg : (Try.prog.info? 44).map (fun i => (i.zero, i.size, i.bytes)) = some (some (.agg #[.int .i64 0, .int .i64 0, .int .i64 0]), 3, 24) := by kernel_rfl
set_option maxHeartbeats 800000 in
theorem laws_toChangeS (A : Option Addr) (n c : Nat) (ps : List Ac) (w : World) (B : Nat) (hB : B ≤ w.heap.size) (hn : n = ps.length) (h : CS w B A ps) (hs : n ≤ 2000000) :
    Calls Try.prog 12 #[.slice A n c] w fun e w' => e = .returned (.slice (some ⟨w.heap.size, 0, none⟩) n n) ∧ w'.ownsRow w.heap.size 44 3 (.slice (some ⟨w.heap.size, 0, none⟩) n n) n (ps.flatMap Ac.cells) ∧ Below w.heap.size w w' := by
  obtain ⟨i0, hi, hz0, hz1, hz2⟩ := info_parts info_chg
  obtain ⟨w0, hmk, hown0, hgr0⟩ := run_make_full (P := Try.prog) w w.heap.size 28 44 i0 _ 3 Try.underlying28 hi hz0 hz1 .i64 .i64 n (by rw [hz2]; omega) (by unfold maxLen; omega) (Nat.le_refl _)
  have H := Lib.hid h
  have HN := Lib.hid hn
  clear hn h
  go_enter Try.func12, Try.ntmps12
  go_wp2
  go_loopw [4] (fun i wr => ∃ (k : Nat) (xs : List Value), k ≤ n ∧ i = .int .i64 k ∧ Hid (wr.ownsRow w.heap.size 44 3 (.slice (some ⟨w.heap.size, 0, none⟩) n n) n xs) ∧ Hid (xs.take (k * 3) = (ps.take k).flatMap Ac.cells) ∧ Below w.heap.size w wr) (fun i _ => n - (intOf i).toNat)
  case atStart => exact ⟨0, _, Nat.zero_le _, rfl, hown0, by simp [Hid], ⟨hgr0.os, hgr0.tape, hgr0.output, hgr0.size, fun k hk => hgr0.block k hk (by simp)⟩⟩
  case round =>
    obtain ⟨k, xs, hk, rfl, HO, HT, hb⟩ := hrel
    by_cases hlt : k < n
    · obtain ⟨b, off, rfl, hbB, hc⟩ := H.out (by have := HN.out; omega)
      obtain ⟨c0, c1, c2⟩ := hc k (by have := HN.out; omega)
      clear hc H
      have b0 := (hb.cell (p := ⟨b, off + k * 3, none⟩) (by simp; omega)).trans c0
      have b1 := (hb.cell (p := ⟨b, off + k * 3 + 1, none⟩) (by simp; omega)).trans c1
      have b2 := (hb.cell (p := ⟨b, off + k * 3 + 2, none⟩) (by simp; omega)).trans c2
      clear c0 c1 c2
      generalize hp : ps.getD k default = p at *
      have HP := Lib.hid hp
      clear hp
      go_wp2_with fail
      refine (laws_toChange _ _).mono ?_
      rintro e w1 ⟨rfl, hb1⟩
      have hO1 := own_below HO.out hb1
      have hxl : xs.length = n * 3 := hO1.1
      have u0 := hO1.cellAt (k * 3) (by omega)
      have u1 := hO1.cellAt (k * 3 + 1) (by omega)
      have u2 := hO1.cellAt (k * 3 + 2) (by omega)
      rw [List.getElem?_eq_getElem (by omega)] at u0 u1 u2
      have f0 := hO1.frozenAt (k * 3)
      have f1 := hO1.frozenAt (k * 3 + 1)
      have f2 := hO1.frozenAt (k * 3 + 2)
      generalize xs[k * 3]'(by omega) = v0 at u0
      generalize xs[k * 3 + 1]'(by omega) = v1 at u1
      generalize xs[k * 3 + 2]'(by omega) = v2 at u2
      have HO1 := Lib.hid hO1
      have HXL := Lib.hid hxl
      clear hO1 hxl HO
      go_wp2
      go_roundw
      case rel =>
        have hx5 : (set3 xs (k * 3) p).take ((k + 1) * 3) = (ps.take (k + 1)).flatMap Ac.cells := by
          rw [show (k + 1) * 3 = k * 3 + 3 by omega, take_set3 xs (k * 3) p (by have := HXL.out; omega), HT.out, take_succ_getD ps k (by have := HN.out; omega), HP.out]
          simp
        exact ⟨k + 1, _, by omega, by go_num, own_set3 HO1.out (k * 3) p, hx5, below_set3 (hb.trans (hb1.mono hb.size)) (Nat.le_refl _) _ _⟩
      case measure => simp [intOf]; omega
    · go_wp2
      go_ret
      have hkn : k = n := by omega
      have hx : xs = ps.flatMap Ac.cells := by
        have h1 := HT.out
        have h2 : xs.length = n * 3 := HO.out.1
        rw [hkn, List.take_of_length_le (by omega), List.take_of_length_le (by have := HN.out; omega)] at h1
        exact h1
      exact ⟨by simp, by rw [← hx]; exact HO.out, hb⟩
set_option maxHeartbeats 400000 in
theorem laws_szChangeS (A : Option Addr) (n c : Nat) (l : Int) (w : World) (hl0 : 0 ≤ l) (hl : l ≤ 2000000) (hn : n ≤ 9223372036854775807) :
    Calls Try.prog 9 #[.slice A n c, .int .i64 l] w fun e w' => e = .returned (.int .i64 (if l - n < 0 then -1 else l - n)) ∧ w = w' := by
  by_cases h : l - n < 0
  · rw [if_pos h]
    go_enter Try.func9, Try.ntmps9
    go_wp2
    go_ret
    exact ⟨rfl, rfl⟩
  · rw [if_neg h]
    go_enter Try.func9, Try.ntmps9
    go_wp2
    go_ret
    exact ⟨rfl, rfl⟩
theorem sz_chgs (A : Option Addr) (n c : Nat) (ps : List Ac) (l : Int) (w : World) (hn : n = ps.length) (hl0 : 0 ≤ l) (hl : l ≤ 2000000) (hm : n ≤ 9223372036854775807) :
    Calls Try.prog 9 #[.slice A n c, .int .i64 l] w fun e w' => e = .returned (.int .i64 (leftOf l ps.length)) ∧ Below w.heap.size w w' := by
  have e : leftOf l ps.length = if l - n < 0 then -1 else l - n := by
    unfold leftOf
    rw [hn]
    split <;> split <;> omega
  rw [e]
  refine (laws_szChangeS A n c l w hl0 hl hm).mono ?_
  rintro e w' ⟨he, rfl⟩
  exact ⟨he, Below.refl _ _⟩
set_option maxRecDepth 100000 in
set_option maxHeartbeats 1600000 in
theorem laws_markChangeS (base n : Nat) (v : Value) (xs : List Value) (k : Int) (w : World) (h : w.ownsRow base 44 3 v n xs) (hk : 0 ≤ k) (hk' : k ≤ 1125899906842624) (hs : n ≤ 2000000) :
    Calls Try.prog 17 #[v, .int .i64 k] w fun e w' => Marked w base 44 3 v n k e w' := by
  rcases h.2 with ⟨rfl, rfl⟩ | ⟨g, cap, _, rfl, hbg, hgh, _⟩
  · clear h
    go_enter Try.func17, Try.ntmps17
    go_wp2
    go_loopw [5, 1] (fun i u wr => i = .int .i64 0 ∧ u = .int .i64 k ∧ wr = w) (fun i _ _ => 0)
    case atStart => exact ⟨rfl, rfl, rfl⟩
    case round =>
      obtain ⟨rfl, rfl, rfl⟩ := hrel
      go_wp2
      go_ret
      exact ⟨by simp, World.ownsRow_nil _ _ _ _, grown_refl _ _⟩
  · have HO := Lib.hid h
    have hgl : g < w.heap.size := (h.lt g rfl).2
    clear h hgh
    go_enter Try.func17, Try.ntmps17
    go_wp2
    go_loopw [5, 1] (fun i u wr => ∃ (j : Nat) (ys : List Value), j ≤ n ∧ i = .int .i64 j ∧ u = .int .i64 (k + ((j * 3 : Nat) : Int)) ∧ Hid (wr.ownsRow base 44 3 (.slice (some ⟨g, 0, none⟩) n cap) n ys) ∧ Hid (ys.take (j * 3) = mks k (j * 3)) ∧ Hid (w.grownBy wr (some g))) (fun i _ _ => n - (intOf i).toNat)
    case atStart => exact ⟨0, xs, by omega, rfl, by simp, HO.out, by simp [Hid, mks], grown_refl _ _⟩
    case round =>
      obtain ⟨j, ys, hj, rfl, rfl, HY, HT, HGR⟩ := hrel
      by_cases hlt : j < n
      · have hl : ys.length = n * 3 := HY.out.1
        have u0 := HY.out.cellAt (j * 3) (by omega)
        have u1 := HY.out.cellAt (j * 3 + 1) (by omega)
        have u2 := HY.out.cellAt (j * 3 + 2) (by omega)
        rw [List.getElem?_eq_getElem (by omega)] at u0 u1 u2
        have f0 := HY.out.frozenAt (j * 3)
        have f1 := HY.out.frozenAt (j * 3 + 1)
        have f2 := HY.out.frozenAt (j * 3 + 2)
        generalize ys[j * 3]'(by omega) = v0 at u0
        generalize ys[j * 3 + 1]'(by omega) = v1 at u1
        generalize ys[j * 3 + 2]'(by omega) = v2 at u2
        have HL := Lib.hid hl
        clear hl
        obtain ⟨k5, hk5⟩ : ∃ k5 : Int, k5 = k + ((j * 3 : Nat) : Int) := ⟨_, rfl⟩
        have hk0 : 0 ≤ k5 := by omega
        have hk1 : k5 ≤ 1125899916842624 := by omega
        rw [← hk5]
        have HK := Lib.hid hk5
        clear hk5
        go_wp2
        all_goals try (go_region; go_wp2)
        all_goals go_roundw
        case rel =>
          refine ⟨j + 1, _, by omega, by go_num, by have := HK.out; go_num, by first | exact own_set3 HY.out (j * 3) ⟨k5, k5 + 1, k5 + 1 + 1⟩ | exact (own_set3 HY.out (j * 3) ⟨k5, k5 + 1, k5 + 1 + 1⟩).drew, ?_, ?_⟩
          · rw [show (j + 1) * 3 = j * 3 + 3 by omega, take_set3 ys (j * 3) _ (by have := HL.out; omega), HT.out, mks_three k k5 _ HK.out]
            exact Lib.hid rfl
          · have a0 := HY.out.stored (j * 3) (.int .i64 k5)
            have a1 := a0.1.stored (j * 3 + 1) (.int .i64 (k5 + 1))
            have a2 := a1.1.stored (j * 3 + 2) (.int .i64 (k5 + 1 + 1))
            have a3 := grown_tr HGR.out (grown_tr a0.2 (grown_tr a1.2 a2.2))
            first | exact a3 | exact ⟨a3.os, a3.tape, a3.output, a3.size, a3.block⟩
        case measure => simp [intOf]; omega
      · obtain rfl : j = n := by omega
        go_wp2
        go_ret
        refine ⟨by simp, ?_, HGR.out⟩
        have h1 := HT.out
        have h2 : ys.length = j * 3 := HY.out.1
        rw [List.take_of_length_le (by omega)] at h1
        rw [← h1]
        exact HY.out
theorem mark_chgs (lo hi n : Nat) (v : Value) (xs : List Value) (k : Int) (w : World) (h : As lo hi (OwR lo hi 44 3 v n xs) w) (hk : 0 ≤ k) (hk' : k ≤ 562949953421312) (hs : n ≤ 2000000) :
    Calls Try.prog 17 #[v, .int .i64 k] w fun e w' => MkS lo hi (OwR lo hi 44 3 v n (mks k (n * 3))) w (k + ((n * 3 : Nat) : Int)) e w' := by
  refine (laws_markChangeS lo n v xs k w h.it.1 hk (by omega) hs).mono ?_
  rintro e w' ⟨he, ho, hg⟩
  have ht := Tch.of_grown (a := lo) (b := hi) hg fun k hk => ⟨(h.it.1.lt k hk).1, h.it.2 k hk⟩
  exact ⟨he, ⟨⟨ho, h.it.2⟩, Nat.le_trans h.le ht.size, OwR.loc _ _ _ _ _ _ _⟩, ht⟩
theorem markw_chgs (lo hi n : Nat) (v : Value) (xs : List Value) (k : Int) (w : World) (h : As lo hi (OwR lo hi 44 3 v n xs) w) (hk : 0 ≤ k) (hk' : k ≤ 562949953421312) (hs : n ≤ 2000000) :
    Calls Try.prog 17 #[v, .int .i64 k] w fun e w' => MkW lo hi w k (k + 6000000000000) e w' := by
  refine (mark_chgs lo hi n v xs k w h hk hk' hs).mono ?_
  rintro e w' ⟨he, _, ht⟩
  exact ⟨_, he, by omega, by omega, ht⟩
end Go.Proofs.Ytlbomopjldhmeaa

namespace Go.Proofs.Ytlbomopjldhmeaa
set_option linter.unusedSimpArgs false
set_option linter.unusedVariables false
open Go.RowKit
theorem Cm.turn {d0 b off l c g : Nat} {ys : List Int} {w w' : World} (h : Cm d0 b off l c ys w) (ht : Tch g (g + 1) w w') (hg : g < d0) : Cm d0 b off l c ys w' := h.keep (ht.block b h.hi (.inr (by have := h.lo; omega))) ht.size
end Go.Proofs.Ytlbomopjldhmeaa
