/- Words and contracts for memory that the texts behind use. -/
import Derived.WalkKit
import Derived.Laws.OwnMore
import Derived.Deep.Draws
import Derived.Test.YtlbomopjldhmeaaProg
import Derived.WalkSpells
import Derived.WalkLawsBesides
import Derived.Outline
import Derived.Lib.Hide
import Derived.BigQuiet
import Derived.Deep.QuietTactic
import Derived.StillTailTactics
import Derived.Deep.LoopGhost
import Derived.Laws.MakeOwn
import Derived.WalkSmall
import Derived.RegionTactic
import Derived.BigRegion
import Derived.Deep.RegionWith
import Derived.Deep.RegionHeld3
import Derived.Laws.Entries
import Derived.Laws.Bits64
import Derived.IntWalk
import Derived.Maps.AppendAt
import Derived.Deep.RegionLaw
import Derived.Deep.AppendLies
import Derived.Deep.Cut
import Derived.Deep.DeepCutAuto
import Derived.Laws.CopyOwn
import Derived.ArgAppend

namespace Go.Proofs.Ytlbomopjldhmeaa
set_option linter.unusedSimpArgs false
set_option linter.unusedVariables false
open Go.RowKit
/-- The slice at A reads as the numbers xs; it lies below block B. -/
def IS (w : World) (B : Nat) (A : Option Addr) (xs : List Int) : Prop :=
  0 < xs.length → ∃ b off, A = some ⟨b, off, none⟩ ∧ b < B ∧ ∀ j, j < xs.length → w.cell? ⟨b, off + j, none⟩ = some (.int .i64 (xs.getD j 0))
theorem IS.keep {w w' : World} {B : Nat} {A : Option Addr} {xs : List Int} (h : IS w B A xs) (hk : ∀ p : Addr, p.block < B → w'.cell? p = w.cell? p) : IS w' B A xs := by
  intro hn
  obtain ⟨b, off, e, hb, hc⟩ := h hn
  exact ⟨b, off, e, hb, fun j hj => (hk _ hb).trans (hc j hj)⟩
theorem IS.more {w : World} {B B' : Nat} {A : Option Addr} {xs : List Int} (h : IS w B A xs) (hB : B ≤ B') : IS w B' A xs := by
  intro hn
  obtain ⟨b, off, e, hb, hc⟩ := h hn
  exact ⟨b, off, e, by omega, hc⟩
theorem IS.below {w w' : World} {B C : Nat} {A : Option Addr} {xs : List Int} (h : IS w B A xs) (hb : Below C w w') (hC : B ≤ C) : IS w' B A xs :=
  h.keep fun _ hp => hb.cell (Nat.lt_of_lt_of_le hp hC)
theorem IS.alloc {w : World} {B : Nat} {A : Option Addr} {xs : List Int} (h : IS w B A xs) (hB : B ≤ w.heap.size) (o : Obj) : IS (w.alloc o) B A xs :=
  h.keep fun p hp => World.cell?_alloc_lt w o p (by omega)
theorem IS.nil (w : World) (B : Nat) (A : Option Addr) : IS w B A [] := fun h => absurd h (by simp)
theorem IS.of_own {w : World} {base e n c : Nat} {A : Option Addr} {xs : List Int} (h : w.ownsRow base e 1 (.slice A n c) n (xs.map (Value.int .i64))) : IS w w.heap.size A xs := by
  intro hn
  have hl : xs.length = n := by simpa using h.1
  rcases h.2 with ⟨_, h0⟩ | ⟨g, cap, cur, hv, _, hh, _⟩
  · omega
  · simp only [Value.slice.injEq] at hv
    obtain ⟨rfl, _, rfl⟩ := hv
    have hg : g < w.heap.size := by
      rcases Nat.lt_or_ge g w.heap.size with hlt | hge
      · exact hlt
      · rw [Array.getElem?_eq_none hge] at hh; cases hh
    refine ⟨g, 0, rfl, hg, fun j hj => ?_⟩
    rw [h.cellAt _ (by omega)]
    simp [List.getD, hj]
/-- The slice value is one of the call's own, of numbers. -/
def OwnI (w : World) (base : Nat) (v : Value) (xs : List Int) : Prop := w.ownsRow base 3 1 v xs.length (xs.map (Value.int .i64))
end Go.Proofs.Ytlbomopjldhmeaa

namespace Go.Proofs.Ytlbomopjldhmeaa
set_option linter.unusedSimpArgs false
set_option linter.unusedVariables false
open Go.RowKit
/-- Whether a number is in a range. -/
def rng (n lo hi : Int) : Bool := decide (lo ≤ n ∧ n ≤ hi)
theorem ret_b {a b : Bool} (h : a = b) : Ending.returned (.bool a) = .returned (.bool b) := by rw [h]
theorem ret_i {a b : Int} (h : a = b) : Ending.returned (.int .i64 a) = .returned (.int .i64 b) := by rw [h]
set_option maxHeartbeats 400000 in
theorem spec_inRange (n l m : Int) (w : World) :
    Calls Try.prog 75 #[.int .i64 n, .int .i64 l, .int .i64 m] w fun e w' => e = .returned (.bool (rng n l m)) ∧ w = w' := by
  go_enter Try.func75, Try.ntmps75
  go_wp2
  all_goals
    go_ret
    exact ⟨ret_b (by unfold rng; simp; try omega), rfl⟩
end Go.Proofs.Ytlbomopjldhmeaa

namespace Go.Proofs.Ytlbomopjldhmeaa
set_option linter.unusedSimpArgs false
set_option linter.unusedVariables false
open Go.RowKit
theorem own_below {w w' : World} {base e size n : Nat} {v : Value} {xs : List Value} (h : w.ownsRow base e size v n xs) (hb : Below w.heap.size w w') : w'.ownsRow base e size v n xs :=
  h.kept (row := none) ⟨hb.os, hb.tape, hb.output, hb.size, fun k hk _ => hb.block k hk⟩ (by cases v.ownBlock <;> simp)
theorem own_mono {w : World} {base base' e size n : Nat} {v : Value} {xs : List Value} (h : w.ownsRow base e size v n xs) (hb : base' ≤ base) : w.ownsRow base' e size v n xs :=
  ⟨h.1, h.2.imp_right fun ⟨g, cap, cur, h1, h2, h3⟩ => ⟨g, cap, cur, h1, by omega, h3⟩⟩
end Go.Proofs.Ytlbomopjldhmeaa

namespace Go.Proofs.Ytlbomopjldhmeaa
set_option linter.unusedSimpArgs false
set_option linter.unusedVariables false
open Go.RowKit
theorem info_int : (Try.prog.info? 3).map (fun i => (i.zero, i.size, i.bytes)) = some (some (.int .i64 0), 1, 8) := by kernel_rfl
def allR (l : List Int) (lo hi : Int) : Bool := l.all fun x => rng x lo hi
theorem allR_false (l : List Int) (lo hi : Int) (k : Nat) (h : k < l.length) (hr : rng (l.getD k 0) lo hi = false) : allR l lo hi = false := by
  unfold allR
  rw [List.all_eq_false]
  exact ⟨l.getD k 0, by simp [List.getD, h], by rw [hr]; simp⟩
theorem allR_true (l : List Int) (lo hi : Int) (h : ∀ k, k < l.length → rng (l.getD k 0) lo hi = true) : allR l lo hi = true := by
  unfold allR
  rw [List.all_eq_true]
  intro x hx
  obtain ⟨k, hk, rfl⟩ := List.mem_iff_getElem.1 hx
  have := h k hk
  simpa [List.getD, hk] using this
set_option maxHeartbeats 400000 in
theorem spec_allIn (A : Option Addr) (n c : Nat) (xs : List Int) (lo hi : Int) (w : World) (B : Nat) (hB : B ≤ w.heap.size) (hn : n = xs.length) (h : IS w B A xs) (hs : n ≤ 2000000) :
    Calls Try.prog 58 #[.slice A n c, .int .i64 lo, .int .i64 hi] w fun e w' => e = .returned (.bool (allR xs lo hi)) ∧ w = w' := by
  have H := Lib.hid h
  have HN := Lib.hid hn
  clear hn h
  go_enter Try.func58, Try.ntmps58
  go_wp2
  go_loop [7] (fun i => ∃ k : Nat, k ≤ n ∧ i = .int .i64 k ∧ Hid (∀ j, j < k → rng (xs.getD j 0) lo hi = true)) (fun i => n - (intOf i).toNat)
  case atStart => exact ⟨0, Nat.zero_le _, rfl, fun j hj => by omega⟩
  case round =>
    obtain ⟨k, hk, rfl, HA⟩ := hrel
    by_cases hlt : k < n
    · obtain ⟨b, off, rfl, hbB, hc⟩ := H.out (by have := HN.out; omega)
      have c0 := hc k (by have := HN.out; omega)
      clear hc H
      generalize hp : xs.getD k 0 = p at *
      have HP := Lib.hid hp
      clear hp
      cases hr : rng p lo hi
      · go_wp2_with (go_at_call 75; refine (spec_inRange _ _ _ _).mono ?_; rintro e w' ⟨rfl, rfl⟩)
        go_ret
        refine ⟨ret_b ?_, rfl⟩
        rw [allR_false xs lo hi k (by have := HN.out; omega) (by rw [HP.out]; exact hr)]
        try rfl
      · have HR := Lib.hid hr
        go_wp2_with (go_at_call 75; refine (spec_inRange _ _ _ _).mono ?_; rintro e w' ⟨rfl, rfl⟩)
        go_round
        case rel => exact ⟨k + 1, by omega, by go_num, fun j hj => by
          rcases Nat.lt_or_ge j k with h1 | h1
          · exact HA.out j h1
          · obtain rfl : j = k := by omega
            rw [HP.out]; exact HR.out⟩
        case measure => simp [intOf]; omega
    · go_wp2
      go_ret
      refine ⟨ret_b ?_, rfl⟩
      rw [allR_true xs lo hi fun j hj => HA.out j (by have := HN.out; omega)]
      try rfl
end Go.Proofs.Ytlbomopjldhmeaa

namespace Go.Proofs.Ytlbomopjldhmeaa
set_option linter.unusedSimpArgs false
set_option linter.unusedVariables false
open Go.RowKit
/-- Returns a fresh slice of numbers and a bool. -/
def RetIB (w : World) (xs : List Int) (b : Bool) (e : Ending) (w' : World) : Prop := ∃ v, e = .returned (.tuple #[v, .bool b]) ∧ OwnI w' w.heap.size v xs ∧ Below w.heap.size w w'
theorem RetIB.drew {w w' : World} {xs : List Int} {b : Bool} {e : Ending} (h : RetIB w xs b e w') : RetIB w xs b e w'.drew := by
  obtain ⟨v, he, ho, hb⟩ := h
  exact ⟨v, he, ho, hb.drew⟩
end Go.Proofs.Ytlbomopjldhmeaa

namespace Go.Proofs.Ytlbomopjldhmeaa
set_option linter.unusedSimpArgs false
set_option linter.unusedVariables false
open Go.RowKit
theorem below_of_drew {C : Nat} {w w' : World} (h : Below C w.drew w') : Below C w w' := ⟨h.os, h.tape, h.output, h.size, h.block⟩
end Go.Proofs.Ytlbomopjldhmeaa

namespace Go.Proofs.Ytlbomopjldhmeaa
set_option linter.unusedSimpArgs false
set_option linter.unusedVariables false
open Go.RowKit
theorem IS.step {A : Option Addr} {xs : List Int} {wk wl : World} (h : IS wk wk.heap.size A xs) (hb : Below wk.heap.size wk wl) : IS wl wl.heap.size A xs := (h.below hb (Nat.le_refl _)).more hb.size
theorem below_new (wk : World) (o : Obj) : Below wk.heap.size wk (wk.alloc o) := (Below.refl _ _).alloc (Nat.le_refl _) o
end Go.Proofs.Ytlbomopjldhmeaa

namespace Go.Proofs.Ytlbomopjldhmeaa
set_option linter.unusedSimpArgs false
set_option linter.unusedVariables false
open Go.RowKit
theorem row_form2 {w : World} {base n size : Nat} {e : TypeId} {v : Value} {xs : List Value} (h : w.ownsRow base e size v n xs) (hn : 0 < n) : ∃ g cap, v = .slice (some ⟨g, 0, none⟩) n cap := by
  rcases h.2 with ⟨hv, h0⟩ | ⟨g, cap, cur, hv, _⟩
  · omega
  · exact ⟨g, cap, hv⟩
end Go.Proofs.Ytlbomopjldhmeaa

namespace Go.Proofs.Ytlbomopjldhmeaa
set_option linter.unusedSimpArgs false
set_option linter.unusedVariables false
open Go.RowKit
/-- The first index of a number, -1 if it is not there. -/
def plc (l : List Int) (x : Int) : Int := if x ∈ l then (l.idxOf x : Int) else -1
theorem plc_at (l : List Int) (x : Int) (k : Nat) (h : k < l.length) (hx : l.getD k 0 = x) (hn : ∀ j, j < k → l.getD j 0 ≠ x) : plc l x = k := by
  unfold plc
  have hm : x ∈ l := by rw [← hx]; simp [List.getD, h]
  rw [if_pos hm]
  congr 1
  apply Nat.le_antisymm
  · rcases Nat.lt_or_ge k (l.idxOf x) with h1 | h1
    · exfalso
      have h2 := List.not_of_lt_findIdx (p := (· == x)) (xs := l) (i := k) h1
      simp [List.getD, h] at hx
      simp [hx] at h2
    · exact h1
  · rcases Nat.lt_or_ge (l.idxOf x) k with h1 | h1
    · exfalso
      have h2 := List.getElem_idxOf (List.idxOf_lt_length_of_mem hm)
      have h3 := hn _ h1
      simp [List.getD, List.idxOf_lt_length_of_mem hm] at h3
    · exact h1
theorem plc_none (l : List Int) (x : Int) (hn : ∀ j, j < l.length → l.getD j 0 ≠ x) : plc l x = -1 := by
  unfold plc
  rw [if_neg]
  intro hm
  obtain ⟨k, hk, e⟩ := List.mem_iff_getElem.1 hm
  exact hn k hk (by simp [List.getD, hk, e])
set_option maxHeartbeats 400000 in
theorem spec_placeIn (A : Option Addr) (n c : Nat) (xs : List Int) (x : Int) (w : World) (B : Nat) (hB : B ≤ w.heap.size) (hn : n = xs.length) (h : IS w B A xs) (hs : n ≤ 2000000) :
    Calls Try.prog 57 #[.slice A n c, .int .i64 x] w fun e w' => e = .returned (.int .i64 (plc xs x)) ∧ w = w' := by
  have H := Lib.hid h
  have HN := Lib.hid hn
  clear hn h
  go_enter Try.func57, Try.ntmps57
  go_wp2
  go_loop [5] (fun i => ∃ k : Nat, k ≤ n ∧ i = .int .i64 k ∧ Hid (∀ j, j < k → xs.getD j 0 ≠ x)) (fun i => n - (intOf i).toNat)
  case atStart => exact ⟨0, Nat.zero_le _, rfl, fun j hj => by omega⟩
  case round =>
    obtain ⟨k, hk, rfl, HA⟩ := hrel
    by_cases hlt : k < n
    · obtain ⟨b, off, rfl, hbB, hc⟩ := H.out (by have := HN.out; omega)
      have c0 := hc k (by have := HN.out; omega)
      clear hc H
      generalize hp : xs.getD k 0 = p at *
      have HP := Lib.hid hp
      clear hp
      cases hr : (p == x)
      · have HR := Lib.hid hr
        go_wp2
        go_round
        case rel => exact ⟨k + 1, by omega, by go_num, fun j hj => by
          rcases Nat.lt_or_ge j k with h1 | h1
          · exact HA.out j h1
          · obtain rfl : j = k := by omega
            rw [HP.out]; simpa using HR.out⟩
        case measure => simp [intOf]; omega
      · have HR := Lib.hid hr
        go_wp2
        go_ret
        refine ⟨ret_i ?_, rfl⟩
        exact (plc_at xs x k (by have := HN.out; omega) (by rw [HP.out]; simpa using HR.out) HA.out).symm
    · go_wp2
      go_ret
      refine ⟨ret_i ?_, rfl⟩
      exact (plc_none xs x fun j hj => HA.out j (by have := HN.out; omega)).symm
end Go.Proofs.Ytlbomopjldhmeaa

namespace Go.Proofs.Ytlbomopjldhmeaa
set_option linter.unusedSimpArgs false
set_option linter.unusedVariables false
open Go.RowKit
theorem plc_ge (l : List Int) (x : Int) : decide (0 ≤ plc l x) = decide (x ∈ l) := by
  unfold plc
  by_cases h : x ∈ l
  · simp [h]
  · simp [h]
end Go.Proofs.Ytlbomopjldhmeaa

namespace Go.Proofs.Ytlbomopjldhmeaa
set_option linter.unusedSimpArgs false
set_option linter.unusedVariables false
open Go.RowKit
theorem IS.take {w : World} {B : Nat} {A : Option Addr} {xs : List Int} (h : IS w B A xs) (k : Nat) : IS w B A (xs.take k) := by
  intro hn
  rw [List.length_take] at hn
  obtain ⟨b, off, e, hb, hc⟩ := h (by omega)
  refine ⟨b, off, e, hb, fun j hj => ?_⟩
  rw [List.length_take] at hj
  have : (xs.take k).getD j 0 = xs.getD j 0 := by simp only [List.getD, List.getElem?_take, if_pos (show j < k by omega)]
  rw [this]
  exact hc j (by omega)
end Go.Proofs.Ytlbomopjldhmeaa

namespace Go.Proofs.Ytlbomopjldhmeaa
set_option linter.unusedSimpArgs false
set_option linter.unusedVariables false
open Go.RowKit
def lenOf (xss : List (List Int)) (j : Nat) : Nat := (xss.getD j []).length
end Go.Proofs.Ytlbomopjldhmeaa

namespace Go.Proofs.Ytlbomopjldhmeaa
set_option linter.unusedSimpArgs false
set_option linter.unusedVariables false
open Go.RowKit
structure Lz where
  vs : List Int
  rs : List (List Int)
  cs : List Int
deriving DecidableEq, Inhabited
end Go.Proofs.Ytlbomopjldhmeaa

namespace Go.Proofs.Ytlbomopjldhmeaa
set_option linter.unusedSimpArgs false
set_option linter.unusedVariables false
open Go.RowKit
section
variable {w w' : World} {B B' D lo hi n c en ec m d : Nat} {A E C : Option Addr} {e : Lz} {st : Lz}
theorem own_ncap {base e' size n c : Nat} {A : Option Addr} {xs : List Value} (h : w.ownsRow base e' size (.slice A n c) n xs) : n ≤ c := by
  rcases h.2 with ⟨hv, h0⟩ | ⟨g, cap, cur, hv, _, _, h1, _⟩
  · omega
  · simp only [Value.slice.injEq] at hv
    obtain ⟨_, _, rfl⟩ := hv
    exact h1
end
end Go.Proofs.Ytlbomopjldhmeaa

namespace Go.Proofs.Ytlbomopjldhmeaa
set_option linter.unusedSimpArgs false
set_option linter.unusedVariables false
open Go.RowKit
theorem news_of_ints {w : World} {b off n : Nat} {xs : List Int} (hc : ∀ j, j < xs.length → w.cell? ⟨b, off + j, none⟩ = some (.int .i64 (xs.getD j 0))) : ∀ j u, (xs.map (Value.int .i64))[j]? = some u → w.cell? ((⟨b, off, none⟩ : Addr).add j) = some u := by
  intro j u hu
  have hj : j < xs.length := by
    rcases Nat.lt_or_ge j xs.length with h1 | h1
    · exact h1
    · rw [List.getElem?_eq_none (by simpa using h1)] at hu; cases hu
  have hadd : (⟨b, off, none⟩ : Addr).add j = ⟨b, off + j, none⟩ := by unfold Addr.add; split <;> simp_all
  rw [hadd, hc j hj, ← hu]
  simp [List.getD, hj]
theorem ints_one (xs : List Int) : ∀ u ∈ xs.map (Value.int .i64), u.oneCell' = true := by
  intro u hu
  obtain ⟨x, _, rfl⟩ := List.mem_map.1 hu
  rfl
set_option maxHeartbeats 800000 in
theorem spec_copyInts (A : Option Addr) (n c : Nat) (xs : List Int) (w : World) (B : Nat) (hB : B ≤ w.heap.size) (hn : n = xs.length) (h : IS w B A xs) (hs : n ≤ 2000000) (hp : 0 < n) :
    Calls Try.prog 36 #[.slice A n c] w fun e w' => ∃ g cap, e = .returned (.slice (some ⟨g, 0, none⟩) n cap) ∧ w'.ownsRow w.heap.size 3 1 (.slice (some ⟨g, 0, none⟩) n cap) n (xs.map (Value.int .i64)) ∧ Below w.heap.size w w' := by
  obtain ⟨i0, hi, hz0, hz1, hz2⟩ := info_parts info_int
  obtain ⟨b, off, rfl, hbB, hc⟩ := h (by omega)
  have hnew := World.ownsRow_lit (e := 3) (size := 1) (base := w.heap.size) w #[] 0 (Nat.le_refl _) (by unfold maxLen; omega) (by simp)
  have hnews := news_of_ints (n := n) (fun j hj => (World.cell?_alloc_lt w (.cells #[] 3) ⟨b, off + j, none⟩ (show b < w.heap.size by omega)).trans (hc j hj))
  have HNEW := Lib.hid hnew
  have HNS := Lib.hid hnews
  have HN := Lib.hid hn
  clear hnew hnews hc hn h
  go_enter Try.func36, Try.ntmps36
  go_wp2_with (at_builtin; refine wpList_append_own_at _ rfl _ _ 22 rfl w.heap.size 3 i0 (.int .i64 0) 1 8 Try.underlying22 hi hz0 hz1 hz2 rfl (by decide) _ _ _ rfl HNEW.out ⟨b, off, none⟩ n c (xs.map (Value.int .i64)) rfl ?d1 HNS.out (ints_one xs) ?d3 ?d4 ?d5 ?_)
  case d1 => have := HN.out; first | omega | (simp; omega)
  case d3 => unfold maxLen; omega
  case d4 => omega
  intro v' w3 hown' hgrow _ _
  have hown'' : w3.ownsRow w.heap.size 3 1 v' n (xs.map (Value.int .i64)) := by simpa using hown'
  obtain ⟨g, cap, rfl⟩ : ∃ g cap, v' = .slice (some ⟨g, 0, none⟩) n cap := by
    rcases hown''.2 with ⟨_, h0⟩ | ⟨g, cap, cur, hv, _⟩
    · omega
    · exact ⟨g, cap, hv⟩
  have HO := Lib.hid hown''
  have hb3 : Below w.heap.size w w3 := ((Below.refl _ _).alloc (Nat.le_refl _) (.cells #[] 3)).grown hgrow (by simp) (fun k hk => by simp [Value.ownBlock] at hk; omega)
  clear hown' hown'' hgrow
  go_wp2
  go_ret
  exact ⟨g, cap, rfl, HO.out, hb3⟩
/-- Returns a fresh slice of numbers and a bool, or nothing. -/
theorem RetIB.nil {w w' : World} (hb : Below w.heap.size w w') : RetIB w [] false (.returned (.tuple #[.slice none 0 0, .bool false])) w' := ⟨_, rfl, World.ownsRow_nil _ _ _ _, hb⟩
end Go.Proofs.Ytlbomopjldhmeaa

namespace Go.Proofs.Ytlbomopjldhmeaa
set_option linter.unusedSimpArgs false
set_option linter.unusedVariables false
open Go.RowKit
section
variable {P : Program} {w : World}
theorem run_append_zero (base : Nat) (t ty e : TypeId) (i : TypeInfo) (size : Nat) (ht : P.underlying t = some (.slice e)) (hi : P.info? e = some i) (v : Value) (n : Nat) (xs : List Value) (hown : w.ownsRow base e size v n xs) (A : Option Addr) (c : Nat) :
    (Builtin.append_ #[t, t] ty #[v, .slice A 0 c]).run P w = .ok v w := by
  rcases hown.2 with ⟨rfl, rfl⟩ | ⟨g, cap, cur, rfl, _, _, hnc, _⟩
  · cases A <;> simp [Builtin.append_, run_underlying ht, sizeOf, typeInfo, hi, Builtin.lenOf, Builtin.firstCells, loadCells, loadCellsFrom, storeCells, Result.andThen]
  · cases A <;> simp [Builtin.append_, run_underlying ht, sizeOf, typeInfo, hi, Builtin.lenOf, Builtin.firstCells, hnc, loadCells, loadCellsFrom, storeCells, Result.andThen]
theorem wpList_append_zero {ops : Array Oper} {rest : List Oper} {o : Oper} {a : Act} {Q : Exit → Act → World → Prop} (hgd : o.guard = none) (s x : Operand) (t : TypeId)
    (ho : o.op = .call { callee := .builtin .append, args := #[s, x], argTypes := #[t, t] })
    (base : Nat) (e : TypeId) (i : TypeInfo) (size : Nat) (ht : P.underlying t = some (.slice e)) (hi : P.info? e = some i)
    (v : Value) (n : Nat) (xs : List Value) (hs : a.eval s = v) (hown : w.ownsRow base e size v n xs) (A : Option Addr) (c : Nat) (hx : a.eval x = .slice A 0 c)
    (h : wpList P ops Q rest (a.put o.dst v) w) : wpList P ops Q (o :: rest) a w := by
  refine wpList_plain hgd fun K hK => ?_
  have hrun := run_append_zero (P := P) (w := w) base t o.type e i size ht hi v n xs hown A c
  unfold Oper.wp
  simp [execOp, ho, resolve, invoke, builtin, hs, hx, hrun, Result.andThen]
  exact hK _ _ h
end
set_option maxHeartbeats 800000 in
theorem spec_copyIntsA (A : Option Addr) (n c : Nat) (xs : List Int) (w : World) (B : Nat) (hB : B ≤ w.heap.size) (hn : n = xs.length) (h : IS w B A xs) (hs : n ≤ 2000000) :
    Calls Try.prog 36 #[.slice A n c] w fun e w' => ∃ g cap, e = .returned (.slice (some ⟨g, 0, none⟩) n cap) ∧ w'.ownsRow w.heap.size 3 1 (.slice (some ⟨g, 0, none⟩) n cap) n (xs.map (Value.int .i64)) ∧ Below w.heap.size w w' := by
  by_cases hp : 0 < n
  · exact spec_copyInts A n c xs w B hB hn h hs hp
  · obtain rfl : n = 0 := by omega
    have hx : xs = [] := List.eq_nil_of_length_eq_zero hn.symm
    subst hx
    obtain ⟨i0, hi, hz0, hz1, hz2⟩ := info_parts info_int
    have hnew := World.ownsRow_lit (e := 3) (size := 1) (base := w.heap.size) w #[] 0 (Nat.le_refl _) (by unfold maxLen; omega) (by simp)
    have HNEW := Lib.hid hnew
    clear hnew hn h
    go_enter Try.func36, Try.ntmps36
    go_wp2_with (at_builtin; refine wpList_append_zero rfl _ _ 22 rfl w.heap.size 3 i0 1 Try.underlying22 hi _ 0 _ rfl HNEW.out A c rfl ?_)
    go_ret
    exact ⟨_, _, rfl, by simpa using HNEW.out, (Below.refl _ _).alloc (Nat.le_refl _) _⟩
end Go.Proofs.Ytlbomopjldhmeaa

namespace Go.Proofs.Ytlbomopjldhmeaa
set_option linter.unusedSimpArgs false
set_option linter.unusedVariables false
open Go.RowKit
/-- The slice of l numbers (room for c) that lies in block b from off on: what is behind them is there, and may be written. -/
structure Cm (d0 : Nat) (b off l c : Nat) (ys : List Int) (w : World) : Prop where
  len : l = ys.length
  cap : l ≤ c
  lo : d0 ≤ b
  hi : b < w.heap.size
  cells : ∀ j, j < l → w.cell? ⟨b, off + j, none⟩ = some (.int .i64 (ys.getD j 0))
  spare : ∀ j, l ≤ j → j < c → (w.cell? ⟨b, off + j, none⟩).isSome = true ∧ w.frozen? ⟨b, off + j, none⟩ = false
theorem Cm.is {d0 b off l c : Nat} {ys : List Int} {w : World} (h : Cm d0 b off l c ys w) : IS w w.heap.size (some ⟨b, off, none⟩) ys := fun _ => ⟨b, off, rfl, h.hi, fun j hj => h.cells j (by have := h.len; omega)⟩
theorem Cm.keep {d0 b off l c : Nat} {ys : List Int} {w w' : World} (h : Cm d0 b off l c ys w) (hk : w'.heap[b]? = w.heap[b]?) (hs : w.heap.size ≤ w'.heap.size) : Cm d0 b off l c ys w' :=
  ⟨h.len, h.cap, h.lo, Nat.lt_of_lt_of_le h.hi hs, fun j hj => (World.cell?_of_block (a := ⟨b, off + j, none⟩) hk).trans (h.cells j hj), fun j h1 h2 => by
    rw [World.cell?_of_block (a := ⟨b, off + j, none⟩) hk, World.frozen?_of_block (a := ⟨b, off + j, none⟩) hk]; exact h.spare j h1 h2⟩
theorem Cm.step {d0 b off l c : Nat} {ys : List Int} {w w' : World} (h : Cm d0 b off l c ys w) (hb : Below w.heap.size w w') : Cm d0 b off l c ys w' := h.keep (hb.block b h.hi) hb.size
theorem Cm.of_own {d0 g l c : Nat} {ys : List Int} {w : World} (h : w.ownsRow d0 3 1 (.slice (some ⟨g, 0, none⟩) l c) l (ys.map (Value.int .i64))) : Cm d0 g 0 l c ys w := by
  have hlen : l = ys.length := by have := h.1; simp at this; omega
  have hca := fun j => h.cellAt j
  have hfz := fun j => h.frozenAt j
  have hlt := h.lt g rfl
  rcases h.2 with ⟨hv, _⟩ | ⟨g', cap, cur, hv, hb, hg, hcap, hm, hsz, _⟩
  · cases hv
  · cases hv
    refine ⟨hlen, hcap, hlt.1, hlt.2, fun j hj => ?_, fun j h1 h2 => ⟨?_, ?_⟩⟩
    · have := hca j (by omega)
      rw [Nat.zero_add, this, List.getElem?_map]
      simp [List.getD, List.getElem?_eq_getElem (show j < ys.length by omega)]
    · have hj : j < cur.size := by omega
      simp [World.cell?, hg, hj]
    · simpa using hfz j
theorem Cm.drop {d0 g l c : Nat} {ys : List Int} {w : World} (h : Cm d0 g 0 l c ys w) (hl : 0 < l) : ∃ o4, (if c = 1 then some ({ block := g, off := 0 } : Addr) else some { block := g, off := 1 }) = some ⟨g, o4, none⟩ ∧ Cm d0 g o4 (l - 1) (c - 1) (ys.drop 1) w := by
  have hlen := h.len
  have hcap := h.cap
  by_cases hc : c = 1
  · refine ⟨0, by rw [if_pos hc], by rw [List.length_drop]; omega, by omega, h.lo, h.hi, fun j hj => by omega, fun j h1 h2 => by omega⟩
  · refine ⟨1, by rw [if_neg hc], by rw [List.length_drop]; omega, by omega, h.lo, h.hi, fun j hj => ?_, fun j h1 h2 => ?_⟩
    · have := h.cells (j + 1) (by omega)
      rw [show 0 + (j + 1) = 1 + j by omega] at this
      rw [this]
      simp [List.getD, List.getElem?_drop, Nat.add_comm]
    · have := h.spare (j + 1) (by omega) (by omega)
      rwa [show 0 + (j + 1) = 1 + j by omega] at this
end Go.Proofs.Ytlbomopjldhmeaa

namespace Go.Proofs.Ytlbomopjldhmeaa
set_option linter.unusedSimpArgs false
set_option linter.unusedVariables false
open Go.RowKit
/-- Different numbers, each in 0..m. -/
def difB (m : Int) (xs : List Int) : Bool := allR xs 0 m && decide xs.Nodup
/-- Keys are valid. -/
def validK (xs : List Int) : Bool := decide (xs.length ≤ 10) && difB 30 xs
theorem getD_take_lt (xs : List Int) (k j : Nat) (h : j < k) (hk : k ≤ xs.length) : (xs.take k).getD j 0 = xs.getD j 0 := by
  simp [List.getD, List.getElem?_take, h]
theorem IS.take_ {w : World} {B : Nat} {A : Option Addr} {xs : List Int} (h : IS w B A xs) (k : Nat) (hk : k ≤ xs.length) : IS w B A (xs.take k) := by
  intro hn
  have hk0 : 0 < k := by
    rcases Nat.eq_zero_or_pos k with rfl | h0
    · simp at hn
    · exact h0
  obtain ⟨b, off, e, hb, hc⟩ := h (by omega)
  refine ⟨b, off, e, hb, fun j hj => ?_⟩
  have hj' : j < k := by simp at hj; omega
  rw [hc j (by omega), getD_take_lt xs k j hj' hk]
theorem nodup_take_step (xs : List Int) (k : Nat) (h : k < xs.length) (hn : (xs.take k).Nodup) (hx : xs.getD k 0 ∉ xs.take k) : (xs.take (k + 1)).Nodup := by
  have hg : xs[k] = xs.getD k 0 := by simp [List.getD, h]
  rw [List.take_succ_eq_append_getElem h, hg, List.nodup_append]
  refine ⟨hn, by simp, ?_⟩
  intro a ha b hb e
  simp at hb
  subst hb; subst e
  exact hx ha
theorem nodup_take_no (xs : List Int) (k : Nat) (h : k < xs.length) (hx : xs.getD k 0 ∈ xs.take k) : ¬ xs.Nodup := by
  intro hn
  have h1 := (List.take_sublist (k + 1) xs).nodup hn
  have hg : xs[k] = xs.getD k 0 := by simp [List.getD, h]
  rw [List.take_succ_eq_append_getElem h, hg, List.nodup_append] at h1
  exact h1.2.2 _ hx _ (by simp) rfl
theorem difB_nodup_no (m : Int) (xs : List Int) (h : ¬ xs.Nodup) : difB m xs = false := by unfold difB; rw [decide_eq_false h]; simp
set_option maxRecDepth 100000 in
set_option maxHeartbeats 1600000 in
theorem spec_validKeys (A : Option Addr) (n c : Nat) (xs : List Int) (w : World) (B : Nat) (hB : B ≤ w.heap.size) (hn : n = xs.length) (hnc : n ≤ c) (h : IS w B A xs) (hs : n ≤ 2000000) :
    Calls Try.prog 35 #[.slice A n c] w fun e w' => e = .returned (.bool (validK xs)) ∧ Below w.heap.size w w' := by
  have H := Lib.hid h
  have HN := Lib.hid hn
  clear hn h
  go_enter Try.func35, Try.ntmps35
  go_wp2
  go_loopw [3] (fun i wr => ∃ k : Nat, k ≤ n ∧ i = .int .i64 k ∧ Hid ((xs.take k).Nodup) ∧ Below w.heap.size w wr) (fun i _ => n - (intOf i).toNat)
  case atStart => exact ⟨0, Nat.zero_le _, rfl, by simp [Hid], Below.refl _ _⟩
  case round =>
    obtain ⟨k, hk, rfl, HD, hb⟩ := hrel
    have hwr : w.heap.size ≤ wr.heap.size := hb.size
    by_cases hlt : k < n
    · have hkx : k < xs.length := by have := HN.out; omega
      have hlti : (k : Int) < (n : Int) := by omega
      have hkc : k ≤ c := by omega
      have HT := Lib.hid (((H.out.take_ k (by omega)).below hb (by omega)))
      obtain ⟨b, off, rfl, hbB, hc⟩ := H.out (by omega)
      have c0 := (hb.cell (p := ⟨b, off + k, none⟩) (by simp; omega)).trans (hc k hkx)
      clear hc H
      have HP := Lib.hid fun (q : Nat) => spec_placeIn (some ⟨b, off, none⟩) k c (xs.take k) (xs.getD k 0) (wr.drewN q) B (by show B ≤ wr.heap.size; omega) (by simp; omega) HT.out (by omega)
      have HY := Lib.hid (nodup_take_step xs k hkx)
      have HNO := Lib.hid (nodup_take_no xs k hkx)
      have hpl := plc_ge (xs.take k) (xs.getD k 0)
      generalize xs.getD k 0 = x at *
      by_cases hm : x ∈ xs.take k
      · rw [decide_eq_true hm] at hpl
        have hge : 0 ≤ plc (xs.take k) x := by simpa using hpl
        have HF := Lib.hid (HNO.out hm)
        clear hm hpl HT HY HNO
        generalize plc (xs.take k) x = p at *
        go_wp2
        go_quiet (first | (go_at_call 57; exact Calls.quiet_of_same ((HP.out _).mono fun e w' h => ⟨h.1, h.2.symm⟩)))
        go_wp2
        go_ret
        refine ⟨ret_b ?_, ?_⟩
        · unfold validK
          rw [difB_nodup_no _ _ HF.out]; simp
        · exact ⟨hb.os, hb.tape, hb.output, hb.size, hb.block⟩
      · rw [decide_eq_false hm] at hpl
        have hge : plc (xs.take k) x < 0 := by simpa using hpl
        have HT2 := Lib.hid (HY.out HD.out hm)
        clear hm hpl HT HY HNO
        generalize plc (xs.take k) x = p at *
        go_wp2
        go_quiet (first | (go_at_call 57; exact Calls.quiet_of_same ((HP.out _).mono fun e w' h => ⟨h.1, h.2.symm⟩)))
        go_wp2
        go_roundw
        case rel => exact ⟨k + 1, by omega, by go_num, HT2.out, ⟨hb.os, hb.tape, hb.output, hb.size, hb.block⟩⟩
        case measure => simp [intOf]; omega
    · obtain rfl : k = n := by omega
      have hnd : xs.Nodup := by have := HD.out; rwa [HN.out, List.take_of_length_le (Nat.le_refl _)] at this
      have hva : validK xs = (decide (k ≤ 10) && allR xs 0 30) := by unfold validK difB; rw [decide_eq_true hnd, HN.out]; simp
      have HVA := Lib.hid hva
      have HA := Lib.hid (spec_allIn A k c xs 0 30 wr B (by omega) HN.out (H.out.below hb (by omega)) hs)
      generalize allR xs 0 30 = r at *
      clear hnd hva H
      by_cases h10 : k ≤ 10
      · go_wp2_with fail
        refine HA.out.mono ?_
        rintro e w2 ⟨rfl, rfl⟩
        go_wp2
        go_ret
        exact ⟨ret_b (by rw [HVA.out, decide_eq_true h10]; simp), hb⟩
      · go_wp2
        go_ret
        exact ⟨ret_b (by rw [HVA.out, decide_eq_false h10]; simp), hb⟩
end Go.Proofs.Ytlbomopjldhmeaa

namespace Go.Proofs.Ytlbomopjldhmeaa
set_option linter.unusedSimpArgs false
set_option linter.unusedVariables false
open Go.RowKit
/-- An append, perhaps of nothing, at a step of a region that draws its order. -/
theorem step_append_own_at {P : Program} (w : World) {ops : Array Oper} {o : Oper} {a : Act} {K : Act → World → Prop} {Q : Exit → Act → World → Prop} {E : Prop} (hgd : o.guard = none) (s x : Operand) (t : TypeId)
    (ho : o.op = .call { callee := .builtin .append, args := #[s, x], argTypes := #[t, t] })
    (base : Nat) (e : TypeId) (i : TypeInfo) (z : Value) (size bytes : Nat) (ht : P.underlying t = some (.slice e)) (hi : P.info? e = some i) (hz : i.zero = some z)
    (hsize : i.size = size) (hby : i.bytes = bytes) (hzs : z.cells.size = size) (hsz : 0 < size)
    (v : Value) (n : Nat) (xs : List Value) (hs : a.eval s = v) (hown : w.ownsRow base e size v n xs)
    (ad : Addr) (m c : Nat) (news : List Value) (hx : a.eval x = .slice (some ad) m c) (hl : news.length = m * size) (hnews : ∀ j u, news[j]? = some u → w.cell? (ad.add j) = some u) (h1 : ∀ u ∈ news, u.oneCell' = true)
    (h63 : n + m ≤ maxLen) (hbytes : (n + m) * bytes ≤ 140737488355328) (hbase : base ≤ w.heap.size)
    (h : ∀ v' w', w'.ownsRow base e size v' (n + m) (xs ++ news) → w.grownBy w' v.ownBlock → (v'.ownBlock = v.ownBlock ∨ v'.ownBlock = some w.heap.size) → K (a.put o.dst v') w') :
    if Region.wanted o (yielded ops a.tmps) = true then Oper.wp P o a w K Q else E := by
  obtain ⟨v', w', hr, h2, h3, h4, h5⟩ := run_append_own_at (P := P) w base t o.type e i z size bytes ht hi hz hsize hby hzs hsz v n xs hown ad m c news hl hnews h1 h63 hbytes hbase
  have hw : Oper.wp P o a w K Q := by
    unfold Oper.wp execOp
    simp only [ho, resolve, invoke, builtin, Sem.run_bind, Sem.run_pure, Result.andThen_ok, List.map_toArray, List.map_cons, List.map_nil, hs, hx, hr]
    exact h v' w' h2 h3 h5
  have hwt : Region.wanted o (yielded ops a.tmps) = true := by unfold Region.wanted; rw [hgd]
  rw [if_pos hwt]; exact hw
theorem addr_add' (b off j : Nat) : (⟨b, off, none⟩ : Addr).add j = ⟨b, off + j, none⟩ := by
  cases j <;> simp [Addr.add]
theorem news_drop {w : World} {b off n k : Nat} {xs : List Int} (hn : n = xs.length) (h : ∀ j, j < n → w.cell? ⟨b, off + j, none⟩ = some (.int .i64 (xs.getD j 0))) : ∀ j u, ((xs.drop k).map (Value.int .i64))[j]? = some u → w.cell? ((⟨b, off + k, none⟩ : Addr).add j) = some u := by
  intro j u hj
  rw [List.getElem?_map, Option.map_eq_some_iff] at hj
  obtain ⟨x, hx, rfl⟩ := hj
  rw [List.getElem?_drop] at hx
  have hlt : k + j < xs.length := (List.getElem?_eq_some_iff.1 hx).1
  have := h (k + j) (by omega)
  rw [show xs.getD (k + j) 0 = x by simp [List.getD, hx]] at this
  rw [addr_add', Nat.add_assoc]; exact this
theorem one_ints (xs : List Int) : ∀ u ∈ xs.map (Value.int .i64), u.oneCell' = true := by
  intro u hu
  obtain ⟨x, _, rfl⟩ := List.mem_map.1 hu
  rfl
end Go.Proofs.Ytlbomopjldhmeaa

namespace Go.Proofs.Ytlbomopjldhmeaa
set_option linter.unusedSimpArgs false
set_option linter.unusedVariables false
open Go.RowKit
theorem Cm.tail {d0 b off l c : Nat} {ys : List Int} {w : World} (h : Cm d0 b off l c ys w) (k : Nat) (hk : k ≤ l) : ∃ o2, (if c = k then some ({ block := b, off := off } : Addr) else some { block := b, off := off + k }) = some ⟨b, o2, none⟩ ∧ ∀ j u, ((ys.drop k).map (Value.int .i64))[j]? = some u → w.cell? ((⟨b, o2, none⟩ : Addr).add j) = some u := by
  have hlen := h.len
  have hcap := h.cap
  by_cases hcc : c = k
  · refine ⟨off, by rw [if_pos hcc], fun j u hj => ?_⟩
    rw [List.drop_eq_nil_of_le (by omega)] at hj
    simp at hj
  · exact ⟨off + k, by rw [if_neg hcc], news_drop (w := w) (b := b) (off := off) (n := l) (k := k) h.len h.cells⟩
theorem add_cell {w w' : World} {b o : Nat} {vs : List Value} {B : Nat} (h : ∀ j u, vs[j]? = some u → w.cell? ((⟨b, o, none⟩ : Addr).add j) = some u) (hb : Below B w w') (hB : b < B) : ∀ j u, vs[j]? = some u → w'.cell? ((⟨b, o, none⟩ : Addr).add j) = some u := fun j u hj => by
  have := h j u hj
  rw [addr_add'] at *
  exact (hb.cell (p := ⟨b, o + j, none⟩) hB).trans this
end Go.Proofs.Ytlbomopjldhmeaa

namespace Go.Proofs.Ytlbomopjldhmeaa
set_option linter.unusedSimpArgs false
set_option linter.unusedVariables false
open Go.RowKit
theorem validK_len (xs : List Int) (h : validK xs = true) : xs.length ≤ 10 := by
  unfold validK at h; simp at h; exact h.1
end Go.Proofs.Ytlbomopjldhmeaa

namespace Go.Proofs.Ytlbomopjldhmeaa
set_option linter.unusedSimpArgs false
set_option linter.unusedVariables false
open Go.RowKit
/-- What is kept of the first k, and what is missing then. -/
def keep (X L : Nat → Int) (m : Int) : Nat → List Int × Int
  | 0 => ([], m)
  | k + 1 => if L k = (keep X L m k).2 then ((keep X L m k).1 ++ [X k], (keep X L m k).2 - 1) else keep X L m k
end Go.Proofs.Ytlbomopjldhmeaa

namespace Go.Proofs.Ytlbomopjldhmeaa
set_option linter.unusedSimpArgs false
set_option linter.unusedVariables false
open Go.RowKit
/-- An act of a session. -/
structure Ac where
  k : Int
  a : Int
  b : Int
deriving DecidableEq, Inhabited
def Ac.cells (p : Ac) : List Value := [.int .i64 p.k, .int .i64 p.a, .int .i64 p.b]
/-- The slice at A reads as the acts ps; it lies below block B. -/
def CS (w : World) (B : Nat) (A : Option Addr) (ps : List Ac) : Prop :=
  0 < ps.length → ∃ b off, A = some ⟨b, off, none⟩ ∧ b < B ∧ ∀ j, j < ps.length →
    w.cell? ⟨b, off + j * 3, none⟩ = some (.int .i64 (ps.getD j default).k) ∧ w.cell? ⟨b, off + j * 3 + 1, none⟩ = some (.int .i64 (ps.getD j default).a) ∧
    w.cell? ⟨b, off + j * 3 + 2, none⟩ = some (.int .i64 (ps.getD j default).b)
theorem CS.keep {w w' : World} {B : Nat} {A : Option Addr} {ps : List Ac} (h : CS w B A ps) (hk : ∀ p : Addr, p.block < B → w'.cell? p = w.cell? p) : CS w' B A ps := by
  intro hn
  obtain ⟨b, off, e, hb, hc⟩ := h hn
  refine ⟨b, off, e, hb, fun j hj => ?_⟩
  obtain ⟨h0, h1, h2⟩ := hc j hj
  exact ⟨(hk _ hb).trans h0, (hk _ hb).trans h1, (hk _ hb).trans h2⟩
theorem CS.more {w : World} {B B' : Nat} {A : Option Addr} {ps : List Ac} (h : CS w B A ps) (hB : B ≤ B') : CS w B' A ps := by
  intro hn
  obtain ⟨b, off, e, hb, hc⟩ := h hn
  exact ⟨b, off, e, by omega, hc⟩
theorem CS.below {w w' : World} {B C : Nat} {A : Option Addr} {ps : List Ac} (h : CS w B A ps) (hb : Below C w w') (hC : B ≤ C) : CS w' B A ps :=
  h.keep fun _ hp => hb.cell (Nat.lt_of_lt_of_le hp hC)
theorem CS.alloc {w : World} {B : Nat} {A : Option Addr} {ps : List Ac} (h : CS w B A ps) (hB : B ≤ w.heap.size) (o : Obj) : CS (w.alloc o) B A ps :=
  h.keep fun p hp => World.cell?_alloc_lt w o p (by omega)
theorem CS.nil (w : World) (B : Nat) (A : Option Addr) : CS w B A [] := fun h => absurd h (by simp)
theorem CS.step {A : Option Addr} {ps : List Ac} {wk wl : World} (h : CS wk wk.heap.size A ps) (hb : Below wk.heap.size wk wl) : CS wl wl.heap.size A ps := (h.below hb (Nat.le_refl _)).more hb.size
theorem length_acells (ps : List Ac) : (ps.flatMap Ac.cells).length = ps.length * 3 := by
  induction ps with
  | nil => rfl
  | cons p l ih => simp [List.flatMap_cons, ih, Ac.cells]; omega
theorem acells_get (ps : List Ac) (j : Nat) (h : j < ps.length) : (ps.flatMap Ac.cells)[j * 3]? = some (.int .i64 (ps.getD j default).k) ∧ (ps.flatMap Ac.cells)[j * 3 + 1]? = some (.int .i64 (ps.getD j default).a) ∧
    (ps.flatMap Ac.cells)[j * 3 + 2]? = some (.int .i64 (ps.getD j default).b) := by
  induction ps generalizing j with
  | nil => simp at h
  | cons p l ih =>
    have e : (p :: l).flatMap Ac.cells = p.cells ++ l.flatMap Ac.cells := by simp [List.flatMap_cons]
    rw [e]
    match j with
    | 0 => simp [Ac.cells]
    | j + 1 =>
      have hj : j < l.length := by simpa using h
      have hc : p.cells.length = 3 := rfl
      obtain ⟨a0, a1, a2⟩ := ih j hj
      have s (d : Nat) : (p.cells ++ l.flatMap Ac.cells)[(j + 1) * 3 + d]? = (l.flatMap Ac.cells)[j * 3 + d]? := by
        rw [List.getElem?_append_right (by omega), hc]; congr 1; omega
      have s0 := s 0
      simp only [Nat.add_zero] at s0
      rw [s0, s 1, s 2]
      simpa using ⟨a0, a1, a2⟩
theorem CS.of_own {w : World} {base e n c : Nat} {A : Option Addr} {ps : List Ac} (h : w.ownsRow base e 3 (.slice A n c) n (ps.flatMap Ac.cells)) : CS w w.heap.size A ps := by
  intro hn
  have hl : ps.length = n := by have := h.1; rw [length_acells] at this; omega
  rcases h.2 with ⟨_, h0⟩ | ⟨g, cap, cur, hv, _, hh, _⟩
  · omega
  · simp only [Value.slice.injEq] at hv
    obtain ⟨rfl, _, rfl⟩ := hv
    have hg : g < w.heap.size := by
      rcases Nat.lt_or_ge g w.heap.size with hlt | hge
      · exact hlt
      · rw [Array.getElem?_eq_none hge] at hh; cases hh
    refine ⟨g, 0, rfl, hg, fun j hj => ?_⟩
    obtain ⟨a0, a1, a2⟩ := acells_get ps j hj
    simp only [Nat.zero_add]
    rw [h.cellAt _ (by omega), h.cellAt _ (by omega), h.cellAt _ (by omega)]
    exact ⟨a0, a1, a2⟩
end Go.Proofs.Ytlbomopjldhmeaa

namespace Go.Proofs.Ytlbomopjldhmeaa
set_option linter.unusedSimpArgs false
set_option linter.unusedVariables false
open Go.RowKit
theorem plc_index (l : List Int) (y : Int) (h : y ∈ l) : ∃ p : Nat, plc l y = p ∧ p < l.length ∧ l.getD p 0 = y := by
  refine ⟨l.idxOf y, by unfold plc; rw [if_pos h], List.idxOf_lt_length_of_mem h, ?_⟩
  have := List.idxOf_lt_length_of_mem h
  simp [List.getD, this]
end Go.Proofs.Ytlbomopjldhmeaa
