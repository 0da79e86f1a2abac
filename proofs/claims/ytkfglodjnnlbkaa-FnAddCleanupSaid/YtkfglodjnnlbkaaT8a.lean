/- Words and contracts for memory that the texts behind use. -/
import Derived.Test.YtkfglodjnnlbkaaT0a
import Derived.Test.YtkfglodjnnlbkaaT1a
import Derived.Test.YtkfglodjnnlbkaaT2b
import Derived.Test.YtkfglodjnnlbkaaT3a
import Derived.Test.YtkfglodjnnlbkaaT4a
import Derived.Test.YtkfglodjnnlbkaaT5a
import Derived.Test.YtkfglodjnnlbkaaT6a
import Derived.Test.YtkfglodjnnlbkaaT7a
import Derived.WalkKit
import Derived.Laws.OwnMore
import Derived.Deep.Draws
import Derived.Test.YtkfglodjnnlbkaaProg
import Derived.WalkSpells
import Derived.WalkLawsBesides
import Derived.Outline
import Derived.Lib.Hide
import Derived.BigQuiet
import Derived.Deep.QuietTactic
import Derived.StillTailTactics
import Derived.Deep.LoopGhost
import Derived.Laws.MakeOwn
import Derived.WalkSmall
import Derived.RegionTactic
import Derived.BigRegion
import Derived.Deep.RegionWith
import Derived.Deep.RegionHeld3
import Derived.Maps.AppendAt
import Derived.Laws.CopyOwn
import Derived.Deep.Cut
import Derived.Laws.Entries
import Derived.Laws.Bits64
import Derived.IntWalk
import Derived.Deep.RegionLaw
import Derived.Deep.AppendLies
import Derived.Deep.DeepCutAuto
import Derived.ArgAppend

namespace Go.Proofs.Ytkfglodjnnlbkaa
set_option linter.unusedSimpArgs false
set_option linter.unusedVariables false
open Go.RowKit
/-- The slice value is one of the call's own, of numbers. -/
def OwnI (w : World) (base : Nat) (v : Value) (xs : List Int) : Prop := w.ownsRow base 3 1 v xs.length (xs.map (Value.int .i64))
theorem OwnI.form {w : World} {base : Nat} {v : Value} {xs : List Int} (h : OwnI w base v xs) : ∃ A c, v = .slice A xs.length c ∧ IS w w.heap.size A xs := by
  have h' := h
  rcases h.2 with ⟨hv, h0⟩ | ⟨g, cap, cur, hv, _⟩
  · have hx : xs = [] := List.eq_nil_of_length_eq_zero h0
    subst hx
    exact ⟨none, 0, hv, IS.nil _ _ _⟩
  · subst hv
    exact ⟨_, _, rfl, IS.of_own h'⟩
end Go.Proofs.Ytkfglodjnnlbkaa

namespace Go.Proofs.Ytkfglodjnnlbkaa
set_option linter.unusedSimpArgs false
set_option linter.unusedVariables false
open Go.RowKit
theorem ret_b {a b : Bool} (h : a = b) : Ending.returned (.bool a) = .returned (.bool b) := by rw [h]
theorem ret_i {a b : Int} (h : a = b) : Ending.returned (.int .i64 a) = .returned (.int .i64 b) := by rw [h]
set_option maxHeartbeats 400000 in
theorem spec_inRange (n l m : Int) (w : World) :
    Calls Try.prog 57 #[.int .i64 n, .int .i64 l, .int .i64 m] w fun e w' => e = .returned (.bool (rng n l m)) ∧ w = w' := by
  go_enter Try.func57, Try.ntmps57
  go_wp2
  all_goals
    go_ret
    exact ⟨ret_b (by unfold rng; simp; try omega), rfl⟩
end Go.Proofs.Ytkfglodjnnlbkaa

namespace Go.Proofs.Ytkfglodjnnlbkaa
set_option linter.unusedSimpArgs false
set_option linter.unusedVariables false
open Go.RowKit
theorem take_succ_getD {α : Type} [Inhabited α] (l : List α) (k : Nat) (h : k < l.length) : l.take (k + 1) = l.take k ++ [l.getD k default] := by
  rw [List.take_succ_eq_append_getElem h]; simp [List.getD, h]
end Go.Proofs.Ytkfglodjnnlbkaa

namespace Go.Proofs.Ytkfglodjnnlbkaa
set_option linter.unusedSimpArgs false
set_option linter.unusedVariables false
open Go.RowKit
/-- Returns a fresh slice of numbers. -/
def RetI (w : World) (xs : List Int) (e : Ending) (w' : World) : Prop := ∃ v, e = .returned v ∧ OwnI w' w.heap.size v xs ∧ Below w.heap.size w w'
end Go.Proofs.Ytkfglodjnnlbkaa

namespace Go.Proofs.Ytkfglodjnnlbkaa
set_option linter.unusedSimpArgs false
set_option linter.unusedVariables false
open Go.RowKit
theorem allR_false (l : List Int) (lo hi : Int) (k : Nat) (h : k < l.length) (hr : rng (l.getD k 0) lo hi = false) : allR l lo hi = false := by
  unfold allR
  rw [List.all_eq_false]
  exact ⟨l.getD k 0, by simp [List.getD, h], by rw [hr]; simp⟩
theorem allR_true (l : List Int) (lo hi : Int) (h : ∀ k, k < l.length → rng (l.getD k 0) lo hi = true) : allR l lo hi = true := by
  unfold allR
  rw [List.all_eq_true]
  intro x hx
  obtain ⟨k, hk, rfl⟩ := List.mem_iff_getElem.1 hx
  have := h k hk
  simpa [List.getD, hk] using this
set_option maxHeartbeats 400000 in
theorem spec_allIn (A : Option Addr) (n c : Nat) (xs : List Int) (lo hi : Int) (w : World) (B : Nat) (hB : B ≤ w.heap.size) (hn : n = xs.length) (h : IS w B A xs) (hs : n ≤ 2000000) :
    Calls Try.prog 80 #[.slice A n c, .int .i64 lo, .int .i64 hi] w fun e w' => e = .returned (.bool (allR xs lo hi)) ∧ w = w' := by
  have H := Lib.hid h
  have HN := Lib.hid hn
  clear hn h
  go_enter Try.func80, Try.ntmps80
  go_wp2
  go_loop [7] (fun i => ∃ k : Nat, k ≤ n ∧ i = .int .i64 k ∧ Hid (∀ j, j < k → rng (xs.getD j 0) lo hi = true)) (fun i => n - (intOf i).toNat)
  case atStart => exact ⟨0, Nat.zero_le _, rfl, fun j hj => by omega⟩
  case round =>
    obtain ⟨k, hk, rfl, HA⟩ := hrel
    by_cases hlt : k < n
    · obtain ⟨b, off, rfl, hbB, hc⟩ := H.out (by have := HN.out; omega)
      have c0 := hc k (by have := HN.out; omega)
      clear hc H
      generalize hp : xs.getD k 0 = p at *
      have HP := Lib.hid hp
      clear hp
      cases hr : rng p lo hi
      · go_wp2_with (go_at_call 57; refine (spec_inRange _ _ _ _).mono ?_; rintro e w' ⟨rfl, rfl⟩)
        go_ret
        refine ⟨ret_b ?_, rfl⟩
        rw [allR_false xs lo hi k (by have := HN.out; omega) (by rw [HP.out]; exact hr)]
        try rfl
      · have HR := Lib.hid hr
        go_wp2_with (go_at_call 57; refine (spec_inRange _ _ _ _).mono ?_; rintro e w' ⟨rfl, rfl⟩)
        go_round
        case rel => exact ⟨k + 1, by omega, by go_num, fun j hj => by
          rcases Nat.lt_or_ge j k with h1 | h1
          · exact HA.out j h1
          · obtain rfl : j = k := by omega
            rw [HP.out]; exact HR.out⟩
        case measure => simp [intOf]; omega
    · go_wp2
      go_ret
      refine ⟨ret_b ?_, rfl⟩
      rw [allR_true xs lo hi fun j hj => HA.out j (by have := HN.out; omega)]
      try rfl
end Go.Proofs.Ytkfglodjnnlbkaa

namespace Go.Proofs.Ytkfglodjnnlbkaa
set_option linter.unusedSimpArgs false
set_option linter.unusedVariables false
open Go.RowKit
theorem own_form {w : World} {base e size n : Nat} {v : Value} {xs : List Value} (h : w.ownsRow base e size v n xs) : ∃ A c, v = .slice A n c := by
  rcases h.2 with ⟨hv, h0⟩ | ⟨g, cap, cur, hv, _⟩
  · exact ⟨none, 0, by rw [hv, h0]⟩
  · exact ⟨_, _, hv⟩
end Go.Proofs.Ytkfglodjnnlbkaa

namespace Go.Proofs.Ytkfglodjnnlbkaa
set_option linter.unusedSimpArgs false
set_option linter.unusedVariables false
open Go.RowKit
/-- Only blocks from a to b - 1 have turned, of those that were there. -/
structure Tch (a b : Nat) (w w' : World) : Prop where
  os : w'.os = w.os
  tape : w'.tape = w.tape
  output : w'.output = w.output
  size : w.heap.size ≤ w'.heap.size
  block : ∀ k, k < w.heap.size → (k < a ∨ b ≤ k) → w'.heap[k]? = w.heap[k]?
theorem grown_setCell0 (w : World) (g j : Nat) (x : Value) : w.grownBy (w.setCell ⟨g, j, none⟩ x) (some g) :=
  ⟨rfl, rfl, rfl, by simp [World.setCell], fun k hk hr => Below.heap_setCell _ _ _ _ (by intro e; exact hr (by rw [e]))⟩
theorem Tch.refl (a b : Nat) (w : World) : Tch a b w w := ⟨rfl, rfl, rfl, Nat.le_refl _, fun _ _ _ => rfl⟩
theorem Tch.trans {a b : Nat} {w w1 w2 : World} (h : Tch a b w w1) (k : Tch a b w1 w2) : Tch a b w w2 :=
  ⟨k.os.trans h.os, k.tape.trans h.tape, k.output.trans h.output, Nat.le_trans h.size k.size, fun i hi hr => (k.block i (Nat.lt_of_lt_of_le hi h.size) hr).trans (h.block i hi hr)⟩
theorem Tch.of_below {a b : Nat} {w w' : World} (h : Below w.heap.size w w') : Tch a b w w' := ⟨h.os, h.tape, h.output, h.size, fun k hk _ => h.block k hk⟩
theorem Tch.of_grown {a b : Nat} {w w' : World} {row : Option Nat} (h : w.grownBy w' row) (hr : ∀ k, row = some k → a ≤ k ∧ k < b) : Tch a b w w' :=
  ⟨h.os, h.tape, h.output, h.size, fun k hk ho => h.block k hk fun e => by have := hr k e.symm; omega⟩
theorem Tch.below {a b B : Nat} {w w' : World} (h : Tch a b w w') (hB : B ≤ a) (hs : B ≤ w.heap.size) : Below B w w' :=
  ⟨h.os, h.tape, h.output, h.size, fun k hk => h.block k (by omega) (by omega)⟩
theorem Tch.mono {a b a' b' : Nat} {w w' : World} (h : Tch a b w w') (ha : a' ≤ a) (hb : b ≤ b') : Tch a' b' w w' :=
  ⟨h.os, h.tape, h.output, h.size, fun k hk ho => h.block k hk (by omega)⟩
theorem Tch.drew {a b : Nat} {w w' : World} (h : Tch a b w w') : Tch a b w w'.drew := ⟨h.os, h.tape, h.output, h.size, h.block⟩
end Go.Proofs.Ytkfglodjnnlbkaa

namespace Go.Proofs.Ytkfglodjnnlbkaa
set_option linter.unusedSimpArgs false
set_option linter.unusedVariables false
open Go.RowKit
/-- Two cells written one after the other. -/
def set2 (xs : List Value) (j : Nat) (x y : Value) : List Value := (xs.set j x).set (j + 1) y
end Go.Proofs.Ytkfglodjnnlbkaa

namespace Go.Proofs.Ytkfglodjnnlbkaa
set_option linter.unusedSimpArgs false
set_option linter.unusedVariables false
open Go.RowKit
theorem OwnI.at_ {w : World} {base n : Nat} {v : Value} {xs : List Int} (h : OwnI w base v xs) (hn : xs.length = n) : ∃ A c, v = .slice A n c ∧ IS w w.heap.size A xs := by
  subst hn
  exact h.form
end Go.Proofs.Ytkfglodjnnlbkaa

namespace Go.Proofs.Ytkfglodjnnlbkaa
set_option linter.unusedSimpArgs false
set_option linter.unusedVariables false
open Go.RowKit
theorem RetI.mono {w w0 w' : World} {xs : List Int} {e : Ending} (h : RetI w xs e w') (hb : Below w0.heap.size w0 w) : RetI w0 xs e w' := by
  obtain ⟨v, he, ho, hb'⟩ := h
  exact ⟨v, he, own_mono ho hb.size, hb.trans (hb'.mono hb.size)⟩
theorem RetI.nil {w w' : World} (hb : Below w.heap.size w w') : RetI w [] (.returned (.slice none 0 0)) w' := ⟨_, rfl, World.ownsRow_nil _ _ _ _, hb⟩
end Go.Proofs.Ytkfglodjnnlbkaa

namespace Go.Proofs.Ytkfglodjnnlbkaa
set_option linter.unusedSimpArgs false
set_option linter.unusedVariables false
open Go.RowKit
/-- The slice at A reads as the lists xss; all of it lies below block B. -/
def SS (w : World) (B : Nat) (A : Option Addr) (xss : List (List Int)) : Prop :=
  0 < xss.length → ∃ b off, A = some ⟨b, off, none⟩ ∧ b < B ∧ ∀ j, j < xss.length → ∃ A' n c, w.cell? ⟨b, off + j, none⟩ = some (.slice A' n c) ∧ n = (xss.getD j []).length ∧ IS w B A' (xss.getD j [])
section
variable {w w' : World} {B B' C : Nat} {A : Option Addr} {xss : List (List Int)}
theorem SS.keep (h : SS w B A xss) (hk : ∀ p : Addr, p.block < B → w'.cell? p = w.cell? p) : SS w' B A xss := by
  intro hn
  obtain ⟨b, off, e, hb, hc⟩ := h hn
  refine ⟨b, off, e, hb, fun j hj => ?_⟩
  obtain ⟨A', n, c, h1, h2, h3⟩ := hc j hj
  exact ⟨A', n, c, (hk _ hb).trans h1, h2, h3.keep hk⟩
theorem SS.more (h : SS w B A xss) (hB : B ≤ B') : SS w B' A xss := by
  intro hn
  obtain ⟨b, off, e, hb, hc⟩ := h hn
  refine ⟨b, off, e, by omega, fun j hj => ?_⟩
  obtain ⟨A', n, c, h1, h2, h3⟩ := hc j hj
  exact ⟨A', n, c, h1, h2, h3.more hB⟩
theorem SS.below (h : SS w B A xss) (hb : Below C w w') (hC : B ≤ C) : SS w' B A xss := h.keep fun _ hp => hb.cell (Nat.lt_of_lt_of_le hp hC)
theorem SS.alloc (h : SS w B A xss) (hB : B ≤ w.heap.size) (o : Obj) : SS (w.alloc o) B A xss := h.keep fun p hp => World.cell?_alloc_lt w o p (by omega)
theorem SS.nil (w : World) (B : Nat) (A : Option Addr) : SS w B A [] := fun h => absurd h (by simp)
end
theorem SS.step {A : Option Addr} {xss : List (List Int)} {wk wl : World} (h : SS wk wk.heap.size A xss) (hb : Below wk.heap.size wk wl) : SS wl wl.heap.size A xss := (h.below hb (Nat.le_refl _)).more hb.size
/-- No more lists, and no longer ones, than a million. -/
def SB (xss : List (List Int)) : Prop := xss.length ≤ 1048576 ∧ ∀ j, (xss.getD j []).length ≤ 1048576
end Go.Proofs.Ytkfglodjnnlbkaa

namespace Go.Proofs.Ytkfglodjnnlbkaa
set_option linter.unusedSimpArgs false
set_option linter.unusedVariables false
open Go.RowKit
structure Eg where
  vs : List Int
  rs : List (List Int)
deriving DecidableEq, Inhabited
/-- Some more lists than a million, none longer. -/
def SB2 (xss : List (List Int)) : Prop := xss.length ≤ 2000000 ∧ ∀ j, (xss.getD j []).length ≤ 1048576
theorem len_le_sum (xss : List (List Int)) (j : Nat) : (xss.getD j []).length ≤ (xss.map List.length).sum := by
  induction xss generalizing j with
  | nil => simp
  | cons x xs ih =>
    cases j with
    | zero => simp [List.getD]
    | succ j => have := ih j; simp [List.getD] at *; omega
theorem SB.of_sum {xss : List (List Int)} (h : xss.length ≤ 1048576) (h' : (xss.map List.length).sum ≤ 1048576) : SB xss :=
  ⟨h, fun j => Nat.le_trans (len_le_sum xss j) h'⟩
theorem SB2.of_sum {xss : List (List Int)} (h : xss.length ≤ 2000000) (h' : (xss.map List.length).sum ≤ 1048576) : SB2 xss :=
  ⟨h, fun j => Nat.le_trans (len_le_sum xss j) h'⟩
/-- The slices at A and E read as the state e; all of it lies below block B. -/
def ES (w : World) (B : Nat) (A E : Option Addr) (e : Eg) : Prop := IS w B A e.vs ∧ SS w B E e.rs
section
variable {w w' : World} {B B' C : Nat} {A E : Option Addr} {e : Eg}
theorem ES.more (h : ES w B A E e) (hB : B ≤ B') : ES w B' A E e := ⟨h.1.more hB, h.2.more hB⟩
theorem ES.below (h : ES w B A E e) (hb : Below C w w') (hC : B ≤ C) : ES w' B A E e := ⟨h.1.below hb hC, h.2.below hb hC⟩
theorem ES.alloc (h : ES w B A E e) (hB : B ≤ w.heap.size) (o : Obj) : ES (w.alloc o) B A E e := ⟨h.1.alloc hB o, h.2.alloc hB o⟩
end
theorem SS.at_ {w : World} {B : Nat} {A : Option Addr} {xss : List (List Int)} (h : SS w B A xss) (j : Nat) (hj : j < xss.length) : ∃ b off, A = some ⟨b, off, none⟩ ∧ b < B ∧ ∃ A' n c, w.cell? ⟨b, off + j, none⟩ = some (.slice A' n c) ∧ n = (xss.getD j []).length ∧ IS w B A' (xss.getD j []) := by
  obtain ⟨b, off, e, hb, hc⟩ := h (by omega)
  exact ⟨b, off, e, hb, hc j hj⟩
end Go.Proofs.Ytkfglodjnnlbkaa

namespace Go.Proofs.Ytkfglodjnnlbkaa
set_option linter.unusedSimpArgs false
set_option linter.unusedVariables false
open Go.RowKit
-- WANT impl_inRange spec_inRange impl_allInRange spec_allIn impl_copyOf spec_copyIntsA spec_copyInts RetI OwnI form nil Bl turn refl le alloc step MkW MkS leftOf leftOf_ok leftOf_no mark_ints held_ints markw_ints row_start laws_eqIntS laws_toIntS laws_markIntS laws_heldIntS box_new own_start below_of_drew As IS ints it loc mono keep Tch OwR own_form below more cell own_below set_getD getD_ne take_step take_all_eq take_succ_getD bcell RetT RetF RetB run_append1 append1 spec_append lt start setCell own lengths
theorem OB.of_sum {ds : List On} (h : ds.length ≤ 1048576) (h2 : ((rowsO ds).map List.length).sum ≤ 1048576) : OB ds := by
  refine ⟨h, h2, fun j => ?_⟩
  have a1 := len_le_sum (rowsO ds) (j * 2)
  have a2 := len_le_sum (rowsO ds) (j * 2 + 1)
  rw [rowsO_getD, rowO_cl] at a1
  rw [rowsO_getD, rowO_cx] at a2
  omega
theorem OwO.form {lo hi n : Nat} {v : Value} {ds : List On} {w : World} (h : OwO lo hi v n ds w) : ∃ A c, v = .slice A n c := by
  obtain ⟨_, xs, us, h1, _⟩ := h
  exact own_form h1.1
end Go.Proofs.Ytkfglodjnnlbkaa

namespace Go.Proofs.Ytkfglodjnnlbkaa
set_option linter.unusedSimpArgs false
set_option linter.unusedVariables false
open Go.RowKit
set_option maxRecDepth 100000 in
set_option maxHeartbeats 3200000 in
theorem spec_validOwner (A : Option Addr) (n c : Nat) (ds : List On) (w : World) (B : Nat) (hB : B ≤ w.heap.size) (hn : n = ds.length) (h : OS w B A ds) (hb : OB ds) (i : Nat) (hi : i < n) :
    Calls Try.prog 69 #[.slice A n c, .int .i64 i] w fun e w' => e = .returned (.bool (okO ds i)) ∧ Below w.heap.size w w' := by
  have hn1 : n ≤ 1048576 := by rw [hn]; exact hb.1
  obtain ⟨b, off, rfl, hbB, hc⟩ := h (by omega)
  obtain ⟨c0, c1, ⟨A1, n1, d1, c2, hn1', hp1⟩, A2, n2, d2, c3, hn2', hp2⟩ := hc i (by omega)
  have hx := hb.2.2 i
  have hbs : b < w.heap.size := by omega
  have HOP := Lib.hid fun (pn : Nat) (hp : pn < i) => (hc pn (by omega)).2.1
  unfold okO
  generalize ds.getD i default = d at *
  obtain ⟨p, o, cl, cx⟩ := d
  dsimp only at *
  have HA1 := Lib.hid fun (w' : World) (hB : B ≤ w'.heap.size) (h : IS w' B A1 cl) => spec_allIn A1 n1 d1 cl 0 50 w' B hB hn1' h (by omega)
  have HA2 := Lib.hid fun (w' : World) (hB : B ≤ w'.heap.size) (h : IS w' B A2 cx) => spec_allIn A2 n2 d2 cx (-1) 50 w' B hB hn2' h (by omega)
  have HP1 := Lib.hid (hp1.alloc hB (.cells #[.int .i64 p, .bool o, .slice A1 n1 d1, .slice A2 n2 d2] 30))
  have HP2 := Lib.hid (hp2.alloc hB (.cells #[.int .i64 p, .bool o, .slice A1 n1 d1, .slice A2 n2 d2] 30))
  have hBB : Below w.heap.size w (w.alloc (.cells #[.int .i64 p, .bool o, .slice A1 n1 d1, .slice A2 n2 d2] 30)) := (Below.refl _ _).alloc (Nat.le_refl _) _
  have HR : okD ds i ⟨p, o, cl, cx⟩ = (parOK i p && (((decide (n1 ≤ 5) && allR cl 0 50) && (decide (n2 = 3) && allR cx (-1) 50)) && ((o && (decide (i = 0) || opn ds p)) || (!o && decide (n1 = 0))))) := by
    unfold okD clOK ctxOK; rw [hn1', hn2']
  rw [HR]
  clear HR hp1 hp2
  have hx1 : n1 ≤ 1048576 := by omega
  have hx2 : n2 ≤ 1048576 := by omega
  have HBB := Lib.hid hBB
  have HB2 : Hid (B ≤ (w.alloc (.cells #[.int .i64 p, .bool o, .slice A1 n1 d1, .slice A2 n2 d2] 30)).heap.size) := by show _ ≤ _; rw [World.size_alloc]; omega
  generalize allR cl 0 50 = a1 at *
  generalize allR cx (-1) 50 = a2 at *
  clear hn1' hn2' hx hn h hc hb hBB
  by_cases h0 : i = 0
  · subst h0
    simp only [Nat.zero_mul, Nat.add_zero] at c0 c1 c2 c3
    by_cases hp : p = -1
    · subst hp
      have hr : parOK 0 (-1) = true := rfl
      rw [hr]
      clear hr HOP
      by_cases h5 : 5 < n1
      · have h5' : ¬ n1 ≤ 5 := by omega
        go_enter Try.func69, Try.ntmps69
        go_wp2
        go_ret
        exact ⟨ret_b (by simp [h5']), HBB.out⟩
      have h5' : n1 ≤ 5 := by omega
      cases a1
      · go_enter Try.func69, Try.ntmps69
        go_wp2_with fail
        refine (HA1.out _ HB2.out HP1.out).mono ?_
        rintro e w' ⟨rfl, rfl⟩
        go_wp2
        go_ret
        exact ⟨ret_b (by simp []), HBB.out⟩
      by_cases h3 : n2 = 3
      case neg =>
        have h3' : ((n2 : Int) != 3) = true := by simp; omega
        go_enter Try.func69, Try.ntmps69
        go_wp2_with fail
        refine (HA1.out _ HB2.out HP1.out).mono ?_
        rintro e w' ⟨rfl, rfl⟩
        go_wp2
        go_ret
        exact ⟨ret_b (by simp [h3]), HBB.out⟩
      have h3' : ((n2 : Int) != 3) = false := by simp; omega
      have H3 := Lib.hid h3
      clear h3
      cases a2
      · go_enter Try.func69, Try.ntmps69
        go_wp2_with fail
        refine (HA1.out _ HB2.out HP1.out).mono ?_
        rintro e w' ⟨rfl, rfl⟩
        go_wp2_with fail
        refine (HA2.out _ HB2.out HP2.out).mono ?_
        rintro e w' ⟨rfl, rfl⟩
        go_wp2
        go_ret
        exact ⟨ret_b (by simp []), HBB.out⟩
      have H5 := Lib.hid h5'
      clear h5'
      cases o
      · by_cases h0 : n1 = 0
        · have h0' : ((n1 : Int) == 0) = true := by simp; omega
          have H0 := Lib.hid h0
          clear h0
          go_enter Try.func69, Try.ntmps69
          go_wp2_with fail
          refine (HA1.out _ HB2.out HP1.out).mono ?_
          rintro e w' ⟨rfl, rfl⟩
          go_wp2_with fail
          refine (HA2.out _ HB2.out HP2.out).mono ?_
          rintro e w' ⟨rfl, rfl⟩
          go_wp2
          go_ret
          exact ⟨ret_b (by simp [H0.out, H3.out]), HBB.out⟩
        · have h0' : ((n1 : Int) == 0) = false := by simp; omega
          have H0 := Lib.hid h0
          clear h0
          go_enter Try.func69, Try.ntmps69
          go_wp2_with fail
          refine (HA1.out _ HB2.out HP1.out).mono ?_
          rintro e w' ⟨rfl, rfl⟩
          go_wp2_with fail
          refine (HA2.out _ HB2.out HP2.out).mono ?_
          rintro e w' ⟨rfl, rfl⟩
          go_wp2
          go_ret
          exact ⟨ret_b (by simp [H0.out, H3.out]), HBB.out⟩
      · go_enter Try.func69, Try.ntmps69
        go_wp2_with fail
        refine (HA1.out _ HB2.out HP1.out).mono ?_
        rintro e w' ⟨rfl, rfl⟩
        go_wp2_with fail
        refine (HA2.out _ HB2.out HP2.out).mono ?_
        rintro e w' ⟨rfl, rfl⟩
        go_wp2
        go_ret
        exact ⟨ret_b (by simp [H3.out, H5.out]), HBB.out⟩
    · have hr : parOK 0 p = false := by unfold parOK; simp [hp]
      have hp' : (p != -1) = true := by simp [hp]
      rw [hr]
      clear hr HOP hp
      go_enter Try.func69, Try.ntmps69
      go_wp2
      go_ret
      exact ⟨rfl, HBB.out⟩
  · have hz : ((i : Int) == 0) = false := by simp; omega
    have hi0 : (0 : Int) < i := by omega
    cases hpr : rng p 0 ((i : Int) - 1)
    · have hr : parOK i p = false := by unfold parOK; rw [if_neg h0, hpr]
      rw [hr]
      clear hr HOP
      go_enter Try.func69, Try.ntmps69
      go_wp2_with (go_at_call 57; refine (spec_inRange _ _ _ _).mono ?_; rintro e w' ⟨rfl, rfl⟩)
      go_ret
      exact ⟨rfl, HBB.out⟩
    · have hr : parOK i p = true := by unfold parOK; rw [if_neg h0, hpr]
      obtain ⟨hp0, hp1⟩ := (rng_iff _ _ _).1 hpr
      obtain ⟨pn, rfl⟩ : ∃ pn : Nat, p = pn := ⟨p.toNat, by omega⟩
      have hpn : pn < i := by omega
      have hop : opn ds (pn : Int) = (ds.getD pn default).o := by simp [opn]
      have e1 := HOP.out pn hpn
      rw [hr, hop]
      generalize (ds.getD pn default).o = po at *
      have hin : decide (i = 0) = false := by simp [h0]
      rw [hin]
      clear hr HOP hop hp0 hp1
      have hpn2 : pn < n := by omega
      by_cases h5 : 5 < n1
      · have h5' : ¬ n1 ≤ 5 := by omega
        go_enter Try.func69, Try.ntmps69
        go_wp2_with fail
        refine (spec_inRange _ _ _ _).mono ?_
        rintro e w' ⟨rfl, rfl⟩
        go_wp2
        go_ret
        exact ⟨ret_b (by simp [h5']), HBB.out⟩
      have h5' : n1 ≤ 5 := by omega
      cases a1
      · go_enter Try.func69, Try.ntmps69
        go_wp2_with fail
        refine (spec_inRange _ _ _ _).mono ?_
        rintro e w' ⟨rfl, rfl⟩
        go_wp2_with fail
        refine (HA1.out _ HB2.out HP1.out).mono ?_
        rintro e w' ⟨rfl, rfl⟩
        go_wp2
        go_ret
        exact ⟨ret_b (by simp []), HBB.out⟩
      by_cases h3 : n2 = 3
      case neg =>
        have h3' : ((n2 : Int) != 3) = true := by simp; omega
        go_enter Try.func69, Try.ntmps69
        go_wp2_with fail
        refine (spec_inRange _ _ _ _).mono ?_
        rintro e w' ⟨rfl, rfl⟩
        go_wp2_with fail
        refine (HA1.out _ HB2.out HP1.out).mono ?_
        rintro e w' ⟨rfl, rfl⟩
        go_wp2
        go_ret
        exact ⟨ret_b (by simp [h3]), HBB.out⟩
      have h3' : ((n2 : Int) != 3) = false := by simp; omega
      have H3 := Lib.hid h3
      clear h3
      cases a2
      · go_enter Try.func69, Try.ntmps69
        go_wp2_with fail
        refine (spec_inRange _ _ _ _).mono ?_
        rintro e w' ⟨rfl, rfl⟩
        go_wp2_with fail
        refine (HA1.out _ HB2.out HP1.out).mono ?_
        rintro e w' ⟨rfl, rfl⟩
        go_wp2_with fail
        refine (HA2.out _ HB2.out HP2.out).mono ?_
        rintro e w' ⟨rfl, rfl⟩
        go_wp2
        go_ret
        exact ⟨ret_b (by simp []), HBB.out⟩
      have H5 := Lib.hid h5'
      clear h5'
      cases o
      · by_cases h0 : n1 = 0
        · have h0' : ((n1 : Int) == 0) = true := by simp; omega
          have H0 := Lib.hid h0
          clear h0
          go_enter Try.func69, Try.ntmps69
          go_wp2_with fail
          refine (spec_inRange _ _ _ _).mono ?_
          rintro e w' ⟨rfl, rfl⟩
          go_wp2_with fail
          refine (HA1.out _ HB2.out HP1.out).mono ?_
          rintro e w' ⟨rfl, rfl⟩
          go_wp2_with fail
          refine (HA2.out _ HB2.out HP2.out).mono ?_
          rintro e w' ⟨rfl, rfl⟩
          go_wp2
          go_ret
          exact ⟨ret_b (by simp [H0.out, H3.out]), HBB.out⟩
        · have h0' : ((n1 : Int) == 0) = false := by simp; omega
          have H0 := Lib.hid h0
          clear h0
          go_enter Try.func69, Try.ntmps69
          go_wp2_with fail
          refine (spec_inRange _ _ _ _).mono ?_
          rintro e w' ⟨rfl, rfl⟩
          go_wp2_with fail
          refine (HA1.out _ HB2.out HP1.out).mono ?_
          rintro e w' ⟨rfl, rfl⟩
          go_wp2_with fail
          refine (HA2.out _ HB2.out HP2.out).mono ?_
          rintro e w' ⟨rfl, rfl⟩
          go_wp2
          go_ret
          exact ⟨ret_b (by simp [H0.out, H3.out]), HBB.out⟩
      cases po
      all_goals
        go_enter Try.func69, Try.ntmps69
        go_wp2_with fail
        refine (spec_inRange _ _ _ _).mono ?_
        rintro e w' ⟨rfl, rfl⟩
        go_wp2_with fail
        refine (HA1.out _ HB2.out HP1.out).mono ?_
        rintro e w' ⟨rfl, rfl⟩
        go_wp2_with fail
        refine (HA2.out _ HB2.out HP2.out).mono ?_
        rintro e w' ⟨rfl, rfl⟩
        go_wp2
        go_ret
        exact ⟨ret_b (by simp [H3.out, H5.out]), HBB.out⟩
theorem okO_false (ds : List On) (k : Nat) (hk : k < ds.length) (h : okO ds k = false) : validO ds = false := by
  unfold validO
  rw [show (List.range ds.length).all (okO ds) = false from List.all_eq_false.2 ⟨k, List.mem_range.2 hk, by rw [h]; simp⟩]
  rfl
set_option maxRecDepth 100000 in
set_option maxHeartbeats 800000 in
theorem spec_validOwners (A : Option Addr) (n c : Nat) (ds : List On) (w : World) (B : Nat) (hB : B ≤ w.heap.size) (hn : n = ds.length) (h : OS w B A ds) (hb : OB ds) :
    Calls Try.prog 46 #[.slice A n c] w fun e w' => e = .returned (.bool (validO ds)) ∧ Below w.heap.size w w' := by
  have hnb : n ≤ 1048576 := by rw [hn]; exact hb.1
  have HC := Lib.hid fun (i : Nat) (hi : i < n) (w' : World) (hB : B ≤ w'.heap.size) (h : OS w' B A ds) => spec_validOwner A n c ds w' B hB hn h hb i hi
  have H := Lib.hid h
  have HN := Lib.hid hn
  clear hn h hb
  go_enter Try.func46, Try.ntmps46
  go_wp2
  go_loopw [3] (fun i wr => ∃ k : Nat, k ≤ n ∧ i = .int .i64 k ∧ Hid (∀ j, j < k → okO ds j = true) ∧ Below w.heap.size w wr) (fun i _ => n - (intOf i).toNat)
  case atStart => exact ⟨0, Nat.zero_le _, rfl, fun j hj => by omega, Below.refl _ _⟩
  case round =>
    obtain ⟨k, hk, rfl, HA, hb⟩ := hrel
    by_cases hlt : k < n
    · have HCk := Lib.hid (HC.out k hlt)
      cases hok : okO ds k
      · rw [hok] at HCk
        go_wp2_with fail
        refine (HCk.out _ (Nat.le_trans hB hb.size) (H.out.below hb hB)).mono ?_
        rintro e w' ⟨rfl, hb1⟩
        go_wp2
        go_ret
        exact ⟨ret_b (okO_false ds k (by have := HN.out; omega) hok).symm, hb.trans (hb1.mono hb.size)⟩
      · rw [hok] at HCk
        have HOK := Lib.hid hok
        clear hok
        go_wp2_with fail
        refine (HCk.out _ (Nat.le_trans hB hb.size) (H.out.below hb hB)).mono ?_
        rintro e w' ⟨rfl, hb1⟩
        go_wp2
        go_roundw
        case rel => exact ⟨k + 1, by omega, by go_num, fun j hj => by
          rcases Nat.lt_or_ge j k with h1 | h1
          · exact HA.out j h1
          · obtain rfl : j = k := by omega
            exact HOK.out, hb.trans (hb1.mono hb.size)⟩
        case measure => simp [intOf]; omega
    · have hv := okO_all ds fun j hj => HA.out j (by have := HN.out; omega)
      rw [← HN.out] at hv
      have HV := Lib.hid hv
      clear hv
      go_wp2_with (go_at_call 57; refine (spec_inRange _ _ _ _).mono ?_; rintro e w' ⟨rfl, rfl⟩)
      go_ret
      exact ⟨ret_b HV.out.symm, hb⟩
end Go.Proofs.Ytkfglodjnnlbkaa

namespace Go.Proofs.Ytkfglodjnnlbkaa
set_option linter.unusedSimpArgs false
set_option linter.unusedVariables false
open Go.RowKit
theorem Bx4.set2 {b : Nat} {x y z t u : Value} {w : World} (h : Bx4 b x y z t w) : Bx4 b x y u t (w.setCell ⟨b, 2, none⟩ u) :=
  ⟨by simpa [World.setCell] using h.lt, (World.cell?_setCell_other _ _ _ _ (by simp)).trans h.c0, (World.cell?_setCell_other _ _ _ _ (by simp)).trans h.c1, World.cell?_setCell_same _ _ _ h.c2, (World.cell?_setCell_other _ _ _ _ (by simp)).trans h.c3, fun i => (World.frozen?_setCell _ _ _ _).trans (h.f i)⟩
/-- Returns owners in fresh blocks. -/
def RetO (w : World) (ds : List On) (e : Ending) (w' : World) : Prop := ∃ v, e = .returned v ∧ OwO w.heap.size w'.heap.size v ds.length ds w' ∧ Below w.heap.size w w'
theorem RetO.nil {w w' : World} (hb : Below w.heap.size w w') : RetO w [] (.returned (.slice none 0 0)) w' := ⟨_, rfl, OwO.nil _ _ _, hb⟩
end Go.Proofs.Ytkfglodjnnlbkaa

namespace Go.Proofs.Ytkfglodjnnlbkaa
set_option linter.unusedSimpArgs false
set_option linter.unusedVariables false
open Go.RowKit
theorem rowO_one (d : On) (i : Nat) : rowO [d] i = if i = 0 then d.cl else if i = 1 then d.cx else [] := by
  unfold rowO
  match i with
  | 0 => rfl
  | 1 => rfl
  | i + 2 =>
    have h2 : (i + 2) / 2 = i / 2 + 1 := by omega
    have e : ([d] : List On).getD (i / 2 + 1) default = default := by simp [List.getD]
    rw [h2, e]
    simp only [if_neg (show ¬ i + 2 = 0 by omega), if_neg (show ¬ i + 2 = 1 by omega)]
    split <;> rfl
/-- A list of one owner that was just made. -/
theorem OwO.single {lo mid : Nat} {w : World} {d : On} {A A' : Option Addr} {m c m' c' : Nat} (h1 : OwR lo mid 3 1 (.slice A m c) m (d.cl.map (Value.int .i64)) w) (hm : m = d.cl.length) (h2 : OwR mid w.heap.size 3 1 (.slice A' m' c') m' (d.cx.map (Value.int .i64)) w) (hm' : m' = d.cx.length) (hlo : lo ≤ mid) (hmid : mid ≤ w.heap.size) :
    OwO lo (w.alloc (.cells #[.int .i64 d.p, .bool d.o, .slice A m c, .slice A' m' c'] 30)).heap.size (.slice (some ⟨w.heap.size, 0, none⟩) 1 1) 1 [d] (w.alloc (.cells #[.int .i64 d.p, .bool d.o, .slice A m c, .slice A' m' c'] 30)) := by
  have hl := World.ownsRow_lit (e := 30) (size := 4) (base := lo) w #[.int .i64 d.p, .bool d.o, .slice A m c, .slice A' m' c'] 1 (by omega) (by unfold maxLen; omega) rfl
  refine ⟨rfl, _, [.slice A m c, .slice A' m' c'], OwR.start hl, rfl, ?_, ?_⟩
  · intro j hj
    obtain rfl : j = 0 := by simpa using hj
    exact ⟨rfl, rfl, rfl, rfl⟩
  · have k1 := h1.keep (w' := w.alloc (.cells #[.int .i64 d.p, .bool d.o, .slice A m c, .slice A' m' c'] 30)) fun k _ hk => ((Below.refl w.heap.size w).alloc (Nat.le_refl _) _).block k (by omega)
    have k2 := h2.keep (w' := w.alloc (.cells #[.int .i64 d.p, .bool d.o, .slice A m c, .slice A' m' c'] 30)) fun k _ hk => ((Below.refl w.heap.size w).alloc (Nat.le_refl _) _).block k hk
    refine SSk.two (mid := mid) ?_ ?_ ?_ ?_ hlo (by simp; omega)
    · rw [rowOfO, rowO_one, if_pos rfl]; exact k1
    · rw [rowOfO, rowO_one, if_neg (by omega), if_pos rfl]; exact k2.mono (Nat.le_refl _) (by simp)
    · rw [lenOfO, rowO_one, if_pos rfl]; exact hm
    · rw [lenOfO, rowO_one, if_neg (by omega), if_pos rfl]; exact hm'
theorem getD_snoc (ds : List On) (d : On) (j : Nat) : (ds ++ [d]).getD j default = if j = ds.length then d else ds.getD j default := by
  simp only [List.getD, List.getElem?_append]
  by_cases h : j < ds.length
  · rw [if_pos h, if_neg (by omega)]
  · rw [if_neg h]
    by_cases h2 : j = ds.length
    · subst h2; simp
    · rw [if_neg h2, List.getElem?_eq_none (by simp; omega), List.getElem?_eq_none (by omega)]
theorem OwO.snoc {lo hi mid top k : Nat} {v v' : Value} {ds : List On} {w w' : World} {d : On} {A A' : Option Addr} {m c m' c' : Nat} {xs us : List Value}
    (h0 : k = ds.length) (hx : OwR lo hi 30 4 v k xs w) (hul : us.length = k * 2) (hf : OwF xs us ds) (hs : SSk lo hi us (lenOf (rowsO ds)) (rowOf (rowsO ds)) w)
    (h1 : OwR hi mid 3 1 (.slice A m c) m (d.cl.map (Value.int .i64)) w) (hm : m = d.cl.length) (h2 : OwR mid top 3 1 (.slice A' m' c') m' (d.cx.map (Value.int .i64)) w) (hm' : m' = d.cx.length) (hlo : lo ≤ hi) (hmid : hi ≤ mid) (htop : mid ≤ top) (hsz : top ≤ w.heap.size)
    (hg : w.grownBy w' v.ownBlock) (hv : w'.ownsRow lo 30 4 v' (k + 1) (xs ++ [.int .i64 d.p, .bool d.o, .slice A m c, .slice A' m' c'])) : OwO lo w'.heap.size v' (k + 1) (ds ++ [d]) w' := by
  have hxl : xs.length = k * 4 := hx.1.1
  have hw' := hg.size
  have hs1 := hs.grown hg (hs.ne hx.1 owner_ne_int.symm)
  have r1 := h1.1.kept hg (blocks_ne h1.1 hx.1 owner_ne_int.symm)
  have r2 := h2.1.kept hg (blocks_ne h2.1 hx.1 owner_ne_int.symm)
  have hrow (i : Nat) : rowO (ds ++ [d]) i = if i = k * 2 then d.cl else if i = k * 2 + 1 then d.cx else rowO ds i := by
    unfold rowO
    rw [getD_snoc ds d (i / 2), ← h0]
    by_cases e1 : i / 2 = k
    · rw [if_pos e1]
      by_cases e2 : i % 2 = 0
      · rw [if_pos e2, if_pos (by omega)]
      · rw [if_neg e2, if_neg (by omega), if_pos (by omega)]
    · have e3 : ¬ i = k * 2 := by omega
      have e4 : ¬ i = k * 2 + 1 := by omega
      simp only [if_neg e1, if_neg e3, if_neg e4]
  refine ⟨by simp [h0], _, (us ++ [.slice A m c]) ++ [.slice A' m' c'], ⟨hv, fun q hq => (hv.lt q hq).2⟩, by simp [hul]; omega, ?_, ?_⟩
  · intro j hj
    rw [getD_snoc ds d j, ← h0]
    by_cases e : j = k
    · subst e
      rw [if_pos rfl]
      refine ⟨?_, ?_, ?_, ?_⟩
      · rw [List.getElem?_append_right (by omega), hxl]; simp
      · rw [List.getElem?_append_right (by omega), hxl, show j * 4 + 1 - j * 4 = 1 by omega]; rfl
      · rw [List.getElem?_append_right (by omega), hxl, show j * 4 + 2 - j * 4 = 2 by omega, List.getElem?_append_left (by simp; omega), List.getElem?_append_right (by omega), hul]; simp
      · rw [List.getElem?_append_right (by omega), hxl, show j * 4 + 3 - j * 4 = 3 by omega, List.getElem?_append_right (by simp; omega)]; simp [hul]
    · rw [if_neg e]
      have hjk : j < k := by simp at hj; omega
      obtain ⟨f0, f1, f2, f3⟩ := hf j (by omega)
      refine ⟨?_, ?_, ?_, ?_⟩
      · rw [List.getElem?_append_left (by omega)]; exact f0
      · rw [List.getElem?_append_left (by omega)]; exact f1
      · rw [List.getElem?_append_left (by omega), List.getElem?_append_left (by simp; omega), List.getElem?_append_left (by omega)]; exact f2
      · rw [List.getElem?_append_left (by omega), List.getElem?_append_left (by simp; omega), List.getElem?_append_left (by omega)]; exact f3
  · have p1 : SSk lo mid (us ++ [.slice A m c]) (fun i => if i = k * 2 then d.cl.length else lenOf (rowsO ds) i) (fun i => if i = k * 2 then d.cl.map (Value.int .i64) else rowOf (rowsO ds) i) w' :=
      hs1.put (A := A) (m := m) (c := c) (k * 2) (by rw [List.getElem?_append_right (by omega), hul]; simp) (fun j hj => by
        rcases Nat.lt_or_ge j (k * 2) with h | h
        · rw [List.getElem?_append_left (by omega)]
        · rw [List.getElem?_eq_none (by simp; omega), List.getElem?_eq_none (by omega)]) (fun j hj h => by simp at hj; omega) (by simpa using hm) (fun j hj => by simp [hj]) (by simpa using ⟨r1, h1.2⟩) hlo hmid
    have p2 := p1.put (hi' := top) (k := k * 2 + 1) (vs' := (us ++ [.slice A m c]) ++ [.slice A' m' c']) (lens' := lenOf (rowsO (ds ++ [d]))) (cont' := rowOf (rowsO (ds ++ [d]))) (A := A') (m := m') (c := c') (by rw [List.getElem?_append_right (by simp; omega)]; simp [hul]) (fun j hj => by
        rcases Nat.lt_or_ge j (k * 2 + 1) with h | h
        · rw [List.getElem?_append_left (by simp; omega)]
        · rw [List.getElem?_eq_none (by simp; omega), List.getElem?_eq_none (by simp; omega)]) (fun j hj h => by simp at hj ⊢; omega) ?_ (fun j hj => ?_) ?_ (by omega) htop
    · exact p2.mono (Nat.le_refl _) (by omega)
    · rw [lenOfO, hrow, if_neg (by omega), if_pos rfl]; exact hm'
    · rw [lenOfO, rowOfO, hrow]
      by_cases e : j = k * 2
      · simp [e]
      · rw [if_neg e, if_neg hj, if_neg e, if_neg e, ← lenOfO, ← rowOfO]; exact ⟨rfl, rfl⟩
    · rw [rowOfO, hrow, if_neg (by omega), if_pos rfl]; exact ⟨r2, h2.2⟩
end Go.Proofs.Ytkfglodjnnlbkaa

namespace Go.Proofs.Ytkfglodjnnlbkaa
set_option linter.unusedSimpArgs false
set_option linter.unusedVariables false
open Go.RowKit
theorem nwTo_step (P : Nat → Bool) (k : Nat) : nwTo P (k + 1) = nwTo P k ++ (if P k then [(k : Int)] else []) := by
  unfold nwTo
  rw [List.range_succ, List.filter_append, List.map_append]
  congr 1
  cases h : P k <;> simp [h]
theorem nwTo_len (P : Nat → Bool) (k : Nat) : (nwTo P k).length ≤ k := by
  unfold nwTo
  rw [List.length_map]
  have := List.length_filter_le P (List.range k)
  simpa using this
end Go.Proofs.Ytkfglodjnnlbkaa

namespace Go.Proofs.Ytkfglodjnnlbkaa
set_option linter.unusedSimpArgs false
set_option linter.unusedVariables false
open Go.RowKit
theorem news_of_ints {w : World} {b off n : Nat} {xs : List Int} (hc : ∀ j, j < xs.length → w.cell? ⟨b, off + j, none⟩ = some (.int .i64 (xs.getD j 0))) : ∀ j u, (xs.map (Value.int .i64))[j]? = some u → w.cell? ((⟨b, off, none⟩ : Addr).add j) = some u := by
  intro j u hu
  have hj : j < xs.length := by
    rcases Nat.lt_or_ge j xs.length with h1 | h1
    · exact h1
    · rw [List.getElem?_eq_none (by simpa using h1)] at hu; cases hu
  have hadd : (⟨b, off, none⟩ : Addr).add j = ⟨b, off + j, none⟩ := by unfold Addr.add; split <;> simp_all
  rw [hadd, hc j hj, ← hu]
  simp [List.getD, hj]
theorem ints_one (xs : List Int) : ∀ u ∈ xs.map (Value.int .i64), u.oneCell' = true := by
  intro u hu
  obtain ⟨x, _, rfl⟩ := List.mem_map.1 hu
  rfl
set_option maxHeartbeats 800000 in
theorem spec_copyInts (A : Option Addr) (n c : Nat) (xs : List Int) (w : World) (B : Nat) (hB : B ≤ w.heap.size) (hn : n = xs.length) (h : IS w B A xs) (hs : n ≤ 2000000) (hp : 0 < n) :
    Calls Try.prog 73 #[.slice A n c] w fun e w' => ∃ g cap, e = .returned (.slice (some ⟨g, 0, none⟩) n cap) ∧ w'.ownsRow w.heap.size 3 1 (.slice (some ⟨g, 0, none⟩) n cap) n (xs.map (Value.int .i64)) ∧ Below w.heap.size w w' := by
  obtain ⟨i0, hi, hz0, hz1, hz2⟩ := info_parts info_int
  obtain ⟨b, off, rfl, hbB, hc⟩ := h (by omega)
  have hnew := World.ownsRow_lit (e := 3) (size := 1) (base := w.heap.size) w #[] 0 (Nat.le_refl _) (by unfold maxLen; omega) (by simp)
  have hnews := news_of_ints (n := n) (fun j hj => (World.cell?_alloc_lt w (.cells #[] 3) ⟨b, off + j, none⟩ (show b < w.heap.size by omega)).trans (hc j hj))
  have HNEW := Lib.hid hnew
  have HNS := Lib.hid hnews
  have HN := Lib.hid hn
  clear hnew hnews hc hn h
  go_enter Try.func73, Try.ntmps73
  go_wp2_with (at_builtin; refine wpList_append_own_at _ rfl _ _ 26 rfl w.heap.size 3 i0 (.int .i64 0) 1 8 Try.underlying26 hi hz0 hz1 hz2 rfl (by decide) _ _ _ rfl HNEW.out ⟨b, off, none⟩ n c (xs.map (Value.int .i64)) rfl ?d1 HNS.out (ints_one xs) ?d3 ?d4 ?d5 ?_)
  case d1 => have := HN.out; first | omega | (simp; omega)
  case d3 => unfold maxLen; omega
  case d4 => omega
  intro v' w3 hown' hgrow _ _
  have hown'' : w3.ownsRow w.heap.size 3 1 v' n (xs.map (Value.int .i64)) := by simpa using hown'
  obtain ⟨g, cap, rfl⟩ : ∃ g cap, v' = .slice (some ⟨g, 0, none⟩) n cap := by
    rcases hown''.2 with ⟨_, h0⟩ | ⟨g, cap, cur, hv, _⟩
    · omega
    · exact ⟨g, cap, hv⟩
  have HO := Lib.hid hown''
  have hb3 : Below w.heap.size w w3 := ((Below.refl _ _).alloc (Nat.le_refl _) (.cells #[] 3)).grown hgrow (by simp) (fun k hk => by simp [Value.ownBlock] at hk; omega)
  clear hown' hown'' hgrow
  go_wp2
  go_ret
  exact ⟨g, cap, rfl, HO.out, hb3⟩
end Go.Proofs.Ytkfglodjnnlbkaa

namespace Go.Proofs.Ytkfglodjnnlbkaa
set_option linter.unusedSimpArgs false
set_option linter.unusedVariables false
open Go.RowKit
section
variable {P : Program} {w : World}
theorem run_append_zero (base : Nat) (t ty e : TypeId) (i : TypeInfo) (size : Nat) (ht : P.underlying t = some (.slice e)) (hi : P.info? e = some i) (v : Value) (n : Nat) (xs : List Value) (hown : w.ownsRow base e size v n xs) (A : Option Addr) (c : Nat) :
    (Builtin.append_ #[t, t] ty #[v, .slice A 0 c]).run P w = .ok v w := by
  rcases hown.2 with ⟨rfl, rfl⟩ | ⟨g, cap, cur, rfl, _, _, hnc, _⟩
  · cases A <;> simp [Builtin.append_, run_underlying ht, sizeOf, typeInfo, hi, Builtin.lenOf, Builtin.firstCells, loadCells, loadCellsFrom, storeCells, Result.andThen]
  · cases A <;> simp [Builtin.append_, run_underlying ht, sizeOf, typeInfo, hi, Builtin.lenOf, Builtin.firstCells, hnc, loadCells, loadCellsFrom, storeCells, Result.andThen]
theorem wpList_append_zero {ops : Array Oper} {rest : List Oper} {o : Oper} {a : Act} {Q : Exit → Act → World → Prop} (hgd : o.guard = none) (s x : Operand) (t : TypeId)
    (ho : o.op = .call { callee := .builtin .append, args := #[s, x], argTypes := #[t, t] })
    (base : Nat) (e : TypeId) (i : TypeInfo) (size : Nat) (ht : P.underlying t = some (.slice e)) (hi : P.info? e = some i)
    (v : Value) (n : Nat) (xs : List Value) (hs : a.eval s = v) (hown : w.ownsRow base e size v n xs) (A : Option Addr) (c : Nat) (hx : a.eval x = .slice A 0 c)
    (h : wpList P ops Q rest (a.put o.dst v) w) : wpList P ops Q (o :: rest) a w := by
  refine wpList_plain hgd fun K hK => ?_
  have hrun := run_append_zero (P := P) (w := w) base t o.type e i size ht hi v n xs hown A c
  unfold Oper.wp
  simp [execOp, ho, resolve, invoke, builtin, hs, hx, hrun, Result.andThen]
  exact hK _ _ h
end
set_option maxHeartbeats 800000 in
theorem spec_copyIntsA (A : Option Addr) (n c : Nat) (xs : List Int) (w : World) (B : Nat) (hB : B ≤ w.heap.size) (hn : n = xs.length) (h : IS w B A xs) (hs : n ≤ 2000000) :
    Calls Try.prog 73 #[.slice A n c] w fun e w' => ∃ g cap, e = .returned (.slice (some ⟨g, 0, none⟩) n cap) ∧ w'.ownsRow w.heap.size 3 1 (.slice (some ⟨g, 0, none⟩) n cap) n (xs.map (Value.int .i64)) ∧ Below w.heap.size w w' := by
  by_cases hp : 0 < n
  · exact spec_copyInts A n c xs w B hB hn h hs hp
  · obtain rfl : n = 0 := by omega
    have hx : xs = [] := List.eq_nil_of_length_eq_zero hn.symm
    subst hx
    obtain ⟨i0, hi, hz0, hz1, hz2⟩ := info_parts info_int
    have hnew := World.ownsRow_lit (e := 3) (size := 1) (base := w.heap.size) w #[] 0 (Nat.le_refl _) (by unfold maxLen; omega) (by simp)
    have HNEW := Lib.hid hnew
    clear hnew hn h
    go_enter Try.func73, Try.ntmps73
    go_wp2_with (at_builtin; refine wpList_append_zero rfl _ _ 26 rfl w.heap.size 3 i0 1 Try.underlying26 hi _ 0 _ rfl HNEW.out A c rfl ?_)
    go_ret
    exact ⟨_, _, rfl, by simpa using HNEW.out, (Below.refl _ _).alloc (Nat.le_refl _) _⟩
end Go.Proofs.Ytkfglodjnnlbkaa

namespace Go.Proofs.Ytkfglodjnnlbkaa
set_option linter.unusedSimpArgs false
set_option linter.unusedVariables false
open Go.RowKit
theorem cells_new (w : World) (cs : Array Value) (t : TypeId) (xs : List Value) (hx : cs.toList = xs) : ∀ j u, xs[j]? = some u → (w.alloc (.cells cs t)).cell? ((⟨w.heap.size, 0, none⟩ : Addr).add j) = some u := by
  subst hx
  intro j u hj
  have hadd : (⟨w.heap.size, 0, none⟩ : Addr).add j = ⟨w.heap.size, j, none⟩ := by unfold Addr.add; split <;> simp_all
  rw [hadd, cell_of_row _ w.heap.size j cs t (0, 0) (heap_alloc_new w _)]
  simpa using hj
end Go.Proofs.Ytkfglodjnnlbkaa

namespace Go.Proofs.Ytkfglodjnnlbkaa
set_option linter.unusedSimpArgs false
set_option linter.unusedVariables false
open Go.RowKit
def newF (xs : List Int) : List On := if ctxOK xs then [⟨-1, true, [], xs⟩] else []
set_option maxRecDepth 100000 in
set_option maxHeartbeats 800000 in
theorem top_spec_NewOwners (xs : List Int) (hL : xs.length ≤ 1048576) : ∀ (A : Option Addr) (n c : Nat) (w : World), n = xs.length → IS w w.heap.size A xs →
    Calls Try.prog 77 #[.slice A n c] w fun e w' => RetO w (newF xs) e w' := by
  intro A n c w hn h
  have HA := Lib.hid (spec_allIn A n c xs (-1) 50 w w.heap.size (Nat.le_refl _) hn h (by omega))
  have HC := Lib.hid (spec_copyIntsA A n c xs w w.heap.size (Nat.le_refl _) hn h (by omega))
  unfold newF
  by_cases h3 : n = 3
  case neg =>
    have hx : ctxOK xs = false := by unfold ctxOK; rw [decide_eq_false (by omega)]; rfl
    have hne : ((n : Int) != 3) = true := by simp; omega
    rw [hx]
    clear hx hn h HC HA h3
    simp only [Bool.false_eq_true, if_false]
    go_enter Try.func77, Try.ntmps77
    go_wp2
    go_ret
    exact RetO.nil (Below.refl _ _)
  have hne : ((n : Int) != 3) = false := by simp; omega
  have hx : ctxOK xs = allR xs (-1) 50 := by unfold ctxOK; rw [decide_eq_true (by omega)]; rfl
  rw [hx]
  have HN := Lib.hid hn
  clear hx hn h h3
  cases ha : allR xs (-1) 50
  · rw [ha] at HA
    clear ha HC
    simp only [Bool.false_eq_true, if_false]
    go_enter Try.func77, Try.ntmps77
    go_wp2_with fail
    refine HA.out.mono ?_
    rintro e w1 ⟨rfl, rfl⟩
    go_wp2
    go_ret
    exact RetO.nil (Below.refl _ _)
  · rw [ha] at HA
    clear ha
    simp only [if_true]
    go_enter Try.func77, Try.ntmps77
    go_wp2_with fail
    refine HA.out.mono ?_
    rintro e w1 ⟨rfl, rfl⟩
    go_wp2_with fail
    refine HC.out.mono ?_
    rintro e w1 ⟨g, cap, rfl, ho, hb⟩
    have HO := Lib.hid ho
    have HB := Lib.hid hb
    clear ho hb HC HA
    go_wp2
    go_ret
    exact ⟨_, rfl, OwO.single (d := ⟨-1, true, [], xs⟩) (lo := w.heap.size) (mid := w.heap.size) (OwR.nil _ _ _ _ _) rfl (OwR.start HO.out) HN.out (Nat.le_refl _) HB.out.size, HB.out.alloc HB.out.size _⟩
theorem Bx4.set3 {b : Nat} {x y z t u : Value} {w : World} (h : Bx4 b x y z t w) : Bx4 b x y z u (w.setCell ⟨b, 3, none⟩ u) :=
  ⟨by simpa [World.setCell] using h.lt, (World.cell?_setCell_other _ _ _ _ (by simp)).trans h.c0, (World.cell?_setCell_other _ _ _ _ (by simp)).trans h.c1, (World.cell?_setCell_other _ _ _ _ (by simp)).trans h.c2, World.cell?_setCell_same _ _ _ h.c3, fun i => (World.frozen?_setCell _ _ _ _).trans (h.f i)⟩
set_option maxRecDepth 100000 in
set_option maxHeartbeats 3200000 in
theorem spec_copyOwners (A : Option Addr) (n c : Nat) (ds : List On) (w : World) (B : Nat) (hB : B ≤ w.heap.size) (hn : n = ds.length) (h : OS w B A ds) (hb : OB ds) :
    Calls Try.prog 58 #[.slice A n c] w fun e w' => RetO w ds e w' := by
  obtain ⟨i1, hi1, hy0, hy1, hy2⟩ := info_parts info_owner
  have hnb : n ≤ 1048576 := by rw [hn]; exact hb.1
  have H := Lib.hid h
  have HN := Lib.hid hn
  have HBD := Lib.hid hb
  clear hn h hb
  go_enter Try.func58, Try.ntmps58
  go_wp2
  go_loopw [3, 4] (fun v i wr => ∃ k : Nat, k ≤ n ∧ i = .int .i64 k ∧ Hid (OwO w.heap.size wr.heap.size v k (ds.take k) wr) ∧ Hid (Below w.heap.size w wr) ∧ w.heap.size ≤ wr.heap.size) (fun _ i _ => n - (intOf i).toNat)
  case atStart =>
    refine ⟨0, Nat.zero_le _, rfl, ?_, (Below.refl _ _).alloc (Nat.le_refl _) _, by simp⟩
    have hl := World.ownsRow_lit (e := 30) (size := 4) (base := w.heap.size) w #[] 0 (Nat.le_refl _) (by unfold maxLen; omega) rfl
    exact ⟨rfl, [], [], OwR.start (by simpa using hl), rfl, fun j hj => by simp at hj, ⟨fun j hj => by simp at hj, fun i j v u k _ h1 => by simp at h1⟩⟩
  case round =>
    obtain ⟨k, hk, rfl, HO, HB, hwr⟩ := hrel
    by_cases hlt : k < n
    · obtain ⟨b, off, rfl, hbB, c0, c1, ⟨A1, n1, d1, c2, hn1', hp1⟩, A2, n2, d2, c3, hn2', hp2⟩ := H.out.at_ k (by have := HN.out; omega)
      have hx := HBD.out.2.2 k
      have b0 := (HB.out.cell (p := ⟨b, off + k * 4, none⟩) (by simp; omega)).trans c0
      have b1 := (HB.out.cell (p := ⟨b, off + k * 4 + 1, none⟩) (by simp; omega)).trans c1
      have b2 := (HB.out.cell (p := ⟨b, off + k * 4 + 2, none⟩) (by simp; omega)).trans c2
      have b3 := (HB.out.cell (p := ⟨b, off + k * 4 + 3, none⟩) (by simp; omega)).trans c3
      have HTK := Lib.hid (take_succ_getD ds k (by have := HN.out; omega))
      have HP1 := Lib.hid (hp1.below HB.out hB)
      have HP2 := Lib.hid (hp2.below HB.out hB)
      generalize ds.getD k default = d at *
      obtain ⟨p, o, cl, cx⟩ := d
      dsimp only at *
      have HC1 := Lib.hid fun (w' : World) (hB : B ≤ w'.heap.size) (h : IS w' B A1 cl) => spec_copyIntsA A1 n1 d1 cl w' B hB hn1' h (by omega)
      have HC2 := Lib.hid fun (w' : World) (hB : B ≤ w'.heap.size) (h : IS w' B A2 cx) => spec_copyIntsA A2 n2 d2 cx w' B hB hn2' h (by omega)
      have HN1 := Lib.hid hn1'
      have HN2 := Lib.hid hn2'
      have hBw : B ≤ wr.heap.size := by omega
      have X1 := Lib.hid (box4_start wr (.int .i64 p) (.bool o) (.slice A1 n1 d1) (.slice A2 n2 d2) 30)
      have HBX : Hid (Below wr.heap.size wr (wr.alloc (.cells #[.int .i64 p, .bool o, .slice A1 n1 d1, .slice A2 n2 d2] 30))) := (Below.refl _ _).alloc (Nat.le_refl _) _
      clear c0 c1 c2 c3 hn1' hn2' hp1 hp2 hx H
      go_wp2_with fail
      generalize hW1 : wr.alloc (.cells #[.int .i64 p, .bool o, .slice A1 n1 d1, .slice A2 n2 d2] 30) = W1 at *
      have hs1 : wr.heap.size < W1.heap.size := X1.out.lt
      clear hW1
      refine (HC1.out W1 (by omega) (HP1.out.below HBX.out hBw)).mono ?_
      rintro e w2 ⟨g1, cap1, rfl, ho1, hb1⟩
      have hs2 := hb1.size
      have X2 := Lib.hid (X1.out.step hb1 hs1)
      have q1 := X2.out.c2
      have q2 := X2.out.f 2
      have q3 := X2.out.c3
      obtain ⟨W3, hW3⟩ : ∃ W : World, W = w2.setCell ⟨wr.heap.size, 2, none⟩ (.slice (some ⟨g1, 0, none⟩) n1 cap1) := ⟨_, rfl⟩
      have HS3 : Hid (W3.heap.size = w2.heap.size) := by rw [hW3]; simp [World.setCell, Hid]
      have X3 := Lib.hid (show Bx4 _ _ _ (.slice (some ⟨g1, 0, none⟩) n1 cap1) _ W3 from by rw [hW3]; exact X2.out.set2)
      have HB3 : Hid (Below wr.heap.size wr W3) := by rw [hW3]; exact (HBX.out.trans (hb1.mono (by omega))).setCell (Nat.le_refl _) _
      have ho3 := ownsRow_setCell_below ho1 (a := ⟨wr.heap.size, 2, none⟩) (by simp; omega) (.slice (some ⟨g1, 0, none⟩) n1 cap1)
      rw [← hW3] at ho3
      have HO3 := Lib.hid ho3
      have hs3 : W1.heap.size ≤ W3.heap.size := by have := HS3.out; omega
      have hg1 := (ho1.lt g1 rfl).2
      have HG1 : Hid (g1 < W3.heap.size) := by have := HS3.out; show _ < _; omega
      clear ho1 hb1 ho3 X1 X2 HBX hg1
      go_wp2_with fail
      rw [← hW3]
      clear hW3 q1 q2 q3
      refine (HC2.out W3 (by omega) (HP2.out.below HB3.out hBw)).mono ?_
      rintro e w4 ⟨g2, cap2, rfl, ho4, hb4⟩
      have hs4 := hb4.size
      have X4 := Lib.hid (X3.out.step hb4 (by omega))
      have HO4 := Lib.hid (own_below HO3.out hb4)
      have q1 := X4.out.c3
      have q2 := X4.out.f 3
      obtain ⟨W5, hW5⟩ : ∃ W : World, W = w4.setCell ⟨wr.heap.size, 3, none⟩ (.slice (some ⟨g2, 0, none⟩) n2 cap2) := ⟨_, rfl⟩
      have HS5 : Hid (W5.heap.size = w4.heap.size) := by rw [hW5]; simp [World.setCell, Hid]
      have X5 := Lib.hid (show Bx4 _ _ _ _ (.slice (some ⟨g2, 0, none⟩) n2 cap2) W5 from by rw [hW5]; exact X4.out.set3)
      have HB5 : Hid (Below wr.heap.size wr W5) := by rw [hW5]; exact (HB3.out.trans (hb4.mono (by omega))).setCell (Nat.le_refl _) _
      have r1 := ownsRow_setCell_below HO4.out (a := ⟨wr.heap.size, 3, none⟩) (by simp; omega) (.slice (some ⟨g2, 0, none⟩) n2 cap2)
      have r2 := ownsRow_setCell_below ho4 (a := ⟨wr.heap.size, 3, none⟩) (by simp; omega) (.slice (some ⟨g2, 0, none⟩) n2 cap2)
      rw [← hW5] at r1 r2
      have HG2 : Hid (g2 < w4.heap.size) := (ho4.lt g2 rfl).2
      have R1 : Hid (OwR wr.heap.size W3.heap.size 3 1 (.slice (some ⟨g1, 0, none⟩) n1 cap1) n1 (cl.map (Value.int .i64)) W5) := ⟨own_mono r1 (by omega), fun q hq => by cases hq; exact HG1.out⟩
      have R2 : Hid (OwR W3.heap.size w4.heap.size 3 1 (.slice (some ⟨g2, 0, none⟩) n2 cap2) n2 (cx.map (Value.int .i64)) W5) := ⟨r2, fun q hq => by cases hq; exact HG2.out⟩
      have e0 := X5.out.c0
      have e1 := X5.out.c1
      have e2 := X5.out.c2
      have e3 := X5.out.c3
      have HOW := Lib.hid (HO.out.step HB5.out (Nat.le_refl _))
      obtain ⟨-, xs, us, hr, hul, hf, hs⟩ := HOW.out
      have HHR := Lib.hid hr
      have HUL := Lib.hid hul
      have HF := Lib.hid hf
      have HSS := Lib.hid hs
      have hl5 : wr.heap.size < W5.heap.size := by have := HS5.out; omega
      have HMS : Hid (wr.heap.size ≤ W3.heap.size ∧ W3.heap.size ≤ w4.heap.size ∧ w4.heap.size ≤ W5.heap.size) := ⟨by omega, by omega, by have := HS5.out; omega⟩
      clear ho4 hb4 X3 X4 HO3 HO4 r1 r2 HC1 HC2 HP1 HP2 HB3 HG1 HG2 hr hul hf hs HOW hs1 hs2 hs3 hs4
      go_upto_region 8 with fail
      rw [← hW5]
      clear hW5 q1 q2
      go_wp2_with (at_builtin; refine wpList_append_own _ rfl _ _ 23 rfl w.heap.size 30 i1 _ 4 64 Try.underlying23 hi1 hy0 hy1 hy2 rfl (by decide) _ _ _ rfl (HHR.out.1.alloc _) ⟨_, 0, none⟩ 1 1 [.int .i64 p, .bool o, .slice (some ⟨g1, 0, none⟩) n1 cap1, .slice (some ⟨g2, 0, none⟩) n2 cap2] rfl rfl (cells_new _ _ _ _ rfl) ?c2 ?c3 ?c4 ?c5 ?_)
      case c2 => first | rfl | (intro u hu; simp at hu; rcases hu with rfl | rfl | rfl | rfl <;> rfl)
      case c3 => unfold maxLen; omega
      case c4 => omega
      case c5 => first | omega | (simp; omega)
      intro v' w6 hown' hgrow _
      have hz6 := hgrow.size
      have HSN : Hid (OwO w.heap.size w6.heap.size v' (k + 1) (ds.take k ++ [⟨p, o, cl, cx⟩]) w6) :=
        OwO.snoc (d := ⟨p, o, cl, cx⟩) (lo := w.heap.size) (hi := wr.heap.size) (mid := W3.heap.size) (top := w4.heap.size) (by have := HN.out; simp; omega)
          (HHR.out.keep (w' := W5.alloc (.cells #[.int .i64 p, .bool o, .slice (some ⟨g1, 0, none⟩) n1 cap1, .slice (some ⟨g2, 0, none⟩) n2 cap2] 30)) fun q _ hq => ((Below.refl W5.heap.size W5).alloc (Nat.le_refl _) _).block q (by omega)) HUL.out HF.out
          (HSS.out.keep fun q _ hq => ((Below.refl W5.heap.size W5).alloc (Nat.le_refl _) _).block q (by omega))
          (R1.out.keep fun q _ hq => ((Below.refl W5.heap.size W5).alloc (Nat.le_refl _) _).block q (by have := HMS.out; omega)) HN1.out
          (R2.out.keep fun q _ hq => ((Below.refl W5.heap.size W5).alloc (Nat.le_refl _) _).block q (by have := HMS.out; omega)) HN2.out
          hwr HMS.out.1 HMS.out.2.1 (by have := HMS.out.2.2; simp; omega) hgrow hown'
      have hpos := (HHR.out.1.alloc (.cells #[.int .i64 p, .bool o, .slice (some ⟨g1, 0, none⟩) n1 cap1, .slice (some ⟨g2, 0, none⟩) n2 cap2] 30)).lt
      have HB6 := Lib.hid ((HB.out.trans (HB5.out.mono hwr)).alloc (Nat.le_trans hwr (Nat.le_of_lt hl5)) (.cells #[.int .i64 p, .bool o, .slice (some ⟨g1, 0, none⟩) n1 cap1, .slice (some ⟨g2, 0, none⟩) n2 cap2] 30) |>.grown hgrow (by simp; omega) (fun q hq => (hpos q hq).1))
      clear hown' hgrow hpos e0 e1 e2 e3 hz6
      go_wp2
      go_roundw
      case rel => exact ⟨k + 1, by omega, by go_num, by rw [HTK.out]; exact HSN.out, HB6.out, HB6.out.size⟩
      case measure => simp [intOf]; omega
    · obtain rfl : k = n := by omega
      go_wp2
      go_ret
      refine ⟨_, rfl, ?_, HB.out⟩
      have h1 := HO.out
      rw [HN.out, List.take_of_length_le (Nat.le_refl _)] at h1
      exact h1
end Go.Proofs.Ytkfglodjnnlbkaa

namespace Go.Proofs.Ytkfglodjnnlbkaa
set_option linter.unusedSimpArgs false
set_option linter.unusedVariables false
open Go.RowKit
section
variable {lo hi : Nat} {w : World}
/-- One row more behind. -/
theorem SSk.snoc {us : List Value} {x : List Int} {xs : List (List Int)} {A : Option Addr} {n c : Nat} (h : SSk lo hi us (lenOf xs) (rowOf xs) w) (hl : us.length = xs.length) (hr : OwR lo hi 3 1 (.slice A n c) n (x.map (Value.int .i64)) w) (hn : n = x.length) (hap : ∀ (j : Nat) (u : Value) (k : Nat), us[j]? = some u → (Value.slice A n c).ownBlock = some k → u.ownBlock ≠ some k) : SSk lo hi (us ++ [.slice A n c]) (lenOf (xs ++ [x])) (rowOf (xs ++ [x])) w := by
  have hin : ∀ j, j < us.length → (us ++ [Value.slice A n c])[j]? = us[j]? ∧ (xs ++ [x]).getD j [] = xs.getD j [] := fun j hj => ⟨List.getElem?_append_left hj, by simp only [List.getD, List.getElem?_append_left (show j < xs.length by omega)]⟩
  have hlast : (us ++ [Value.slice A n c])[us.length]? = some (.slice A n c) ∧ (xs ++ [x]).getD us.length [] = x := ⟨by simp, by rw [hl]; simp [List.getD]⟩
  have hout : ∀ j v, (us ++ [Value.slice A n c])[j]? = some v → j < us.length ∨ (j = us.length ∧ v = .slice A n c) := by
    intro j v hv
    rcases Nat.lt_trichotomy j us.length with h1 | h1 | h1
    · exact .inl h1
    · subst h1; rw [hlast.1] at hv; cases hv; exact .inr ⟨rfl, rfl⟩
    · rw [List.getElem?_eq_none (by simp; omega)] at hv; cases hv
  refine ⟨fun j hj => ?_, fun i j v u k hij h3 h4 hv hu => ?_⟩
  · by_cases h1 : j < us.length
    · obtain ⟨A', m, c', r1, r2, r3⟩ := h.row j h1
      refine ⟨A', m, c', (hin j h1).1.trans r1, ?_, ?_⟩
      · rw [r2]; unfold lenOf; rw [(hin j h1).2]
      · have : rowOf (xs ++ [x]) j = rowOf xs j := by unfold rowOf; rw [(hin j h1).2]
        rw [this]; exact r3
    · obtain rfl : j = us.length := by simp at hj; omega
      refine ⟨A, n, c, hlast.1, ?_, ?_⟩
      · unfold lenOf; rw [hlast.2]; exact hn
      · have : rowOf (xs ++ [x]) us.length = x.map (Value.int .i64) := by unfold rowOf; rw [hlast.2]
        rw [this]; exact hr
  · rcases hout i v h3 with h1 | ⟨h1, rfl⟩
    · rcases hout j u h4 with h2 | ⟨h2, rfl⟩
      · exact h.apart i j v u k hij ((hin i h1).1.symm.trans h3) ((hin j h2).1.symm.trans h4) hv hu
      · exact hap i v k ((hin i h1).1.symm.trans h3) hu hv
    · rcases hout j u h4 with h2 | ⟨h2, rfl⟩
      · exact hap j u k ((hin j h2).1.symm.trans h4) hv hu
      · omega
end
structure Lz where
  vs : List Int
  rs : List (List Int)
  cs : List Int
deriving DecidableEq, Inhabited
def rowsL (e : Lz) : List (List Int) := e.vs :: (e.rs ++ [e.cs])
/-- No more numbers than a million. -/
def LB (e : Lz) : Prop := e.vs.length ≤ 1048576 ∧ SB e.rs ∧ SB2 (rowsL e) ∧ (e.rs.map List.length).sum ≤ 1048576 ∧ ((rowsL e).map List.length).sum ≤ 1048576 ∧ e.cs.length ≤ 1048576
end Go.Proofs.Ytkfglodjnnlbkaa

namespace Go.Proofs.Ytkfglodjnnlbkaa
set_option linter.unusedSimpArgs false
set_option linter.unusedVariables false
open Go.RowKit
section
variable {w w' : World} {B B' D lo hi n c en ec m d : Nat} {A E C : Option Addr} {e : Lz} {st : Lz}
theorem own_ncap {base e' size n c : Nat} {A : Option Addr} {xs : List Value} (h : w.ownsRow base e' size (.slice A n c) n xs) : n ≤ c := by
  rcases h.2 with ⟨hv, h0⟩ | ⟨g, cap, cur, hv, _, _, h1, _⟩
  · omega
  · simp only [Value.slice.injEq] at hv
    obtain ⟨_, _, rfl⟩ := hv
    exact h1
end
end Go.Proofs.Ytkfglodjnnlbkaa

namespace Go.Proofs.Ytkfglodjnnlbkaa
set_option linter.unusedSimpArgs false
set_option linter.unusedVariables false
open Go.RowKit
-- WANT nwTo nwTo_step nwTo_len nwTo_zero RetI nil mono cell_one_new info_parts info_int
def hasO (ds : List On) (o : Int) : Bool := validO ds && rng o 0 ((ds.length : Int) - 1)
theorem hasO_at {ds : List On} {o : Int} (h : hasO ds o = true) : ∃ k : Nat, o = k ∧ k < ds.length ∧ validO ds = true := by
  unfold hasO at h
  rw [Bool.and_eq_true, rng_iff] at h
  exact ⟨o.toNat, by omega, by omega, h.1⟩
end Go.Proofs.Ytkfglodjnnlbkaa

namespace Go.Proofs.Ytkfglodjnnlbkaa
set_option linter.unusedSimpArgs false
set_option linter.unusedVariables false
open Go.RowKit
theorem nwTo_none (P : Nat → Bool) (k : Nat) (h : ∀ i, i < k → P i = false) : nwTo P k = [] := by
  induction k with
  | zero => rfl
  | succ k ih => rw [nwTo_step, ih fun i hi => h i (by omega), h k (by omega)]; rfl
set_option maxRecDepth 100000 in
set_option maxHeartbeats 1600000 in
theorem spec_kids (A : Option Addr) (n c : Nat) (ds : List On) (o : Nat) (w : World) (B : Nat) (hB : B ≤ w.heap.size) (hn : n = ds.length) (h : OS w B A ds) (hs : n ≤ 2000000) (ho : o < n) (hk : ∀ i, i ≤ o → kidB ds o i = false) :
    Calls Try.prog 74 #[.slice A n c, .int .i64 o] w fun e w' => RetI w (nwTo (kidB ds o) n) e w' := by
  obtain ⟨i0, hi, hz0, hz1, hz2⟩ := info_parts info_int
  have HS1 := Lib.hid h
  have HN := Lib.hid hn
  have HZ := Lib.hid (nwTo_none (kidB ds o) (o + 1) fun i hi => hk i (by omega))
  have ho2 : o + 1 ≤ n := ho
  clear hn h hk
  go_enter Try.func74, Try.ntmps74
  go_wp2
  go_loopw [5, 6] (fun v u wr => ∃ k : Nat, k ≤ n ∧ u = .int .i64 k ∧ Hid (OwnI wr w.heap.size v (nwTo (kidB ds o) k)) ∧ Hid (Below w.heap.size w wr) ∧ w.heap.size ≤ wr.heap.size) (fun _ u _ => n - (intOf u).toNat)
  case atStart =>
    refine ⟨o + 1, ho2, by go_num, ?_, (Below.refl _ _).alloc (Nat.le_refl _) _, by simp⟩
    have := World.ownsRow_lit (e := 3) (size := 1) (base := w.heap.size) w #[] 0 (Nat.le_refl _) (by unfold maxLen; omega) rfl
    rw [HZ.out]
    simpa [OwnI, Hid, nwTo] using this
  case round =>
    obtain ⟨k, hk, rfl, HO, HB, hwr⟩ := hrel
    by_cases hlt : k < n
    · obtain ⟨b, off, rfl, hbB, c0, c1, -, -⟩ := HS1.out.at_ k (by have := HN.out; omega)
      have b0 := (HB.out.cell (p := ⟨b, off + k * 4, none⟩) (by simp; omega)).trans c0
      have b1 := (HB.out.cell (p := ⟨b, off + k * 4 + 1, none⟩) (by simp; omega)).trans c1
      have HST := Lib.hid (nwTo_step (kidB ds o) k)
      have hsb : kidB ds o k = ((ds.getD k default).o && (ds.getD k default).p == (o : Int)) := rfl
      have hdl := nwTo_len (kidB ds o) k
      rw [hsb] at HST
      generalize nwTo (kidB ds o) k = D at *
      generalize (ds.getD k default).o = x at *
      generalize (ds.getD k default).p = p at *
      clear c0 c1 hsb HS1
      cases x
      · go_wp2
        go_roundw
        case rel => exact ⟨k + 1, by omega, by go_num, by show OwnI _ _ _ _; rw [HST.out]; simpa using HO.out, HB.out, hwr⟩
        case measure => simp [intOf]; omega
      · cases hp : (p == (o : Int))
        · rw [hp] at HST
          go_wp2
          go_roundw
          case rel => exact ⟨k + 1, by omega, by go_num, by show OwnI _ _ _ _; rw [HST.out]; simpa using HO.out, HB.out, hwr⟩
          case measure => simp [intOf]; omega
        · rw [hp] at HST
          go_wp2_with (at_builtin; refine wpList_append_own _ rfl _ _ 26 rfl w.heap.size 3 i0 (.int .i64 0) 1 8 Try.underlying26 hi hz0 hz1 hz2 rfl (by decide) _ _ _ rfl (HO.out.alloc _) ⟨_, 0, none⟩ 1 1 [.int .i64 k] rfl rfl (cell_one_new _ _ _) ?c2 ?c3 ?c4 ?c5 ?_)
          case c2 => first | rfl | (intro u hu; simp at hu; subst hu; rfl)
          case c3 => unfold maxLen; omega
          case c4 => omega
          case c5 => first | omega | (simp; omega)
          intro v' w3 hown' hgrow _
          have hpos := (HO.out.alloc (.cells #[.int .i64 k] 3)).lt
          have HO' : Hid (OwnI w3 w.heap.size v' (nwTo (kidB ds o) (k + 1))) := by
            rw [HST.out]
            simpa [OwnI, Hid] using hown'
          have HB' := Lib.hid ((HB.out.alloc hwr (.cells #[.int .i64 k] 3)).grown hgrow (by first | (simp; omega) | omega) (fun q hq => (hpos q hq).1))
          clear hown' hgrow hpos
          go_wp2
          go_roundw
          case rel => exact ⟨k + 1, by omega, by go_num, HO'.out, HB'.out, HB'.out.size⟩
          case measure => simp [intOf]; omega
    · obtain rfl : k = n := by omega
      go_wp2
      go_ret
      exact ⟨_, rfl, HO.out, HB.out⟩
end Go.Proofs.Ytkfglodjnnlbkaa

namespace Go.Proofs.Ytkfglodjnnlbkaa
set_option linter.unusedSimpArgs false
set_option linter.unusedVariables false
open Go.RowKit
/-- One of the lists grew by an append. -/
theorem SSk.grow {lo hi J m' c' : Nat} {vs : List Value} {lens lens' : Nat → Nat} {cont cont' : Nat → List Value} {w w' : World} {X : Value} {A' : Option Addr} {ys : List Value} (h : SSk lo hi vs lens cont w) (hle : hi ≤ w.heap.size) (hJ : vs[J]? = some X) (hg : w.grownBy w' X.ownBlock)
    (hv : w'.ownsRow lo 3 1 (.slice A' m' c') m' ys) (hb : (Value.slice A' m' c').ownBlock = X.ownBlock ∨ (Value.slice A' m' c').ownBlock = some w.heap.size) (hl : lens' J = m') (hc : cont' J = ys) (ho : ∀ j, j ≠ J → lens' j = lens j ∧ cont' j = cont j) : SSk lo w'.heap.size (vs.set J (.slice A' m' c')) lens' cont' w' := by
  have hJl : J < vs.length := by
    rcases Nat.lt_or_ge J vs.length with h1 | h1
    · exact h1
    · rw [List.getElem?_eq_none h1] at hJ; cases hJ
  have hw := hg.size
  have hother (j : Nat) (hj : j ≠ J) (u : Value) (hu : vs[j]? = some u) (q : Nat) (hq : u.ownBlock = some q) : q < w.heap.size ∧ X.ownBlock ≠ some q := by
    refine ⟨by have := (h.lt j u q hu hq).2; omega, fun hx => ?_⟩
    exact h.apart j J u X q hj hu hJ hq hx
  refine ⟨fun j hj => ?_, fun i j v u q hij hi hj hvq huq => ?_⟩
  · by_cases e : j = J
    · subst e
      exact ⟨A', m', c', by rw [List.getElem?_set, if_pos rfl, if_pos hJl], hl.symm, by rw [hc]; exact OwR.start hv⟩
    · obtain ⟨A, m, c, e1, e2, e3⟩ := h.row j (by simpa using hj)
      obtain ⟨o1, o2⟩ := ho j e
      refine ⟨A, m, c, by rw [List.getElem?_set, if_neg (fun h => e h.symm)]; exact e1, by rw [o1]; exact e2, ?_⟩
      rw [o2]
      refine ⟨e3.1.kept hg ?_, fun q hq => by have := e3.2 q hq; omega⟩
      cases hb2 : (Value.slice A m c).ownBlock with
      | none => exact .inl rfl
      | some q => exact .inr fun hx => (hother j e _ e1 q hb2).2 hx.symm
  · by_cases ei : i = J
    · subst ei
      rw [List.getElem?_set, if_pos rfl, if_pos hJl] at hi
      cases hi
      rw [List.getElem?_set, if_neg hij] at hj
      have := hother j (fun h => hij h.symm) u hj q huq
      rcases hb with hb | hb
      · rw [hb] at hvq; exact this.2 hvq
      · rw [hb] at hvq; simp only [Option.some.injEq] at hvq; omega
    · rw [List.getElem?_set, if_neg (fun h => ei h.symm)] at hi
      by_cases ej : j = J
      · subst ej
        rw [List.getElem?_set, if_pos rfl, if_pos hJl] at hj
        cases hj
        have := hother i ei v hi q hvq
        rcases hb with hb | hb
        · rw [hb] at huq; exact this.2 huq
        · rw [hb] at huq; simp only [Option.some.injEq] at huq; omega
      · rw [List.getElem?_set, if_neg (fun h => ej h.symm)] at hj
        exact h.apart i j v u q hij hi hj hvq huq
/-- One list of one owner was replaced. -/
theorem OwO.field {lo hi top n cap g k e : Nat} {ds : List On} {d' : On} {w : World} {xs us : List Value} {X : Value} (he : e < 2) (hn : n = ds.length) (hr : OwR lo hi 30 4 (.slice (some ⟨g, 0, none⟩) n cap) n xs w) (hul : us.length = n * 2) (hf : OwF xs us ds) (hk : k < n)
    (hs : SSk lo top (us.set (k * 2 + e) X) (lenOf (rowsO (ds.set k d'))) (rowOf (rowsO (ds.set k d'))) w) (hp : d'.p = (ds.getD k default).p) (ho : d'.o = (ds.getD k default).o) (hle : hi ≤ top) :
    OwO lo top (.slice (some ⟨g, 0, none⟩) n cap) n (ds.set k d') (w.setCell ⟨g, k * 4 + 2 + e, none⟩ X) := by
  have hxl : xs.length = n * 4 := hr.1.1
  have hst := hr.1.stored (k * 4 + 2 + e) X
  have hkl : k < ds.length := by omega
  refine ⟨by simpa using hn, _, _, ⟨hst.1, fun q hq => Nat.lt_of_lt_of_le (hr.2 q hq) hle⟩, by simpa using hul, fun j hj => ?_, hs.grown hst.2 (hs.ne hr.1 owner_ne_int.symm)⟩
  have hj' : j < ds.length := by simpa using hj
  obtain ⟨f0, f1, f2, f3⟩ := hf j hj'
  rw [getD_set ds k j d' hkl]
  have a0 : (xs.set (k * 4 + 2 + e) X)[j * 4]? = xs[j * 4]? := by rw [List.getElem?_set, if_neg (by omega)]
  have a1 : (xs.set (k * 4 + 2 + e) X)[j * 4 + 1]? = xs[j * 4 + 1]? := by rw [List.getElem?_set, if_neg (by omega)]
  rw [a0, a1]
  have hpo : (if j = k then d' else ds.getD j default).p = (ds.getD j default).p ∧ (if j = k then d' else ds.getD j default).o = (ds.getD j default).o := by
    by_cases ej : j = k
    · subst ej; rw [if_pos rfl]; exact ⟨hp, ho⟩
    · rw [if_neg ej]; exact ⟨rfl, rfl⟩
  rw [hpo.1, hpo.2]
  refine ⟨f0, f1, ?_, ?_⟩
  · rw [List.getElem?_set, List.getElem?_set]
    by_cases e2 : k * 4 + 2 + e = j * 4 + 2
    · rw [if_pos e2, if_pos (by omega), if_pos (by omega), if_pos (by omega)]
    · rw [if_neg e2, if_neg (by omega)]; exact f2
  · rw [List.getElem?_set, List.getElem?_set]
    by_cases e2 : k * 4 + 2 + e = j * 4 + 3
    · rw [if_pos e2, if_pos (by omega), if_pos (by omega), if_pos (by omega)]
    · rw [if_neg e2, if_neg (by omega)]; exact f3
/-- One number of one list was written. -/
theorem SSk.put1 {lo hi J g m cap j : Nat} {vs : List Value} {lens : Nat → Nat} {cont cont' : Nat → List Value} {w : World} {x : Value} (h : SSk lo hi vs lens cont w) (hJ : vs[J]? = some (.slice (some ⟨g, 0, none⟩) m cap)) (hc : cont' J = (cont J).set j x) (ho : ∀ i, i ≠ J → cont' i = cont i) : SSk lo hi vs lens cont' (w.setCell ⟨g, j, none⟩ x) := by
  refine ⟨fun i hi => ?_, h.apart⟩
  obtain ⟨A, m', c, e1, e2, e3⟩ := h.row i hi
  by_cases e : i = J
  · subst e
    rw [hJ] at e1
    cases e1
    refine ⟨_, _, _, hJ, e2, ?_⟩
    rw [hc]
    exact ⟨(e3.1.stored j x).1, e3.2⟩
  · refine ⟨A, m', c, e1, e2, ?_⟩
    rw [ho i e]
    obtain ⟨A2, m2, c2, k1, k2, k3⟩ := h.row J (by
      rcases Nat.lt_or_ge J vs.length with h1 | h1
      · exact h1
      · rw [List.getElem?_eq_none h1] at hJ; cases hJ)
    rw [hJ] at k1
    cases k1
    refine ⟨e3.1.kept (k3.1.stored j x).2 ?_, e3.2⟩
    cases hb : (Value.slice A m' c).ownBlock with
    | none => exact .inl rfl
    | some q => exact .inr fun hx => h.apart i J _ _ q e e1 hJ hb hx.symm
theorem sum_le_mul (l : List (List Int)) (m : Nat) (h : ∀ j, (l.getD j []).length ≤ m) : (l.map List.length).sum ≤ l.length * m := by
  induction l with
  | nil => simp
  | cons x l ih =>
    have h0 := h 0
    have := ih fun j => h (j + 1)
    simp only [List.getD_cons_zero] at h0
    simp only [List.map_cons, List.sum_cons, List.length_cons, Nat.add_mul]
    omega
theorem OB.small {ds : List On} (hl : ds.length ≤ 12) (h : ∀ j, (ds.getD j default).cl.length ≤ 100 ∧ (ds.getD j default).cx.length ≤ 100) : OB ds := by
  have h1 := sum_le_mul (rowsO ds) 100 fun j => by
    rw [rowsO_getD]; unfold rowO
    split
    · exact (h _).1
    · exact (h _).2
  rw [rowsO_len] at h1
  exact OB.of_sum (by omega) (by omega)
theorem okO_len {ds : List On} (h : validO ds = true) (i : Nat) : (ds.getD i default).cl.length ≤ 5 ∧ (ds.getD i default).cx.length ≤ 3 := by
  by_cases hi : i < ds.length
  · have h1 := (validO_ok h).2.2 i hi
    unfold okO okD clOK ctxOK at h1
    simp only [Bool.and_eq_true, decide_eq_true_eq] at h1
    exact ⟨h1.2.1.1.1, by omega⟩
  · rw [show ds.getD i default = default by simp [List.getD, List.getElem?_eq_none (show ds.length ≤ i by omega)]]
    exact ⟨Nat.zero_le _, Nat.zero_le _⟩
def hasOpO (ds : List On) (o : Int) : Bool := hasO ds o && opn ds o
theorem hasOpO_at {ds : List On} {o : Int} (h : hasOpO ds o = true) : ∃ k : Nat, o = k ∧ k < ds.length ∧ validO ds = true := by
  unfold hasOpO at h
  rw [Bool.and_eq_true] at h
  exact hasO_at h.1
set_option maxHeartbeats 800000 in
theorem spec_isOpen (A : Option Addr) (n c : Nat) (ds : List On) (o : Int) (w : World) (B : Nat) (hB : B ≤ w.heap.size) (hn : n = ds.length) (h : OS w B A ds) (hs : n ≤ 1048576) :
    Calls Try.prog 56 #[.slice A n c, .int .i64 o] w fun e w' => e = .returned (.bool (rng o 0 ((n : Int) - 1) && opn ds o)) ∧ w = w' := by
  cases hr : rng o 0 ((n : Int) - 1)
  · clear hn h
    go_enter Try.func56, Try.ntmps56
    go_wp2_with fail
    refine (spec_inRange _ _ _ _).mono ?_
    rintro e w' ⟨rfl, rfl⟩
    go_wp2
    go_ret
    exact ⟨rfl, rfl⟩
  · obtain ⟨h0, h1⟩ := (rng_iff _ _ _).1 hr
    obtain ⟨k, rfl⟩ : ∃ k : Nat, o = k := ⟨o.toNat, by omega⟩
    have hkn : k < n := by omega
    obtain ⟨b, off, rfl, hbB, c0, c1, -, -⟩ := h.at_ k (by omega)
    have hop : opn ds (k : Int) = (ds.getD k default).o := by simp [opn]
    rw [hop]
    generalize (ds.getD k default).o = po at *
    clear hn h hop c0 h0 h1
    go_enter Try.func56, Try.ntmps56
    go_wp2_with fail
    refine (spec_inRange _ _ _ _).mono ?_
    rintro e w' ⟨rfl, rfl⟩
    go_wp2
    go_ret
    exact ⟨ret_b (by simp), rfl⟩
/-- Returns owners in fresh blocks, and a bool. -/
def RetOB (w : World) (ds : List On) (b : Bool) (e : Ending) (w' : World) : Prop := ∃ v, e = .returned (.tuple #[v, .bool b]) ∧ OwO w.heap.size w'.heap.size v ds.length ds w' ∧ Below w.heap.size w w'
theorem RetOB.nil {w w' : World} (hb : Below w.heap.size w w') : RetOB w [] false (.returned (.tuple #[.slice none 0 0, .bool false])) w' := ⟨_, rfl, OwO.nil _ _ _, hb⟩
def withCl (ds : List On) (k : Nat) (l : Int) : On := ⟨(ds.getD k default).p, (ds.getD k default).o, (ds.getD k default).cl ++ [l], (ds.getD k default).cx⟩
def withCx (ds : List On) (k j : Nat) (x : Int) : On := ⟨(ds.getD k default).p, (ds.getD k default).o, (ds.getD k default).cl, (ds.getD k default).cx.set j x⟩
def addB (ds : List On) (o l : Int) : Bool := hasOpO ds o && (rng l 0 50 && !(decide ((ds.getD o.toNat default).cl.length = 5)))
def addF (ds : List On) (o l : Int) : List On := if addB ds o l then ds.set o.toNat (withCl ds o.toNat l) else []
def ctxB (ds : List On) (o k x : Int) : Bool := hasOpO ds o && (rng k 0 2 && rng x 0 50)
def ctxF (ds : List On) (o k x : Int) : List On := if ctxB ds o k x then ds.set o.toNat (withCx ds o.toNat k.toNat x) else []
theorem rowO_set (ds : List On) (k : Nat) (d : On) (hk : k < ds.length) (i : Nat) : rowO (ds.set k d) i = if i = k * 2 then d.cl else if i = k * 2 + 1 then d.cx else rowO ds i := by
  unfold rowO
  rw [getD_set ds k (i / 2) d hk]
  by_cases e1 : i / 2 = k
  · rw [if_pos e1]
    by_cases e2 : i % 2 = 0
    · rw [if_pos e2, if_pos (by omega)]
    · rw [if_neg e2, if_neg (by omega), if_pos (by omega)]
  · have e3 : ¬ i = k * 2 := by omega
    have e4 : ¬ i = k * 2 + 1 := by omega
    simp only [if_neg e1, if_neg e3, if_neg e4]
theorem okO_len2 {ds : List On} (h : validO ds = true) (i : Nat) (hi : i < ds.length) : (ds.getD i default).cx.length = 3 := by
  have h1 := (validO_ok h).2.2 i hi
  unfold okO okD clOK ctxOK at h1
  simp only [Bool.and_eq_true, decide_eq_true_eq] at h1
  omega
end Go.Proofs.Ytkfglodjnnlbkaa

namespace Go.Proofs.Ytkfglodjnnlbkaa
set_option linter.unusedSimpArgs false
set_option linter.unusedVariables false
open Go.RowKit
theorem clrK_succ (f : Nat) (ds : List On) (o m k : Nat) (h : m + k + 1 = (nwTo (kidB ds o) ds.length).length) : clrK f ds o (m + 1) = clrS f (clrK f ds o m) ((nwTo (kidB ds o) ds.length).getD k 0) := by
  unfold clrK
  have hr : m < ((nwTo (kidB ds o) ds.length).reverse).length := by rw [List.length_reverse]; omega
  rw [List.take_succ_eq_append_getElem hr, List.foldl_append]
  have e : ((nwTo (kidB ds o) ds.length).reverse)[m] = (nwTo (kidB ds o) ds.length).getD k 0 := by
    rw [List.getElem_reverse]
    have e1 : (nwTo (kidB ds o) ds.length).length - 1 - m = k := by omega
    simp only [List.getD]
    rw [List.getElem?_eq_getElem (by omega)]
    simp [e1]
  rw [e]; rfl
/-- How many labels there are to clean up. -/
def tot (ds : List On) : Nat := (ds.map fun d => d.cl.length).sum
theorem tot_set (d : On) : ∀ (ds : List On) (b : Nat), b < ds.length → tot (ds.set b d) + (ds.getD b default).cl.length = tot ds + d.cl.length := by
  intro ds
  induction ds with
  | nil => intro b h; simp at h
  | cons e ds ih =>
    intro b h
    cases b with
    | zero => simp [tot, List.getD]; omega
    | succ b =>
      have := ih b (by simpa using h)
      simp only [tot, List.set_cons_succ, List.map_cons, List.sum_cons, List.getD_cons_succ] at *
      omega
theorem tot_shut (ds : List On) (b : Nat) : tot (shut ds b) = tot ds := by
  by_cases hb : b < ds.length
  · have := tot_set ⟨(ds.getD b default).p, false, (ds.getD b default).cl, (ds.getD b default).cx⟩ ds b hb
    unfold shut
    dsimp only at this
    omega
  · unfold shut; rw [List.set_eq_of_length_le (by omega)]
theorem tot_wipe (ds : List On) (b : Nat) : tot (wipe ds b) + (ds.getD b default).cl.length = tot ds := by
  by_cases hb : b < ds.length
  · have := tot_set ⟨(ds.getD b default).p, (ds.getD b default).o, [], (ds.getD b default).cx⟩ ds b hb
    unfold wipe
    dsimp only at this
    simpa using this
  · unfold wipe
    rw [List.set_eq_of_length_le (by omega)]
    have : ds.getD b default = default := by simp [List.getD, List.getElem?_eq_none (show ds.length ≤ b by omega)]
    rw [this]; rfl
theorem clr_tot : ∀ (f : Nat) (ds : List On) (o : Nat), (clr f ds o).1.length + tot (clr f ds o).2 = tot ds := by
  intro f
  induction f with
  | zero => intro ds o; simp [clr]
  | succ f ih =>
    intro ds o
    have key : ∀ (L : List Int) (s : List Int × List On), s.1.length + tot s.2 = tot ds → (L.foldl (clrS f) s).1.length + tot (L.foldl (clrS f) s).2 = tot ds := by
      intro L
      induction L with
      | nil => intro s h; exact h
      | cons b L ihL =>
        intro s h
        refine ihL _ ?_
        have := ih s.2 b.toNat
        unfold clrS
        rw [List.length_append, tot_shut]
        omega
    rw [clr_step]
    have h1 := key ((nwTo (kidB ds o) ds.length).reverse.take (nwTo (kidB ds o) ds.length).length) ([], ds) (by simp)
    have h2 := tot_wipe (clrK f ds o (nwTo (kidB ds o) ds.length).length).2 o
    unfold clrK at h2 ⊢
    dsimp only at h1 h2 ⊢
    rw [List.length_append, List.length_reverse]
    omega
theorem clrK_tot (f : Nat) (ds : List On) (o m : Nat) : (clrK f ds o m).1.length + tot (clrK f ds o m).2 = tot ds := by
  have key : ∀ (L : List Int) (s : List Int × List On), s.1.length + tot s.2 = tot ds → (L.foldl (clrS f) s).1.length + tot (L.foldl (clrS f) s).2 = tot ds := by
    intro L
    induction L with
    | nil => intro s h; exact h
    | cons b L ihL =>
      intro s h
      refine ihL _ ?_
      have := clr_tot f s.2 b.toNat
      unfold clrS
      rw [List.length_append, tot_shut]
      omega
  exact key _ _ (by simp)
/-- Owners of the call's own, whose lists lie in none of some blocks. -/
def OwOn (Q : Nat → Prop) (lo hi : Nat) (v : Value) (n : Nat) (ds : List On) (w : World) : Prop :=
  n = ds.length ∧ ∃ xs us, OwR lo hi 30 4 v n xs w ∧ us.length = n * 2 ∧ OwF xs us ds ∧ SSk lo hi us (lenOf (rowsO ds)) (rowOf (rowsO ds)) w ∧ ∀ (j : Nat) (u : Value) (q : Nat), us[j]? = some u → u.ownBlock = some q → ¬ Q q
theorem OwOn.all {Q : Nat → Prop} {lo hi n : Nat} {v : Value} {ds : List On} {w : World} (h : OwOn Q lo hi v n ds w) : OwO lo hi v n ds w := by
  obtain ⟨h0, xs, us, h1, h2, h3, h4, _⟩ := h
  exact ⟨h0, xs, us, h1, h2, h3, h4⟩
theorem OwOn.of {Q : Nat → Prop} {lo hi n : Nat} {v : Value} {ds : List On} {w : World} (h : OwO lo hi v n ds w) (hQ : ∀ q, Q q → hi ≤ q) : OwOn Q lo hi v n ds w := by
  obtain ⟨h0, xs, us, h1, h2, h3, h4⟩ := h
  exact ⟨h0, xs, us, h1, h2, h3, h4, fun j u q hj hu hq => by have := (h4.lt j u q hj hu).2; have := hQ q hq; omega⟩
theorem OwOn.more {Q Q' : Nat → Prop} {lo hi n : Nat} {v : Value} {ds : List On} {w : World} (h : OwOn Q lo hi v n ds w) (hQ : ∀ q, Q' q → Q q ∨ hi ≤ q) : OwOn Q' lo hi v n ds w := by
  obtain ⟨h0, xs, us, h1, h2, h3, h4, h5⟩ := h
  refine ⟨h0, xs, us, h1, h2, h3, h4, fun j u q hj hu hq => ?_⟩
  rcases hQ q hq with h6 | h6
  · exact h5 j u q hj hu h6
  · have := (h4.lt j u q hj hu).2; omega
theorem OwOn.mono {Q : Nat → Prop} {lo hi hi' n : Nat} {v : Value} {ds : List On} {w : World} (h : OwOn Q lo hi v n ds w) (h2 : hi ≤ hi') : OwOn Q lo hi' v n ds w := by
  obtain ⟨h0, xs, us, e1, e2, e3, e4, e5⟩ := h
  exact ⟨h0, xs, us, e1.mono (Nat.le_refl _) h2, e2, e3, e4.mono (Nat.le_refl _) h2, e5⟩
theorem OwOn.step {Q : Nat → Prop} {lo hi n : Nat} {v : Value} {ds : List On} {w w' : World} (h : OwOn Q lo hi v n ds w) (hb : Below w.heap.size w w') (hle : hi ≤ w.heap.size) : OwOn Q lo hi v n ds w' := by
  obtain ⟨h0, xs, us, h1, h2, h3, h4, h5⟩ := h
  exact ⟨h0, xs, us, h1.keep fun k _ hk => hb.block k (by omega), h2, h3, h4.keep fun k _ hk => hb.block k (by omega), h5⟩
/-- A row that the lists avoid grew. -/
theorem OwOn.grown {Q : Nat → Prop} {lo hi n : Nat} {v : Value} {ds : List On} {w w' : World} {q : Nat} (h : OwOn Q lo hi v n ds w) (hg : w.grownBy w' (some q)) (hq : Q q) (hv : v.ownBlock ≠ some q) : OwOn Q lo hi v n ds w' := by
  obtain ⟨h0, xs, us, h1, h2, h3, h4, h5⟩ := h
  refine ⟨h0, xs, us, ⟨h1.1.kept hg ?_, h1.2⟩, h2, h3, h4.grown hg (fun j u hj => ?_), h5⟩
  · cases hb : v.ownBlock with
    | none => exact .inl rfl
    | some k => right; rw [← hb]; exact hv
  · cases hb : u.ownBlock with
    | none => exact .inl rfl
    | some k => right; intro e; cases e; exact h5 j u q hj hb hq
/-- Whether an owner is open was written in place. -/
theorem OwOn.setOpen {Q : Nat → Prop} {lo hi n cap g : Nat} {ds : List On} {w : World} (h : OwOn Q lo hi (.slice (some ⟨g, 0, none⟩) n cap) n ds w) (k : Nat) (hk : k < n) :
    OwOn Q lo hi (.slice (some ⟨g, 0, none⟩) n cap) n (shut ds k) (w.setCell ⟨g, k * 4 + 1, none⟩ (.bool false)) := by
  obtain ⟨hn, xs, us, hr, hu, hf, hs, hq⟩ := h
  have hxl : xs.length = n * 4 := hr.1.1
  have hst := hr.1.stored (k * 4 + 1) (.bool false)
  have hkl : k < ds.length := by omega
  have hro : rowsO (shut ds k) = rowsO ds := by
    apply List.ext_getElem?
    intro i
    have hl : (rowsO (shut ds k)).length = (rowsO ds).length := by rw [rowsO_len, rowsO_len, shut_len]
    by_cases hi : i < (rowsO ds).length
    · have e : ∀ (l : List (List Int)) (i : Nat), i < l.length → l[i]? = some (l.getD i []) := fun l i h => by simp [List.getD, h]
      rw [e _ i (by omega), e _ i hi, rowsO_getD, rowsO_getD]
      unfold rowO
      rw [shut_get]
      by_cases hx : i / 2 = k ∧ k < ds.length
      · rw [if_pos hx, hx.1]
      · rw [if_neg hx]
    · rw [List.getElem?_eq_none (by omega), List.getElem?_eq_none (by omega)]
  refine ⟨by rw [shut_len]; exact hn, _, us, ⟨hst.1, hr.2⟩, hu, fun j hj => ?_, by rw [hro]; exact hs.grown hst.2 (hs.ne hr.1 owner_ne_int.symm), hq⟩
  rw [shut_len] at hj
  obtain ⟨f0, f1, f2, f3⟩ := hf j hj
  rw [shut_get]
  by_cases e : j = k
  · subst e
    rw [if_pos ⟨rfl, hkl⟩]
    refine ⟨?_, ?_, ?_, ?_⟩
    · rw [List.getElem?_set, if_neg (by omega)]; exact f0
    · rw [List.getElem?_set, if_pos rfl, if_pos (by omega)]
    · rw [List.getElem?_set, if_neg (by omega)]; exact f2
    · rw [List.getElem?_set, if_neg (by omega)]; exact f3
  · rw [if_neg (fun h => e h.1)]
    refine ⟨?_, ?_, ?_, ?_⟩
    · rw [List.getElem?_set, if_neg (by omega)]; exact f0
    · rw [List.getElem?_set, if_neg (by omega)]; exact f1
    · rw [List.getElem?_set, if_neg (by omega)]; exact f2
    · rw [List.getElem?_set, if_neg (by omega)]; exact f3
theorem rowO_wipe (ds : List On) (k i : Nat) (hk : k < ds.length) : rowO (wipe ds k) i = if i = k * 2 then [] else rowO ds i := by
  unfold rowO
  rw [wipe_get]
  by_cases e2 : i % 2 = 0
  · rw [if_pos e2, if_pos e2]
    by_cases e1 : i / 2 = k
    · rw [if_pos ⟨e1, hk⟩, if_pos (by omega)]
    · rw [if_neg (fun h => e1 h.1), if_neg (by omega)]
  · rw [if_neg e2, if_neg e2, if_neg (show ¬ i = k * 2 by omega)]
    by_cases e1 : i / 2 = k
    · rw [if_pos ⟨e1, hk⟩, e1]
    · rw [if_neg (fun h => e1 h.1)]
/-- An owner's labels were replaced by none. -/
theorem OwOn.setNone {Q : Nat → Prop} {lo hi top n cap g : Nat} {ds : List On} {w : World} {A : Option Addr} {c : Nat} (h : OwOn Q lo hi (.slice (some ⟨g, 0, none⟩) n cap) n ds w) (hQ : ∀ q, Q q → q < hi) (k : Nat) (hk : k < n) (hx : OwR hi top 3 1 (.slice A 0 c) 0 [] w) (hlo : lo ≤ hi) (htop : hi ≤ top) :
    OwOn Q lo top (.slice (some ⟨g, 0, none⟩) n cap) n (wipe ds k) (w.setCell ⟨g, k * 4 + 2, none⟩ (.slice A 0 c)) := by
  obtain ⟨hn, xs, us, hr, hu, hf, hs, hq⟩ := h
  have hkl : k < ds.length := by omega
  have hss : SSk lo top (us.set (k * 2) (.slice A 0 c)) (lenOf (rowsO (wipe ds k))) (rowOf (rowsO (wipe ds k))) w := by
    refine hs.put (k * 2) (by rw [List.getElem?_set, if_pos rfl, if_pos (by omega)]) (fun j hj => by rw [List.getElem?_set, if_neg (by omega)]) (fun j hj _ => by simpa using hj) ?_ (fun j hj => ?_) ?_ hlo htop
    · rw [lenOfO, rowO_wipe ds k _ hkl, if_pos rfl]; rfl
    · rw [lenOfO, rowOfO, rowO_wipe ds k _ hkl, if_neg hj, lenOfO, rowOfO]; exact ⟨rfl, rfl⟩
    · rw [rowOfO, rowO_wipe ds k _ hkl, if_pos rfl]; exact hx
  have hxl : xs.length = n * 4 := hr.1.1
  have hst := hr.1.stored (k * 4 + 2) (.slice A 0 c)
  refine ⟨by rw [wipe_len]; exact hn, _, us.set (k * 2) (.slice A 0 c), ⟨hst.1, fun q hq => Nat.lt_of_lt_of_le (hr.2 q hq) htop⟩, by simpa using hu, fun j hj => ?_, hss.grown hst.2 (hss.ne hr.1 owner_ne_int.symm), fun j u q hj hu hQq => ?_⟩
  · rw [wipe_len] at hj
    obtain ⟨f0, f1, f2, f3⟩ := hf j hj
    rw [wipe_get]
    by_cases e : j = k
    · subst e
      rw [if_pos ⟨rfl, hkl⟩]
      refine ⟨?_, ?_, ?_, ?_⟩
      · rw [List.getElem?_set, if_neg (by omega)]; exact f0
      · rw [List.getElem?_set, if_neg (by omega)]; exact f1
      · rw [List.getElem?_set, if_pos rfl, if_pos (by omega), List.getElem?_set, if_pos rfl, if_pos (by omega)]
      · rw [List.getElem?_set, if_neg (by omega), List.getElem?_set, if_neg (by omega)]; exact f3
    · rw [if_neg (fun h => e h.1)]
      refine ⟨?_, ?_, ?_, ?_⟩
      · rw [List.getElem?_set, if_neg (by omega)]; exact f0
      · rw [List.getElem?_set, if_neg (by omega)]; exact f1
      · rw [List.getElem?_set, if_neg (by omega), List.getElem?_set, if_neg (by omega)]; exact f2
      · rw [List.getElem?_set, if_neg (by omega), List.getElem?_set, if_neg (by omega)]; exact f3
  · rw [List.getElem?_set] at hj
    by_cases e : k * 2 = j
    · rw [if_pos e, if_pos (by omega)] at hj
      cases hj
      have h1 := (hx.1.lt q hu).1
      have h2 := hQ q hQq
      omega
    · rw [if_neg e] at hj
      exact hq j u q hj hu hQq
end Go.Proofs.Ytkfglodjnnlbkaa

namespace Go.Proofs.Ytkfglodjnnlbkaa
set_option linter.unusedSimpArgs false
set_option linter.unusedVariables false
open Go.RowKit
/-- The slice at A reads as the bytes bs; it lies below block B. -/
def BS (w : World) (B : Nat) (A : Option Addr) (bs : List Int) : Prop :=
  0 < bs.length → ∃ b off, A = some ⟨b, off, none⟩ ∧ b < B ∧ ∀ j, j < bs.length → w.cell? ⟨b, off + j, none⟩ = some (.int .u8 (bs.getD j 0))
theorem BS.keep {w w' : World} {B : Nat} {A : Option Addr} {xs : List Int} (h : BS w B A xs) (hk : ∀ p : Addr, p.block < B → w'.cell? p = w.cell? p) : BS w' B A xs := by
  intro hn
  obtain ⟨b, off, e, hb, hc⟩ := h hn
  exact ⟨b, off, e, hb, fun j hj => (hk _ hb).trans (hc j hj)⟩
theorem BS.more {w : World} {B B' : Nat} {A : Option Addr} {xs : List Int} (h : BS w B A xs) (hB : B ≤ B') : BS w B' A xs := by
  intro hn
  obtain ⟨b, off, e, hb, hc⟩ := h hn
  exact ⟨b, off, e, by omega, hc⟩
def BY (bs : List Int) : Prop := ∀ j, 0 ≤ bs.getD j 0 ∧ bs.getD j 0 ≤ 255
/-- The reader lies in block g; it has picked at most P times. -/
structure Rdr (g : Nat) (A : Option Addr) (n c : Nat) (bs : List Int) (P : Nat) (w : World) : Prop where
  lt : g < w.heap.size
  c0 : w.cell? ⟨g, 0, none⟩ = some (.slice A n c)
  pos : ∃ p : Nat, p ≤ P ∧ w.cell? ⟨g, 1, none⟩ = some (.int .i64 p)
  fz : w.frozen? ⟨g, 1, none⟩ = false
  by_ : BS w g A bs
section
variable {g : Nat} {A : Option Addr} {n c : Nat} {bs : List Int} {P P' : Nat} {w w' : World}
theorem Rdr.mono (h : Rdr g A n c bs P w) (hP : P ≤ P') : Rdr g A n c bs P' w := ⟨h.lt, h.c0, h.pos.imp fun p hp => ⟨Nat.le_trans hp.1 hP, hp.2⟩, h.fz, h.by_⟩
theorem Rdr.step (h : Rdr g A n c bs P w) (hb : Below w.heap.size w w') : Rdr g A n c bs P w' :=
  ⟨Nat.lt_of_lt_of_le h.lt hb.size, (hb.cell (p := ⟨g, 0, none⟩) h.lt).trans h.c0, h.pos.imp fun p hp => ⟨hp.1, (hb.cell (p := ⟨g, 1, none⟩) h.lt).trans hp.2⟩, (hb.frozen (p := ⟨g, 1, none⟩) h.lt).trans h.fz, h.by_.keep fun q hq => hb.cell (Nat.lt_trans hq h.lt)⟩
theorem Rdr.alloc (h : Rdr g A n c bs P w) (o : Obj) : Rdr g A n c bs P (w.alloc o) := h.step ((Below.refl _ _).alloc (Nat.le_refl _) o)
/-- Other blocks turned, none below g and not g. -/
theorem Rdr.turn {a b : Nat} (h : Rdr g A n c bs P w) (ht : Tch a b w w') (hg : g < a) : Rdr g A n c bs P w' :=
  ⟨Nat.lt_of_lt_of_le h.lt ht.size, (World.cell?_of_block (a := ⟨g, 0, none⟩) (ht.block g h.lt (.inl hg))).trans h.c0, h.pos.imp fun p hp => ⟨hp.1, (World.cell?_of_block (a := ⟨g, 1, none⟩) (ht.block g h.lt (.inl hg))).trans hp.2⟩, (World.frozen?_of_block (a := ⟨g, 1, none⟩) (ht.block g h.lt (.inl hg))).trans h.fz, h.by_.keep fun q hq => World.cell?_of_block (ht.block q.block (Nat.lt_trans hq h.lt) (.inl (Nat.lt_trans hq hg)))⟩
end
theorem bits_xor_i64_nat (a b : Nat) (ha : a < 4611686018427387904) (hb : b < 4611686018427387904) : bits .xor .i64 (a : Int) (b : Int) = ((a ^^^ b : Nat) : Int) := by
  have hx : a ^^^ b < 2 ^ 62 := Nat.xor_lt_two_pow (by omega) (by omega)
  have h1 : (BitVec.ofInt 64 (a : Int)).toNat = a := by
    rw [BitVec.ofInt_natCast, BitVec.toNat_ofNat]; exact Nat.mod_eq_of_lt (by omega)
  have h2 : (BitVec.ofInt 64 (b : Int)).toNat = b := by
    rw [BitVec.ofInt_natCast, BitVec.toNat_ofNat]; exact Nat.mod_eq_of_lt (by omega)
  show IntKind.i64.wrap ((BitVec.ofInt 64 (a : Int) ^^^ BitVec.ofInt 64 (b : Int)).toNat : Int) = _
  rw [BitVec.toNat_xor, h1, h2, IntKind.wrap_i64]
  omega
theorem drewN_below0 {B n : Nat} {a w : World} (h : Below B a w) : Below B a (w.drewN n) := ⟨h.os, h.tape, h.output, h.size, h.block⟩
/-- A number below n, if n is not 0; the reader has picked once more. -/
def PkP (g : Nat) (A : Option Addr) (n c : Nat) (bs : List Int) (P : Nat) (m : Int) (w : World) (e : Ending) (w' : World) : Prop :=
  ∃ x : Nat, e = .returned (.int .i64 x) ∧ (1 ≤ m → (x : Int) < m) ∧ (m < 1 → x = 0) ∧ Rdr g A n c bs (P + 1) w' ∧ Tch g (g + 1) w w'
theorem Rdr.picked {g : Nat} {A : Option Addr} {n c p P : Nat} {bs : List Int} {w : World} (h : Rdr g A n c bs P w) (hp : p ≤ P) (hc : w.cell? ⟨g, 1, none⟩ = some (.int .i64 p)) :
    Rdr g A n c bs (P + 1) (w.setCell ⟨g, 1, none⟩ (.int .i64 (p + 1))) ∧ Tch g (g + 1) w (w.setCell ⟨g, 1, none⟩ (.int .i64 (p + 1))) := by
  have hg := grown_setCell0 w g 1 (.int .i64 ((p : Int) + 1))
  refine ⟨⟨by simpa [World.setCell] using h.lt, ?_, ⟨p + 1, by omega, ?_⟩, by simpa using h.fz, ?_⟩, Tch.of_grown hg fun k hk => by cases hk; omega⟩
  · rw [World.cell?_setCell_other _ _ _ _ (by intro e; simp at e)]; exact h.c0
  · rw [World.cell?_setCell_same _ _ _ hc]; simp
  · exact h.by_.keep fun q hq => World.cell?_of_block (hg.block q.block (Nat.lt_trans hq h.lt) (by intro e; cases e; omega))
set_option maxRecDepth 100000 in
set_option maxHeartbeats 3200000 in
theorem pick_any (g : Nat) (A : Option Addr) (n c : Nat) (bs : List Int) (P : Nat) (m : Int) (w : World) (h : Rdr g A n c bs P w) (hn : n = bs.length) (hby : BY bs) (hs : n ≤ 2000) (hP : P ≤ 1000000) (hm : m ≤ 1000000) :
    Calls Try.prog 67 #[.pointer (some ⟨g, 0, none⟩), .int .i64 m] w fun e w' => PkP g A n c bs P m w e w' := by
  obtain ⟨p, hp, hc1⟩ := h.pos
  have hc0 := h.c0
  have hf := h.fz
  have HP := Lib.hid (h.picked hp hc1)
  have H := Lib.hid h
  have HN := Lib.hid hn
  have HBY := Lib.hid hby
  clear h hn hby
  by_cases hm1 : m < 1
  · go_enter Try.func67, Try.ntmps67
    go_wp2
    go_ret
    exact ⟨0, rfl, by omega, fun _ => rfl, HP.out.1, HP.out.2⟩
  by_cases hn0 : n = 0
  · have hz : ((n : Int) == 0) = true := by simp [hn0]
    clear hn0
    go_enter Try.func67, Try.ntmps67
    go_wp2
    go_ret
    exact ⟨0, rfl, by omega, fun _ => rfl, HP.out.1, HP.out.2⟩
  have hz : ((n : Int) == 0) = false := by simp; omega
  obtain ⟨b, off, rfl, hb, hcc⟩ := H.out.by_ (by have := HN.out; omega)
  have hbg : b < g := hb
  have hne : ¬ b = g := by omega
  by_cases hpn : p < n
  · have hx := hcc p (by have := HN.out; omega)
    have hy := HBY.out p
    generalize bs.getD p 0 = y at *
    clear hcc hn0
    go_enter Try.func67, Try.ntmps67
    go_wp2
    go_ret
    have hyn : y % m = ((y % m).toNat : Int) := by
      have := Int.emod_nonneg y (show m ≠ 0 by omega)
      omega
    refine ⟨(y % m).toNat, ret_i (by exact hyn), fun _ => ?_, fun h => by omega, HP.out.1, HP.out.2⟩
    rw [← hyn]
    exact Int.emod_lt_of_pos y (by omega)
  · have hn0' : 0 < n := by omega
    have hnp : p ≤ 1000000 := by omega
    have hq1 : p % n < n := Nat.mod_lt _ hn0'
    have hq2 : (p * 7 + 3) % n < n := Nat.mod_lt _ hn0'
    have hx1 := hcc (p % n) (by have := HN.out; omega)
    have hx2 := hcc ((p * 7 + 3) % n) (by have := HN.out; omega)
    have hy1 := HBY.out (p % n)
    have hy2 := HBY.out ((p * 7 + 3) % n)
    have hdv : p / n ≤ p := Nat.div_le_self _ _
    have e1 : (p : Int).tmod (n : Int) = ((p % n : Nat) : Int) := by rw [Int.tmod_eq_emod_of_nonneg (by omega)]; rfl
    have e6 : (p : Int).tdiv (n : Int) = ((p / n : Nat) : Int) := by rw [Int.tdiv_eq_ediv_of_nonneg (by omega)]; rfl
    have e4 : (((p * 7 + 3 : Nat)) : Int).tmod (n : Int) = (((p * 7 + 3) % n : Nat) : Int) := by rw [Int.tmod_eq_emod_of_nonneg (by omega)]; rfl
    generalize bs.getD (p % n) 0 = y1 at *
    generalize bs.getD ((p * 7 + 3) % n) 0 = y2 at *
    generalize p % n = q1 at *
    generalize (p * 7 + 3) % n = q2 at *
    generalize p / n = dv at *
    have w1 : IntKind.i64.wrap ((p : Int) * 7) = ((p * 7 : Nat) : Int) := by rw [IntWalk.i64_in _ (by omega)]; omega
    have w2 : IntKind.i64.wrap (((p * 7 : Nat) : Int) + 3) = ((p * 7 + 3 : Nat) : Int) := by rw [IntWalk.i64_in _ (by omega)]; omega
    obtain ⟨a1, ha1, hb1⟩ : ∃ a1 : Nat, IntKind.i64.wrap (y1 * 131) = (a1 : Int) ∧ a1 ≤ 40000 := ⟨(y1 * 131).toNat, by rw [IntWalk.i64_in _ (by omega)]; omega, by omega⟩
    obtain ⟨a2, ha2, hb2⟩ : ∃ a2 : Nat, IntKind.i64.wrap (y2 * 1117) = (a2 : Int) ∧ a2 ≤ 300000 := ⟨(y2 * 1117).toNat, by rw [IntWalk.i64_in _ (by omega)]; omega, by omega⟩
    obtain ⟨a3, ha3, hb3⟩ : ∃ a3 : Nat, IntKind.i64.wrap ((a1 : Int) + (a2 : Int)) = (a3 : Int) ∧ a3 ≤ 400000 := ⟨a1 + a2, by rw [IntWalk.i64_in _ (by omega)]; omega, by omega⟩
    obtain ⟨a4, ha4, hb4⟩ : ∃ a4 : Nat, IntKind.i64.wrap ((p : Int) * 29) = (a4 : Int) ∧ a4 ≤ 30000000 := ⟨p * 29, by rw [IntWalk.i64_in _ (by omega)]; omega, by omega⟩
    obtain ⟨a5, ha5, hb5⟩ : ∃ a5 : Nat, IntKind.i64.wrap ((a3 : Int) + (a4 : Int)) = (a5 : Int) ∧ a5 ≤ 31000000 := ⟨a3 + a4, by rw [IntWalk.i64_in _ (by omega)]; omega, by omega⟩
    have w3 : IntKind.i64.wrap (dv : Int) = (dv : Int) := IntWalk.i64_in _ (by omega)
    obtain ⟨a7, ha7, hb7⟩ : ∃ a7 : Nat, IntKind.i64.wrap ((dv : Int) * 53) = (a7 : Int) ∧ a7 ≤ 60000000 := ⟨dv * 53, by rw [IntWalk.i64_in _ (by omega)]; omega, by omega⟩
    obtain ⟨X, hX, hXb⟩ : ∃ X : Nat, IntKind.i64.wrap ((a5 : Int) + (a7 : Int)) = (X : Int) ∧ X ≤ 100000000 := ⟨a5 + a7, by rw [IntWalk.i64_in _ (by omega)]; omega, by omega⟩
    generalize p * 7 + 3 = p73 at *
    generalize p * 7 = p7 at *
    have hxor : bits .xor .i64 (X : Int) ((X : Int) / 64) = ((X ^^^ X / 64 : Nat) : Int) := bits_xor_i64_nat X (X / 64) (by omega) (by omega)
    have hxl : X ^^^ X / 64 < 2 ^ 62 := Nat.xor_lt_two_pow (by omega) (by omega)
    generalize X ^^^ X / 64 = Z at *
    have hzb : (Z : Int) ≤ 4611686018427387904 := by omega
    have hbw : b < w.heap.size := by have := H.out.lt; omega
    clear hcc hxl hdv hn0
    go_enter Try.func67, Try.ntmps67
    go_wp2
    go_quiet (fail)
    clear w1 w2 w3 ha1 ha2 ha3 ha4 ha5 ha7 hX e1 e6 e4
    go_wp2
    go_ret
    have hyn : (Z : Int) % m = (((Z : Int) % m).toNat : Int) := by
      have := Int.emod_nonneg (Z : Int) (show m ≠ 0 by omega)
      omega
    refine ⟨((Z : Int) % m).toNat, ret_i (by exact hyn), fun _ => ?_, fun h => by omega, ?_, ?_⟩
    · rw [← hyn]
      exact Int.emod_lt_of_pos _ (by omega)
    · exact HP.out.1.step (drewN_below0 (Below.refl _ _))
    · exact HP.out.2.trans (Tch.of_below (drewN_below0 (Below.refl _ _)))
/-- One of the numbers; the reader has picked once more. -/
def OneP (g : Nat) (A : Option Addr) (n c : Nat) (bs : List Int) (P : Nat) (xs : List Int) (w : World) (e : Ending) (w' : World) : Prop :=
  ∃ x : Int, e = .returned (.int .i64 x) ∧ x ∈ xs ∧ Rdr g A n c bs (P + 1) w' ∧ Tch g (g + 1) w w'
set_option maxHeartbeats 800000 in
theorem one_any (g : Nat) (A : Option Addr) (n c : Nat) (bs : List Int) (P : Nat) (b' off' l c' : Nat) (xs : List Int) (w : World) (h : Rdr g A n c bs P w) (hn : n = bs.length) (hby : BY bs) (hs : n ≤ 2000) (hP : P ≤ 1000000)
    (hl : l = xs.length) (hl1 : 1 ≤ l) (hl2 : l ≤ 1000) (hx : ∀ j, j < l → w.cell? ⟨b', off' + j, none⟩ = some (.int .i64 (xs.getD j 0))) (hne : b' ≠ g) (hbw : b' < w.heap.size) :
    Calls Try.prog 53 #[.pointer (some ⟨g, 0, none⟩), .slice (some ⟨b', off', none⟩) l c'] w fun e w' => OneP g A n c bs P xs w e w' := by
  have HPK := Lib.hid (pick_any g A n c bs P l w h hn hby hs hP (by omega))
  have HX := Lib.hid hx
  have HL := Lib.hid hl
  clear hx hl h hn
  go_enter Try.func53, Try.ntmps53
  go_wp2_with fail
  refine HPK.out.mono ?_
  rintro e w1 ⟨x, rfl, hxl, _, hr, ht⟩
  have hxl' : x < l := by have := hxl (by omega); omega
  have c1 := (World.cell?_of_block (a := ⟨b', off' + x, none⟩) (ht.block b' hbw (by omega))).trans (HX.out x hxl')
  have HR := Lib.hid hr
  have HT := Lib.hid ht
  have hmem : xs.getD x 0 ∈ xs := by
    have : x < xs.length := by have := HL.out; omega
    simp [List.getD, this]
  have HMEM := Lib.hid hmem
  clear hxl hr ht hmem
  generalize xs.getD x 0 = y at *
  go_wp2
  go_ret
  exact ⟨y, rfl, HMEM.out, HR.out, HT.out⟩
end Go.Proofs.Ytkfglodjnnlbkaa

namespace Go.Proofs.Ytkfglodjnnlbkaa
set_option linter.unusedSimpArgs false
set_option linter.unusedVariables false
open Go.RowKit
/-- Of the blocks below s none but g has turned. -/
structure Frd (g s : Nat) (w w' : World) : Prop where
  os : w'.os = w.os
  tape : w'.tape = w.tape
  output : w'.output = w.output
  size : w.heap.size ≤ w'.heap.size
  block : ∀ k, k < s → k ≠ g → w'.heap[k]? = w.heap[k]?
section
variable {g s : Nat} {w w1 w' : World}
theorem Frd.refl (g s : Nat) (w : World) : Frd g s w w := ⟨rfl, rfl, rfl, Nat.le_refl _, fun _ _ _ => rfl⟩
theorem Frd.trans (h : Frd g s w w1) (k : Frd g s w1 w') : Frd g s w w' := ⟨k.os.trans h.os, k.tape.trans h.tape, k.output.trans h.output, Nat.le_trans h.size k.size, fun i a b => (k.block i a b).trans (h.block i a b)⟩
theorem Frd.of_tch (h : Tch g (g + 1) w w') (hs : s ≤ w.heap.size) : Frd g s w w' := ⟨h.os, h.tape, h.output, h.size, fun k a b => h.block k (by omega) (by omega)⟩
theorem Frd.of_below {C : Nat} (h : Below C w w') (hs : s ≤ C) : Frd g s w w' := ⟨h.os, h.tape, h.output, h.size, fun k a _ => h.block k (by omega)⟩
theorem Frd.tch (h : Frd g w.heap.size w w') : Tch g (g + 1) w w' := ⟨h.os, h.tape, h.output, h.size, fun k hk hr => h.block k hk (by omega)⟩
end
end Go.Proofs.Ytkfglodjnnlbkaa

namespace Go.Proofs.Ytkfglodjnnlbkaa
set_option linter.unusedSimpArgs false
set_option linter.unusedVariables false
open Go.RowKit
theorem row_form2 {w : World} {base n size : Nat} {e : TypeId} {v : Value} {xs : List Value} (h : w.ownsRow base e size v n xs) (hn : 0 < n) : ∃ g cap, v = .slice (some ⟨g, 0, none⟩) n cap := by
  rcases h.2 with ⟨hv, h0⟩ | ⟨g, cap, cur, hv, _⟩
  · omega
  · exact ⟨g, cap, hv⟩
end Go.Proofs.Ytkfglodjnnlbkaa

namespace Go.Proofs.Ytkfglodjnnlbkaa
set_option linter.unusedSimpArgs false
set_option linter.unusedVariables false
open Go.RowKit
/-- Returns a fresh reader that has not picked yet. -/
def RdP (w : World) (e : Ending) (w' : World) : Prop :=
  ∃ (g : Nat) (A : Option Addr) (n c : Nat) (bs : List Int), e = .returned (.pointer (some ⟨g, 0, none⟩)) ∧ n = bs.length ∧ n ≤ 2000 ∧ BY bs ∧ Rdr g A n c bs 0 w' ∧ w.heap.size ≤ g ∧ Below w.heap.size w w'
theorem BY.take {bs : List Int} (h : BY bs) (k : Nat) : BY (bs.take k) := by
  intro j
  by_cases hj : j < k
  · have : (bs.take k).getD j 0 = bs.getD j 0 := by simp only [List.getD, List.getElem?_take, if_pos hj]
    rw [this]; exact h j
  · have : (bs.take k).getD j 0 = 0 := by simp only [List.getD, List.getElem?_take, if_neg hj]; rfl
    rw [this]; omega
theorem BS.take {w : World} {B : Nat} {A : Option Addr} {bs : List Int} (h : BS w B A bs) (k : Nat) : BS w B A (bs.take k) := by
  intro hn
  rw [List.length_take] at hn
  obtain ⟨b, off, e, hb, hc⟩ := h (by omega)
  refine ⟨b, off, e, hb, fun j hj => ?_⟩
  rw [List.length_take] at hj
  have : (bs.take k).getD j 0 = bs.getD j 0 := by simp only [List.getD, List.getElem?_take, if_pos (show j < k by omega)]
  rw [this]
  exact hc j (by omega)
set_option maxHeartbeats 800000 in
theorem spec_newReader (A : Option Addr) (n c : Nat) (bs : List Int) (w : World) (B : Nat) (hB : B ≤ w.heap.size) (hn : n = bs.length) (hnc : n ≤ c) (h : BS w B A bs) (hy : BY bs) (hs : n ≤ 1048576) :
    Calls Try.prog 42 #[.slice A n c] w fun e w' => RdP w e w' := by
  by_cases h2 : 2000 < n
  · have h3 : 2000 ≤ c := by omega
    obtain ⟨b, off, rfl, hb, hc⟩ := h (by omega)
    have H := Lib.hid (BS.take (w := w) (B := B) (A := some ⟨b, off, none⟩) (bs := bs) (fun _ => ⟨b, off, rfl, hb, hc⟩) 2000)
    have HY := Lib.hid (hy.take 2000)
    have HL : Hid ((bs.take 2000).length = 2000) := by show _ = _; rw [List.length_take]; omega
    generalize bs.take 2000 = ds at *
    clear h hy hn hc
    go_enter Try.func42, Try.ntmps42
    go_wp2
    go_ret
    refine ⟨w.heap.size, some ⟨b, off, none⟩, 2000, c, ds, rfl, HL.out.symm, by omega, HY.out, ⟨by simp, by go_simp, ⟨0, Nat.le_refl _, by go_simp⟩, by go_simp, ?_⟩, ?_, ?_⟩
    · exact (H.out.keep fun p hp => World.cell?_alloc_lt w _ p (by omega)).more hB
    · exact Nat.le_refl _
    · exact (Below.refl _ _).alloc (Nat.le_refl _) _
  · have H := Lib.hid h
    have HN := Lib.hid hn
    clear h hn
    go_enter Try.func42, Try.ntmps42
    go_wp2
    go_ret
    refine ⟨w.heap.size, A, n, c, bs, rfl, HN.out, by omega, hy, ⟨by simp, by go_simp, ⟨0, Nat.le_refl _, by go_simp⟩, by go_simp, ?_⟩, ?_, ?_⟩
    · exact (H.out.keep fun p hp => World.cell?_alloc_lt w _ p (by omega)).more hB
    · exact Nat.le_refl _
    · exact (Below.refl _ _).alloc (Nat.le_refl _) _
end Go.Proofs.Ytkfglodjnnlbkaa

namespace Go.Proofs.Ytkfglodjnnlbkaa
set_option linter.unusedSimpArgs false
set_option linter.unusedVariables false
open Go.RowKit
theorem Rdr.drew {g n c P : Nat} {A : Option Addr} {bs : List Int} {w : World} (h : Rdr g A n c bs P w) : Rdr g A n c bs P w.drew := ⟨h.lt, h.c0, h.pos, h.fz, h.by_⟩
end Go.Proofs.Ytkfglodjnnlbkaa

namespace Go.Proofs.Ytkfglodjnnlbkaa
set_option linter.unusedSimpArgs false
set_option linter.unusedVariables false
open Go.RowKit
theorem own_set {w : World} {base e size g n c : Nat} {xs : List Value} (h : w.ownsRow base e size (.slice (some ⟨g, 0, none⟩) n c) n xs) (a : Addr) (ha : a.block ≠ g) (x : Value) : (w.setCell a x).ownsRow base e size (.slice (some ⟨g, 0, none⟩) n c) n xs := by
  refine ⟨h.1, ?_⟩
  rcases h.2 with ⟨h', _⟩ | ⟨g', cap', cur, h', hb, hg, hrest⟩
  · simp at h'
  · have hgg : g = g' := by simp at h'; exact h'.1
    exact .inr ⟨g', cap', cur, h', hb, (Below.heap_setCell _ _ _ _ (by omega)).trans hg, hrest⟩
theorem Tch.of_below' {C : Nat} {w w' : World} (h : Below C w w') : Tch C w'.heap.size w w' := ⟨h.os, h.tape, h.output, h.size, fun k hk hr => h.block k (by have := h.size; omega)⟩
end Go.Proofs.Ytkfglodjnnlbkaa

namespace Go.Proofs.Ytkfglodjnnlbkaa
set_option linter.unusedSimpArgs false
set_option linter.unusedVariables false
open Go.RowKit
/-- Returns the labels that were met; the owners are written in place; their lists avoid what they avoided, and the labels. -/
def RetClr (Q : Nat → Prop) (lo g cap n : Nat) (w : World) (ls : List Int) (es : List On) (e : Ending) (w' : World) : Prop :=
  ∃ (g6 c6 l6 : Nat), e = .returned (.slice (some ⟨g6, 0, none⟩) l6 c6) ∧ l6 = ls.length ∧ w'.ownsRow w.heap.size 3 1 (.slice (some ⟨g6, 0, none⟩) l6 c6) l6 (ls.map (Value.int .i64)) ∧ OwOn (fun q => Q q ∨ q = g6) lo w'.heap.size (.slice (some ⟨g, 0, none⟩) n cap) n es w' ∧ Tch g (g + 1) w w'
theorem row_some2 {w : World} {base n size : Nat} {e : TypeId} {v : Value} {xs : List Value} (h : w.ownsRow base e size v n xs) (h0 : ¬ v = .slice none 0 0) : ∃ g c, v = .slice (some ⟨g, 0, none⟩) n c := by
  rcases h.2 with ⟨hv, _⟩ | ⟨g, cap, cur, hv, _⟩
  · exact absurd hv h0
  · exact ⟨g, cap, hv⟩
theorem take_rev_succ (cl : List Int) (q j : Nat) (h : q + j + 1 = cl.length) : cl.reverse.take (q + 1) = cl.reverse.take q ++ [cl.getD j 0] := by
  have hr : q < cl.reverse.length := by rw [List.length_reverse]; omega
  rw [List.take_succ_eq_append_getElem hr, List.getElem_reverse]
  have e1 : cl.length - 1 - q = j := by omega
  simp [List.getD, e1, show j < cl.length by omega]
theorem tot_ge : ∀ (ds : List On) (b : Nat), (ds.getD b default).cl.length ≤ tot ds := by
  intro ds
  induction ds with
  | nil => intro b; simp [List.getD]; exact Nat.zero_le _
  | cons e ds ih =>
    intro b
    cases b with
    | zero => simp [tot, List.getD]
    | succ b =>
      have := ih b
      simp only [tot, List.map_cons, List.sum_cons, List.getD_cons_succ] at *
      omega
theorem Tch.grownNew {a b q : Nat} {w w1 w2 : World} (h : Tch a b w w1) (hg : w1.grownBy w2 (some q)) (hq : w.heap.size ≤ q) : Tch a b w w2 :=
  ⟨hg.os.trans h.os, hg.tape.trans h.tape, hg.output.trans h.output, Nat.le_trans h.size hg.size, fun i hi hr => (hg.block i (Nat.lt_of_lt_of_le hi h.size) (by intro e; cases e; omega)).trans (h.block i hi hr)⟩
theorem Tch.setIn {a b g j : Nat} {w w1 : World} (h : Tch a b w w1) (ha : a ≤ g) (hb : g < b) (x : Value) : Tch a b w (w1.setCell ⟨g, j, none⟩ x) :=
  ⟨h.os, h.tape, h.output, by simpa [World.setCell] using h.size, fun i hi hr => (Below.heap_setCell _ _ _ _ (by show i ≠ g; omega)).trans (h.block i hi hr)⟩
section
variable {Q : Nat → Prop} {lo hi n cap g : Nat} {ds : List On} {w : World}
theorem OwOn.frozen (h : OwOn Q lo hi (.slice (some ⟨g, 0, none⟩) n cap) n ds w) (j : Nat) : w.frozen? ⟨g, j, none⟩ = false := by
  obtain ⟨_, xs, us, h1, _⟩ := h
  exact h1.1.frozenAt j
theorem OwOn.op (h : OwOn Q lo hi (.slice (some ⟨g, 0, none⟩) n cap) n ds w) (k : Nat) (hk : k < ds.length) : w.cell? ⟨g, k * 4 + 1, none⟩ = some (.bool (ds.getD k default).o) := by
  obtain ⟨b, off, e, _, _, c1, _⟩ := h.all.owners.at_ k hk
  cases e
  simpa using c1
theorem OwOn.cl (h : OwOn Q lo hi (.slice (some ⟨g, 0, none⟩) n cap) n ds w) (k : Nat) (hk : k < ds.length) : ∃ A m c, w.cell? ⟨g, k * 4 + 2, none⟩ = some (.slice A m c) ∧ m = (ds.getD k default).cl.length ∧ IS w hi A (ds.getD k default).cl := by
  obtain ⟨b, off, e, _, _, _, ⟨A, m, c, c2, h1, h2⟩, _⟩ := h.all.owners.at_ k hk
  cases e
  exact ⟨A, m, c, by simpa using c2, h1, h2⟩
end
set_option maxRecDepth 100000 in
set_option maxHeartbeats 12800000 in
theorem spec_clear (lo g cap n : Nat) : ∀ (f : Nat) (ds : List On) (o hi : Nat) (Q : Nat → Prop) (w : World), n - o ≤ f → o < n → n = ds.length → PO ds → n ≤ 1000 → tot ds ≤ 1000000 → OwOn Q lo hi (.slice (some ⟨g, 0, none⟩) n cap) n ds w → hi ≤ w.heap.size → (∀ q, Q q → q < w.heap.size) →
    Calls Try.prog 59 #[.slice (some ⟨g, 0, none⟩) n cap, .int .i64 o] w fun e w' => RetClr Q lo g cap n w (clr f ds o).1 (clr f ds o).2 e w' := by
  intro f
  induction f with
  | zero => intro ds o hi Q w h1 h2; omega
  | succ f ih =>
  intro ds o hi Q w hf ho hn hpo hs htot hown hle hQ
  obtain ⟨i0, hi0, hz0, hz1, hz2⟩ := info_parts info_int
  have IH := Lib.hid ih
  have HN := Lib.hid hn
  have HPO := Lib.hid hpo
  have HTT := Lib.hid htot
  have hgl : lo ≤ g ∧ g < w.heap.size := by
    obtain ⟨_, xs, us, h1, _⟩ := hown
    have := h1.1.lt g rfl
    exact this
  have HB0 : Hid (Below w.heap.size w (w.alloc (.cells #[] 3))) := below_new w _
  have HOW0 := Lib.hid (((hown.more (Q' := fun q => Q q ∨ q = w.heap.size) (fun q h => h.imp id (fun e => by omega))).step HB0.out hle).mono (hi' := (w.alloc (.cells #[] 3)).heap.size) (by simp; omega))
  have hOS : OS w hi (some ⟨g, 0, none⟩) ds := hown.all.owners
  have HKD := Lib.hid (spec_kids (some ⟨g, 0, none⟩) n cap ds o (w.alloc (.cells #[] 3)) hi (by simp; omega) hn (hOS.alloc hle _) (by omega) ho (fun i hi => hpo.low o i hi (by omega)))
  have HROW0 := Lib.hid (World.ownsRow_lit (e := 3) (size := 1) (base := w.heap.size) w #[] 0 (Nat.le_refl _) (by unfold maxLen; omega) rfl)
  have HST := Lib.hid (clr_step f ds o)
  have HSC := Lib.hid fun (m k : Nat) (h : m + k + 1 = (nwTo (kidB ds o) ds.length).length) => clrK_succ f ds o m k h
  have HSM := Lib.hid fun (m : Nat) => clrK_same f ds o m
  have HCT := Lib.hid fun (m : Nat) => clrK_tot f ds o m
  have HKK := Lib.hid fun (k : Nat) (hk : k < (nwTo (kidB ds o) ds.length).length) => hpo.kid o k (by omega) hk
  have HQ := Lib.hid hQ
  have HK0 : Hid (clrK f ds o 0 = ([], ds)) := rfl
  have hll := nwTo_len (kidB ds o) ds.length
  rw [← hn] at HST HSC HKK hll
  rw [hn] at HKD
  rw [← hn] at HKD
  generalize hLL : nwTo (kidB ds o) n = L at *
  generalize clr (f + 1) ds o = RES at *
  obtain ⟨Ln, hLn⟩ : ∃ Ln, Ln = L.length := ⟨_, rfl⟩
  rw [← hLn] at HST HSC HKK hll
  have HLN := Lib.hid hLn
  clear ih hn hpo htot hown hOS hQ hLn hLL
  go_enter Try.func59, Try.ntmps59
  go_wp2_with fail
  refine HKD.out.mono ?_
  rintro e w2 ⟨v2, rfl, ho2, hb2⟩
  unfold OwnI at ho2
  rw [← HLN.out] at ho2
  obtain ⟨A2, c2, rfl⟩ := own_form ho2
  have HR2 : Hid (OwR (w.heap.size + 1) w2.heap.size 3 1 (.slice A2 Ln c2) Ln (L.map (Value.int .i64)) w2) := by
    have h9 := OwR.start ho2
    rw [World.size_alloc] at h9
    exact h9
  have HIL : Hid (IS w2 w2.heap.size A2 L) := IS.of_own ho2
  have hs2 : w.heap.size < w2.heap.size := by have := hb2.size; simp at this; omega
  have HO2 : Hid (w2.ownsRow w.heap.size 3 1 (.slice (some ⟨w.heap.size, 0, none⟩) 0 0) 0 []) := own_below (by simpa using HROW0.out) hb2
  have HW2 : Hid (OwOn (fun q => Q q ∨ q = w.heap.size) lo w2.heap.size (.slice (some ⟨g, 0, none⟩) n cap) n ds w2) := (HOW0.out.step hb2 (Nat.le_refl _)).mono hb2.size
  have HT2 : Hid (Tch g (g + 1) w w2) := (Tch.of_below HB0.out).trans (Tch.of_below hb2)
  clear ho2 hb2 HKD HROW0 HOW0 HB0
  go_wp2
  go_loopw [5, 7] (fun v u wr => ∃ (m : Nat) (y : Int) (g5 c5 l5 : Nat), m ≤ Ln ∧ y = (Ln : Int) - 1 - m ∧ u = .int .i64 y ∧ v = .slice (some ⟨g5, 0, none⟩) l5 c5 ∧ Hid (l5 = (clrK f ds o m).1.length) ∧ Hid (wr.ownsRow w.heap.size 3 1 (.slice (some ⟨g5, 0, none⟩) l5 c5) l5 ((clrK f ds o m).1.map (Value.int .i64))) ∧ Hid (OwOn (fun q => Q q ∨ q = g5) lo wr.heap.size (.slice (some ⟨g, 0, none⟩) n cap) n (clrK f ds o m).2 wr) ∧ Hid (Tch g (g + 1) w wr) ∧ w2.heap.size ≤ wr.heap.size ∧ (g5 = w.heap.size ∨ w2.heap.size ≤ g5) ∧ Hid (OwR (w.heap.size + 1) w2.heap.size 3 1 (.slice A2 Ln c2) Ln (L.map (Value.int .i64)) wr)) (fun _ u _ => (intOf u + 1).toNat)
  case atStart =>
    refine ⟨0, (Ln : Int) - 1, w.heap.size, 0, 0, Nat.zero_le _, by simp, rfl, rfl, ?_, ?_, ?_, HT2.out, Nat.le_refl _, .inl rfl, HR2.out⟩
    · rw [HK0.out]; rfl
    · rw [HK0.out]; exact HO2.out
    · rw [HK0.out]; exact HW2.out
  case round =>
    obtain ⟨m, y, g5, c5, l5, hm, hy, rfl, rfl, HL5, HO, HW, HT, hwr, hg5c, HRL⟩ := hrel
    have hCT := HCT.out m
    have hg5 := HO.out.lt g5 rfl
    by_cases hmL : m < Ln
    · obtain ⟨k, hk⟩ : ∃ k, m + k + 1 = Ln := ⟨Ln - 1 - m, by omega⟩
      have hyk : y = (k : Int) := by omega
      have hkL : k < Ln := by omega
      obtain ⟨b, hb, hob, hbn⟩ := HKK.out k hkL
      have hbn2 : b < n := hbn
      have HL : Hid (IS wr wr.heap.size A2 L) := (HRL.out.ints).more hwr
      obtain ⟨bl, offl, hA2, hblw, hcl⟩ := HL.out (by have := HLN.out; omega)
      have c0 := hcl k (by have := HLN.out; omega)
      rw [hb] at c0
      have HLK : Hid (L.getD k 0 = (b : Int)) := hb
      have HSK := Lib.hid (HSC.out m k hk)
      rw [hb] at HSK
      have hsm := HSM.out m
      have HIH := Lib.hid (IH.out (clrK f ds o m).2 b wr.heap.size (fun q => Q q ∨ q = g5) wr (by omega) hbn2 (by rw [hsm.len]; exact HN.out) (HPO.out.same hsm) hs (by have := HTT.out; omega) HW.out (Nat.le_refl _) (by
        rintro q (hq | rfl)
        · have := HQ.out q hq; omega
        · exact hg5.2))
      have hsl : l5 ≤ 1000000 := by have := HL5.out; have := HTT.out; omega
      have hCT2 := clr_tot f (clrK f ds o m).2 b
      have hl6 : (clr f (clrK f ds o m).2 b).1.length ≤ 1000000 := by have := HTT.out; omega
      have HSL : Hid (∀ s, clrS f (clrK f ds o m) (b : Int) = s → s = ((clrK f ds o m).1 ++ (clr f (clrK f ds o m).2 b).1, shut (clr f (clrK f ds o m).2 b).2 b)) := by
        intro s hs9; rw [← hs9]; unfold clrS; simp only [Int.toNat_natCast]
      have hS := HSL.out _ HSK.out.symm
      have HS1 := Lib.hid hS
      subst hA2
      clear hcl hb hS HSL HSK hCT hCT2 HL
      generalize (clr f (clrK f ds o m).2 b).1 = LB at *
      generalize hES : (clr f (clrK f ds o m).2 b).2 = ES at *
      have hsame : ES.length = n := by rw [← hES, (clr_same f _ b).len, hsm.len]; exact HN.out.symm
      generalize clrK f ds o m = K at *
      clear hES hsm
      obtain ⟨P1, D⟩ := K
      dsimp only at *
      have hkn : (k : Int) < (Ln : Int) := by omega
      have hbni : (b : Int) < (n : Int) := by omega
      subst hyk
      clear hy
      go_wp2_with fail
      refine HIH.out.mono ?_
      rintro e w3 ⟨g6, c6, l6, rfl, hl6e, hrow6, hown6, ht6⟩
      have hs3 := ht6.size
      have hg6 := hrow6.lt g6 rfl
      have HOut : Hid (w3.ownsRow w.heap.size 3 1 (.slice (some ⟨g5, 0, none⟩) l5 c5) l5 (P1.map (Value.int .i64))) :=
        ((OwR.start HO.out).keep fun q hq hq2 => ht6.block q hq2 (.inr (by omega))).1
      have hnews : ∀ (j : Nat) (u : Value), (LB.map (Value.int .i64))[j]? = some u → w3.cell? ((⟨g6, 0, none⟩ : Addr).add j) = some u := fun j u hu => hrow6.cells rfl j u hu
      have HNW := Lib.hid hnews
      have HW6 := Lib.hid hown6
      have HT6 := Lib.hid ht6
      have HLB := Lib.hid hl6e
      have hl66 : l6 ≤ 1000000 := by omega
      clear hnews hown6 hrow6 ht6 HIH HO HW hl6e
      go_wp2_with (at_builtin; refine wpList_append_own_at _ rfl _ _ 26 rfl w.heap.size 3 i0 (.int .i64 0) 1 8 Try.underlying26 hi0 hz0 hz1 hz2 rfl (by decide) _ _ _ rfl HOut.out ⟨g6, 0, none⟩ l6 c6 (LB.map (Value.int .i64)) rfl (by rw [List.length_map, ← HLB.out]; omega) HNW.out (by intro u hu; obtain ⟨x, _, rfl⟩ := List.mem_map.1 hu; rfl) (by unfold maxLen; omega) (by omega) (by omega) ?_)
      intro v9 w4 hown9 hgrow9 hnil9 hblk9
      obtain ⟨g9, c9, rfl⟩ := row_some2 hown9 hnil9
      have hs4 := hgrow9.size
      have hg9 : g9 = g5 ∨ g9 = w3.heap.size := by
        rcases hblk9 with h | h
        · left; simpa [Value.ownBlock] using h
        · right; simpa [Value.ownBlock] using h
      have hwb : w3.grownBy w4 (some g5) := hgrow9
      have HW4 : Hid (OwOn (fun q => Q q ∨ q = g9) lo w4.heap.size (.slice (some ⟨g, 0, none⟩) n cap) n ES w4) := by
        refine ((HW6.out.grown hwb (.inl (.inr rfl)) (fun h => by simp [Value.ownBlock] at h; omega)).more (Q' := fun q => Q q ∨ q = g9) ?_).mono hs4
        rintro q (hq | rfl)
        · exact .inl (.inl (.inl hq))
        · rcases hg9 with rfl | rfl
          · exact .inl (.inl (.inr rfl))
          · exact .inr (Nat.le_refl _)
      have HT4 := Lib.hid ((HT.out.trans HT6.out).grownNew hwb (by omega))
      have HRL4 : Hid (OwR (w.heap.size + 1) w2.heap.size 3 1 (.slice (some ⟨bl, offl, none⟩) Ln c2) Ln (L.map (Value.int .i64)) w4) :=
        (HRL.out.keep fun q hq hq2 => HT6.out.block q (by omega) (.inr (by omega))).keep fun q hq hq2 => hwb.block q (by omega) (by intro e; cases e; omega)
      have hcl4 : IS w4 w4.heap.size (some ⟨bl, offl, none⟩) L := HRL4.out.ints.more (by omega)
      obtain ⟨bl2, offl2, hee, hblw2, hcl2⟩ := hcl4 (by have := HLN.out; omega)
      cases hee
      have d0 := hcl2 k (by have := HLN.out; omega)
      rw [HLK.out] at d0
      have u1 := HW4.out.op b (by rw [hsame]; exact hbn2)
      have f1 := HW4.out.frozen (b * 4 + 1)
      have hg4 : g < w4.heap.size := by omega
      have hne : g ≠ g9 := by rcases hg9 with h | h <;> omega
      have HO5 := Lib.hid (own_set (by simpa using hown9 : w4.ownsRow w.heap.size 3 1 (.slice (some ⟨g9, 0, none⟩) (l5 + l6) c9) (l5 + l6) ((P1 ++ LB).map (Value.int .i64))) ⟨g, b * 4 + 1, none⟩ hne (.bool false))
      have HW5 := Lib.hid (HW4.out.setOpen b hbn2)
      have HT5 := Lib.hid (HT4.out.setIn (g := g) (j := b * 4 + 1) (Nat.le_refl _) (Nat.lt_succ_self _) (.bool false))
      have HRL5 : Hid (OwR (w.heap.size + 1) w2.heap.size 3 1 (.slice (some ⟨bl, offl, none⟩) Ln c2) Ln (L.map (Value.int .i64)) (w4.setCell ⟨g, b * 4 + 1, none⟩ (.bool false))) := HRL4.out.keep fun q hq _ => Below.heap_setCell _ _ _ _ (by show q ≠ g; omega)
      generalize (ES.getD b default).o = ob at u1
      have hs5 : w2.heap.size ≤ (w4.setCell ⟨g, b * 4 + 1, none⟩ (.bool false)).heap.size := by
        have e : (w4.setCell ⟨g, b * 4 + 1, none⟩ (.bool false)).heap.size = w4.heap.size := by simp [World.setCell]
        omega
      have hg9c : g9 = w.heap.size ∨ w2.heap.size ≤ g9 := by rcases hg9 with h | h <;> omega
      clear hcl2 HT HT4 HW4 HRL4 hown9 hgrow9 hnil9 hblk9 hwb HRL HW6 HT6 HNW HOut c0 hg9
      go_wp2
      go_roundw
      case rel =>
        refine ⟨m + 1, (k : Int) - 1, g9, c9, l5 + l6, by omega, by omega, rfl, rfl, ?_, ?_, ?_, HT5.out, hs5, hg9c, HRL5.out⟩
        · rw [HS1.out]; show _ = _; rw [List.length_append, ← HL5.out, ← HLB.out]
        · rw [HS1.out]; exact HO5.out
        · rw [HS1.out]
          have hE : (w4.setCell ⟨g, b * 4 + 1, none⟩ (.bool false)).heap.size = w4.heap.size := by simp [World.setCell]
          rw [hE]; exact HW5.out
      case measure => first | (simp [intOf]; done) | (simp [intOf]; omega)
    · obtain rfl : m = Ln := by omega
      have hneg : y < 0 := by omega
      clear hy
      have hsm := HSM.out m
      have hto := HCT.out m
      have hcb := tot_ge (clrK f ds o m).2 o
      have HRS := Lib.hid HST.out
      generalize clrK f ds o m = K at *
      obtain ⟨P1, D⟩ := K
      dsimp only at *
      have hod : o < D.length := by rw [hsm.len, ← HN.out]; exact ho
      obtain ⟨A7, m7, c7, u2, hm7, hi7⟩ := HW.out.cl o hod
      have hgr : g < wr.heap.size := by have := HT.out.size; omega
      have hto2 : P1.length + m7 ≤ 1000000 := by have := HTT.out; omega
      have HM7 := Lib.hid hm7
      clear hm7 hi7 hto hcb HST HSM HCT HSC HKK IH HK0 HR2 HIL HO2 HW2 HT2 HRL
      generalize hCL : (D.getD o default).cl = CL at *
      have HCL := Lib.hid hCL
      clear hCL
      have hm7c : m7 ≤ 1000000 := by omega
      have hon : (o : Int) < (n : Int) := by omega
      go_wp2
      clear hneg
      go_loopw [5, 8] (fun v u wx => ∃ (q : Nat) (z : Int) (g5 c5 l5 : Nat), q ≤ m7 ∧ z = (m7 : Int) - 1 - q ∧ u = .int .i64 z ∧ v = .slice (some ⟨g5, 0, none⟩) l5 c5 ∧ Hid (l5 = (P1 ++ CL.reverse.take q).length) ∧ Hid (wx.ownsRow w.heap.size 3 1 (.slice (some ⟨g5, 0, none⟩) l5 c5) l5 ((P1 ++ CL.reverse.take q).map (Value.int .i64))) ∧ Hid (OwOn (fun q => Q q ∨ q = g5) lo wx.heap.size (.slice (some ⟨g, 0, none⟩) n cap) n D wx) ∧ Hid (Tch g (g + 1) w wx)) (fun _ u _ => (intOf u + 1).toNat)
      case atStart => exact ⟨0, (m7 : Int) - 1, g5, c5, l5, Nat.zero_le _, by simp, rfl, rfl, by have := HL5.out; simpa [Hid] using this, by simpa [Hid] using HO.out, HW.out, HT.out⟩
      case round =>
        clear HL5 HO HW HT hg5 hg5c hwr
        obtain ⟨q, z, g5, c5, l5, hq, hz, rfl, rfl, HL5, HO, HW, HT⟩ := hrel
        have hg5 := HO.out.lt g5 rfl
        obtain ⟨A8, m8, c8, u8, hm8, hi8⟩ := HW.out.cl o hod
        rw [HCL.out] at hm8 hi8
        have hmm : m8 = m7 := by rw [hm8, HM7.out]
        subst hmm
        have hgx : g < wr.heap.size := by have := HT.out.size; omega
        have hl5 : l5 ≤ 1000000 := by
          have := HL5.out
          rw [List.length_append, List.length_take, List.length_reverse, ← hm8] at this
          omega
        have HM8 := Lib.hid hm8
        clear hm8
        by_cases hqm : q < m8
        · obtain ⟨j, hj⟩ : ∃ j, q + j + 1 = m8 := ⟨m8 - 1 - q, by omega⟩
          have hzj : z = (j : Int) := by omega
          obtain ⟨b8, o8, hA8, hb8, hc8⟩ := hi8 (by have := HM8.out; omega)
          have c0 := hc8 j (by have := HM8.out; omega)
          have HTK := Lib.hid (take_rev_succ CL q j (by have := HM8.out; omega))
          have hjm : j < m8 := by omega
          generalize CL.getD j 0 = x at *
          subst hA8 hzj
          clear hc8 hi8 hz
          have HT9 := Lib.hid (HT.out.trans (Tch.of_below (below_new wr (.cells #[.int .i64 x] 3))))
          have HW9 := Lib.hid ((HW.out.step (below_new wr (.cells #[.int .i64 x] 3)) (Nat.le_refl _)).mono (hi' := (wr.alloc (.cells #[.int .i64 x] 3)).heap.size) (by simp))
          go_wp2_with (at_builtin; refine wpList_append_own_at _ rfl _ _ 26 rfl w.heap.size 3 i0 (.int .i64 0) 1 8 Try.underlying26 hi0 hz0 hz1 hz2 rfl (by decide) _ _ _ rfl (HO.out.alloc (.cells #[.int .i64 x] 3)) ⟨wr.heap.size, 0, none⟩ 1 1 [.int .i64 x] rfl rfl (cell_one_new _ _ _) (by intro u hu; simp at hu; subst hu; rfl) (by unfold maxLen; omega) (by omega) (by simp; omega) ?_)
          intro v9 w4 hown9 hgrow9 hnil9 hblk9
          obtain ⟨g9, c9, rfl⟩ := row_form2 hown9 (by omega)
          have hs4 := hgrow9.size
          have hwb : (wr.alloc (.cells #[.int .i64 x] 3)).grownBy w4 (some g5) := hgrow9
          have hg9 : g9 = g5 ∨ g9 = (wr.alloc (.cells #[.int .i64 x] 3)).heap.size := by
            rcases hblk9 with h | h
            · left; simpa [Value.ownBlock] using h
            · right; simpa [Value.ownBlock] using h
          have HW4 : Hid (OwOn (fun q => Q q ∨ q = g9) lo w4.heap.size (.slice (some ⟨g, 0, none⟩) n cap) n D w4) := by
            refine ((HW9.out.grown hwb (.inr rfl) (fun h => by simp [Value.ownBlock] at h; omega)).more (Q' := fun q => Q q ∨ q = g9) ?_).mono hs4
            rintro q (hq | rfl)
            · exact .inl (.inl hq)
            · rcases hg9 with rfl | rfl
              · exact .inl (.inr rfl)
              · exact .inr (Nat.le_refl _)
          have HT4 := Lib.hid (HT9.out.grownNew hwb (by omega))
          have HO4 : Hid (w4.ownsRow w.heap.size 3 1 (.slice (some ⟨g9, 0, none⟩) (l5 + 1) c9) (l5 + 1) ((P1 ++ CL.reverse.take (q + 1)).map (Value.int .i64))) := by
            show w4.ownsRow _ _ _ _ _ _
            rw [HTK.out, ← List.append_assoc]
            simpa using hown9
          have HL4 : Hid (l5 + 1 = (P1 ++ CL.reverse.take (q + 1)).length) := by
            show _ = _
            rw [HTK.out, ← List.append_assoc, List.length_append, ← HL5.out]; rfl
          clear hown9 hgrow9 hnil9 hblk9 hwb hg9 HW9 HT9 HO HW HT HL5 hs4 c0 u8
          go_wp2
          go_roundw
          case rel => exact ⟨q + 1, (j : Int) - 1, g9, c9, l5 + 1, by omega, by omega, rfl, rfl, HL4.out, HO4.out, HW4.out, HT4.out⟩
          case measure => first | (simp [intOf]; done) | (simp [intOf]; omega)
        · obtain rfl : q = m8 := by omega
          have hzn : z < 0 := by omega
          have hge : CL.reverse.take q = CL.reverse := List.take_of_length_le (by rw [List.length_reverse, ← HM8.out]; exact Nat.le_refl _)
          rw [hge] at HO HL5
          have f2 := HW.out.frozen (o * 4 + 2)
          have HW5 := Lib.hid (OwOn.setNone (top := (wr.alloc (.cells #[] 3)).heap.size) (HW.out.step (below_new wr (.cells #[] 3)) (Nat.le_refl _)) (fun q hq => by
            rcases hq with hq | rfl
            · have := HQ.out q hq; omega
            · exact hg5.2) o ho (A := some ⟨wr.heap.size, 0, none⟩) (c := 0) (OwR.start (World.ownsRow_lit (e := 3) (size := 1) (base := wr.heap.size) wr #[] 0 (Nat.le_refl _) (by unfold maxLen; omega) rfl)) (by omega) (by simp))
          have HO5 := Lib.hid (own_set (HO.out.alloc (.cells #[] 3)) ⟨g, o * 4 + 2, none⟩ (by show g ≠ g5; omega) (.slice (some ⟨wr.heap.size, 0, none⟩) 0 0))
          have HT5 := Lib.hid ((HT.out.trans (Tch.of_below (below_new wr (.cells #[] 3)))).setIn (g := g) (j := o * 4 + 2) (Nat.le_refl _) (Nat.lt_succ_self _) (.slice (some ⟨wr.heap.size, 0, none⟩) 0 0))
          clear HW HO HT hge hz hqm
          go_wp2
          go_ret
          rw [HRS.out]
          have hcm : (wr.alloc (.cells #[] 3)).setCell ⟨g, o * 4 + 2, none⟩ (.slice (some ⟨wr.heap.size, 0, none⟩) 0 0) = (wr.setCell ⟨g, o * 4 + 2, none⟩ (.slice (some ⟨wr.heap.size, 0, none⟩) 0 0)).alloc (.cells #[] 3) := by
            exact World.setCell_alloc_past _ _ _ _ hgx
          rw [hcm] at HT5 HO5 HW5
          refine ⟨g5, c5, l5, rfl, HL5.out, HO5.out, ?_, HT5.out⟩
          have hE : ((wr.setCell ⟨g, o * 4 + 2, none⟩ (.slice (some ⟨wr.heap.size, 0, none⟩) 0 0)).alloc (.cells #[] 3)).heap.size = (wr.alloc (.cells #[] 3)).heap.size := by simp [World.setCell]
          rw [hE]; exact HW5.out
end Go.Proofs.Ytkfglodjnnlbkaa

namespace Go.Proofs.Ytkfglodjnnlbkaa
set_option linter.unusedSimpArgs false
set_option linter.unusedVariables false
open Go.RowKit
def rerF (ds : List On) (o : Int) : List On := if hasOpO ds o then (clr ds.length ds o.toNat).2 else []
def rerL (ds : List On) (o : Int) : List Int := if hasOpO ds o then (clr ds.length ds o.toNat).1 else []
def dispB (ds : List On) (o : Int) : Bool := hasOpO ds o && !decide (o = 0)
def dispF (ds : List On) (o : Int) : List On := if dispB ds o then shut (clr ds.length ds o.toNat).2 o.toNat else []
def dispL (ds : List On) (o : Int) : List Int := if dispB ds o then (clr ds.length ds o.toNat).1 else []
theorem tot_small (ds : List On) (m : Nat) (h : ∀ j, (ds.getD j default).cl.length ≤ m) : tot ds ≤ ds.length * m := by
  induction ds with
  | nil => simp [tot]
  | cons d ds ih =>
    have h0 := h 0
    have := ih fun j => h (j + 1)
    simp only [List.getD_cons_zero] at h0
    simp only [tot, List.map_cons, List.sum_cons, List.length_cons, Nat.add_mul] at *
    omega
theorem tot_valid {ds : List On} (h : validO ds = true) : tot ds ≤ 60 := by
  have h1 := tot_small ds 5 fun j => (okO_len h j).1
  have := (validO_ok h).2.1
  omega
theorem SameP.small {ds es : List On} (h : SameP ds es) (hv : validO ds = true) : OB es :=
  OB.small (by rw [h.len]; exact (validO_ok hv).2.1) fun j => ⟨by have := h.cls j; have := (okO_len hv j).1; omega, by rw [h.cxs]; have := (okO_len hv j).2; omega⟩
theorem dispB_has {ds : List On} {o : Int} (h : dispB ds o = true) : hasOpO ds o = true := by unfold dispB at h; rw [Bool.and_eq_true] at h; exact h.1
/-- Returns owners in fresh blocks, and numbers. -/
def RetOI (w : World) (ds : List On) (ls : List Int) (e : Ending) (w' : World) : Prop := ∃ v u, e = .returned (.tuple #[v, u]) ∧ OwO w.heap.size w'.heap.size v ds.length ds w' ∧ OwnI w' w.heap.size u ls ∧ Below w.heap.size w w'
theorem RetOI.nil {w w' : World} (hb : Below w.heap.size w w') : RetOI w [] [] (.returned (.tuple #[.slice none 0 0, .slice none 0 0])) w' := ⟨_, _, rfl, OwO.nil _ _ _, World.ownsRow_nil _ _ _ _, hb⟩
set_option maxRecDepth 100000 in
set_option maxHeartbeats 3200000 in
theorem top_spec_DisposeOwner (ds : List On) (o : Int) (hO : OB ds) : ∀ (A : Option Addr) (n c : Nat) (w : World), n = ds.length → n ≤ c → OS w w.heap.size A ds →
    Calls Try.prog 28 #[.slice A n c, .int .i64 o] w fun e w' => RetOI w (dispF ds o) (dispL ds o) e w' := by
  intro A n c w hn hnc h
  have hnb : n ≤ 1048576 := by rw [hn]; exact hO.1
  have HS := Lib.hid h
  have HC := Lib.hid (spec_validOwners A n c ds w w.heap.size (Nat.le_refl _) hn h hO)
  have HI := Lib.hid fun (w' : World) (hB : w.heap.size ≤ w'.heap.size) (h : OS w' w.heap.size A ds) => spec_isOpen A n c ds o w' w.heap.size hB hn h hnb
  cases hv0 : validO ds
  · rw [hv0] at HC
    have hf : dispB ds o = false := by unfold dispB hasOpO hasO; rw [hv0]; rfl
    unfold dispF dispL
    rw [hf]
    clear hf hn h hO hv0 HI
    simp only [Bool.false_eq_true, if_false]
    go_enter Try.func28, Try.ntmps28
    go_wp2_with fail
    refine HC.out.mono ?_
    rintro e w1 ⟨rfl, hb⟩
    go_wp2
    go_ret2
    exact RetOI.nil hb
  rw [hv0] at HC
  by_cases ho0 : o = 0
  · have e0 : (o == 0) = true := by simp [ho0]
    have hf : dispB ds o = false := by unfold dispB; rw [decide_eq_true ho0]; simp
    unfold dispF dispL
    rw [hf]
    clear hf hn h hO hv0 HI ho0
    simp only [Bool.false_eq_true, if_false]
    go_enter Try.func28, Try.ntmps28
    go_wp2_with fail
    refine HC.out.mono ?_
    rintro e w1 ⟨rfl, hb⟩
    go_wp2
    go_ret2
    exact RetOI.nil hb
  have e0 : (o == 0) = false := by simp [ho0]
  cases hio : (rng o 0 ((n : Int) - 1) && opn ds o)
  · rw [hio] at HI
    have hf : dispB ds o = false := by unfold dispB hasOpO hasO; rw [hv0, Bool.true_and, ← hn, hio]; rfl
    unfold dispF dispL
    rw [hf]
    clear hf hn h hO hv0 hio
    simp only [Bool.false_eq_true, if_false]
    go_enter Try.func28, Try.ntmps28
    go_wp2_with fail
    refine HC.out.mono ?_
    rintro e w1 ⟨rfl, hb⟩
    go_wp2_with fail
    refine (HI.out w1 hb.size (HS.out.below hb (Nat.le_refl _))).mono ?_
    rintro e w1' ⟨rfl, rfl⟩
    go_wp2
    go_ret2
    exact RetOI.nil hb
  rw [hio] at HI
  have hv : hasOpO ds o = true := by unfold hasOpO hasO; rw [hv0, Bool.true_and, ← hn, hio]
  have hf : dispB ds o = true := by unfold dispB; rw [hv, decide_eq_false ho0]; rfl
  clear hio hv0
  obtain ⟨k, rfl, hkd, hval⟩ := hasOpO_at hv
  have hkn : k < n := by omega
  unfold dispF dispL
  rw [hf]
  simp only [if_true, Int.toNat_natCast]
  rw [← hn]
  have HCP := Lib.hid fun (w' : World) (hB : w.heap.size ≤ w'.heap.size) (h : OS w' w.heap.size A ds) => spec_copyOwners A n c ds w' w.heap.size hB hn h hO
  have HN := Lib.hid hn
  have HV := Lib.hid hval
  have hn12 : n ≤ 12 := by rw [hn]; exact (validO_ok hval).2.1
  have HSM := Lib.hid (clr_same n ds k)
  generalize hR1 : (clr n ds k).1 = R1 at *
  generalize hR2 : (clr n ds k).2 = R2 at *
  have HR1 := Lib.hid hR1
  have HR2 := Lib.hid hR2
  clear hf hn h hO hval hv hkd hR1 hR2
  go_enter Try.func28, Try.ntmps28
  go_wp2_with fail
  refine HC.out.mono ?_
  rintro e w1 ⟨rfl, hb⟩
  have HB1 := Lib.hid hb
  go_wp2_with fail
  refine (HI.out w1 hb.size (HS.out.below hb (Nat.le_refl _))).mono ?_
  rintro e w1' ⟨rfl, rfl⟩
  have hs1 := hb.size
  have HS1 := Lib.hid (HS.out.below hb (Nat.le_refl _))
  clear hb
  go_wp2_with fail
  refine (HCP.out w1 hs1 HS1.out).mono ?_
  rintro e w2 ⟨v, rfl, ho, hb2⟩
  rw [← HN.out] at ho
  obtain ⟨g, cap, rfl⟩ : ∃ g cap, v = .slice (some ⟨g, 0, none⟩) n cap := by
    obtain ⟨_, xs, us, h1, _⟩ := ho
    exact row_form2 h1.1 (by omega)
  have HB2 := Lib.hid (HB1.out.trans (hb2.mono HB1.out.size))
  have HCL := Lib.hid (spec_clear w1.heap.size g cap n n ds k w2.heap.size (fun _ => False) w2 (by omega) hkn HN.out (PO.of_valid HV.out) (by omega) (by have := tot_valid HV.out; omega) (OwOn.of ho (fun q h => h.elim)) (Nat.le_refl _) (fun q h => h.elim))
  rw [HR1.out, HR2.out] at HCL
  have hgl : w1.heap.size ≤ g ∧ g < w2.heap.size := by
    obtain ⟨_, xs, us, h1, _⟩ := ho
    exact h1.1.lt g rfl
  clear ho hb2 HC HI HCP HS HS1
  go_wp2_with fail
  refine HCL.out.mono ?_
  rintro e w3 ⟨g6, c6, l6, rfl, hl6, hrow6, hown6, ht6⟩
  have HL6 := Lib.hid hl6
  have HB3 := Lib.hid (HB2.out.trans (ht6.below (B := w.heap.size) (by omega) HB2.out.size))
  have f1 := hown6.frozen (k * 4 + 1)
  have u1 := hown6.op k (by rw [HSM.out.len, ← HN.out]; exact hkn)
  have hne : g ≠ g6 := by have := (hrow6.lt g6 rfl).1; omega
  have hg3 : g < w3.heap.size := by have := ht6.size; omega
  have HO6 := Lib.hid (own_set hrow6 ⟨g, k * 4 + 1, none⟩ hne (.bool false))
  have HW6 := Lib.hid (hown6.setOpen k hkn)
  have HB4 := Lib.hid (HB3.out.setCell (p := ⟨g, k * 4 + 1, none⟩) (show w.heap.size ≤ g by omega) (.bool false))
  generalize (R2.getD k default).o = ob at u1
  have HSL : Hid ((shut R2 k).length = n) := by show _ = _; rw [shut_len, HSM.out.len, ← HN.out]
  clear hl6 hrow6 hown6 ht6 HB3 HSM HR1 HR2
  go_wp2
  go_ret2
  have hE : (w3.setCell ⟨g, k * 4 + 1, none⟩ (.bool false)).heap.size = w3.heap.size := by simp [World.setCell]
  refine ⟨_, _, rfl, ?_, ?_, HB4.out⟩
  · rw [HSL.out, hE]; exact HW6.out.all.mono (by omega) (Nat.le_refl _)
  · unfold OwnI; rw [← HL6.out]; exact own_mono HO6.out (by omega)
end Go.Proofs.Ytkfglodjnnlbkaa

namespace Go.Proofs.Ytkfglodjnnlbkaa
set_option linter.unusedSimpArgs false
set_option linter.unusedVariables false
open Go.RowKit
def noCtx : List Int := [-1, -1, -1]
end Go.Proofs.Ytkfglodjnnlbkaa

namespace Go.Proofs.Ytkfglodjnnlbkaa
set_option linter.unusedSimpArgs false
set_option linter.unusedVariables false
open Go.RowKit
def newD (o : Int) : On := ⟨o, true, [], noCtx⟩
def openB (ds : List On) (o : Int) : Bool := hasOpO ds o && !(decide (ds.length = 12))
def openF (ds : List On) (o : Int) : List On := if openB ds o then ds ++ [newD o] else []
set_option maxRecDepth 100000 in
set_option maxHeartbeats 800000 in
theorem spec_emptyContext (w : World) : Calls Try.prog 83 #[] w fun e w' => RetI w noCtx e w' := by
  obtain ⟨i0, hi, hz0, hz1, hz2⟩ := info_parts info_int
  go_enter Try.func83, Try.ntmps83
  go_wp2
  go_loopw [1, 2] (fun v u wr => ∃ k : Nat, k ≤ 3 ∧ u = .int .i64 k ∧ Hid (OwnI wr w.heap.size v (List.replicate k (-1))) ∧ Hid (Below w.heap.size w wr) ∧ w.heap.size ≤ wr.heap.size) (fun _ u _ => 3 - (intOf u).toNat)
  case atStart =>
    refine ⟨0, by omega, rfl, ?_, (Below.refl _ _).alloc (Nat.le_refl _) _, by simp⟩
    have := World.ownsRow_lit (e := 3) (size := 1) (base := w.heap.size) w #[] 0 (Nat.le_refl _) (by unfold maxLen; omega) rfl
    simpa [OwnI, Hid] using this
  case round =>
    obtain ⟨k, hk, rfl, HO, HB, hwr⟩ := hrel
    by_cases hlt : k < 3
    · have hdl : (List.replicate k (-1 : Int)).length ≤ 3 := by simp; omega
      have HST := Lib.hid (show List.replicate (k + 1) (-1 : Int) = List.replicate k (-1) ++ [-1] from List.replicate_succ')
      generalize List.replicate k (-1 : Int) = D at *
      go_wp2_with (at_builtin; refine wpList_append_own _ rfl _ _ 26 rfl w.heap.size 3 i0 (.int .i64 0) 1 8 Try.underlying26 hi hz0 hz1 hz2 rfl (by decide) _ _ _ rfl (HO.out.alloc _) ⟨_, 0, none⟩ 1 1 [.int .i64 (-1)] rfl rfl (cell_one_new _ _ _) ?c2 ?c3 ?c4 ?c5 ?_)
      case c2 => first | rfl | (intro u hu; simp at hu; subst hu; rfl)
      case c3 => unfold maxLen; omega
      case c4 => omega
      case c5 => first | omega | (simp; omega)
      intro v' w3 hown' hgrow _
      have hpos := (HO.out.alloc (.cells #[.int .i64 (-1)] 3)).lt
      have HO' : Hid (OwnI w3 w.heap.size v' (List.replicate (k + 1) (-1))) := by
        rw [HST.out]
        simpa [OwnI, Hid] using hown'
      have HB' := Lib.hid ((HB.out.alloc hwr (.cells #[.int .i64 (-1)] 3)).grown hgrow (by first | (simp; omega) | omega) (fun q hq => (hpos q hq).1))
      clear hown' hgrow hpos
      go_wp2
      go_roundw
      case rel => exact ⟨k + 1, by omega, by go_num, HO'.out, HB'.out, HB'.out.size⟩
      case measure => simp [intOf]; omega
    · obtain rfl : k = 3 := by omega
      go_wp2
      go_ret
      exact ⟨_, rfl, HO.out, HB.out⟩
set_option maxRecDepth 100000 in
set_option maxHeartbeats 3200000 in
theorem top_spec_OpenUnder (ds : List On) (o : Int) (hO : OB ds) : ∀ (A : Option Addr) (n c : Nat) (w : World), n = ds.length → n ≤ c → OS w w.heap.size A ds →
    Calls Try.prog 78 #[.slice A n c, .int .i64 o] w fun e w' => RetOB w (openF ds o) (openB ds o) e w' := by
  intro A n c w hn hnc h
  obtain ⟨i1, hi1, hy0, hy1, hy2⟩ := info_parts info_owner
  have hnb : n ≤ 1048576 := by rw [hn]; exact hO.1
  have HS := Lib.hid h
  have HC := Lib.hid (spec_validOwners A n c ds w w.heap.size (Nat.le_refl _) hn h hO)
  have HI := Lib.hid fun (w' : World) (hB : w.heap.size ≤ w'.heap.size) (h : OS w' w.heap.size A ds) => spec_isOpen A n c ds o w' w.heap.size hB hn h hnb
  cases hv0 : validO ds
  · rw [hv0] at HC
    have hf : openB ds o = false := by unfold openB hasOpO hasO; rw [hv0]; rfl
    unfold openF
    rw [hf]
    clear hf hn h hO hv0 HI
    simp only [Bool.false_eq_true, if_false]
    go_enter Try.func78, Try.ntmps78
    go_wp2_with fail
    refine HC.out.mono ?_
    rintro e w1 ⟨rfl, hb⟩
    go_wp2
    go_ret2
    exact RetOB.nil hb
  rw [hv0] at HC
  cases hio : (rng o 0 ((n : Int) - 1) && opn ds o)
  · rw [hio] at HI
    have hf : openB ds o = false := by unfold openB hasOpO hasO; rw [hv0, Bool.true_and, ← hn, hio]; rfl
    unfold openF
    rw [hf]
    clear hf hn h hO hv0 hio
    simp only [Bool.false_eq_true, if_false]
    go_enter Try.func78, Try.ntmps78
    go_wp2_with fail
    refine HC.out.mono ?_
    rintro e w1 ⟨rfl, hb⟩
    go_wp2_with fail
    refine (HI.out w1 hb.size (HS.out.below hb (Nat.le_refl _))).mono ?_
    rintro e w1' ⟨rfl, rfl⟩
    go_wp2
    go_ret2
    exact RetOB.nil hb
  rw [hio] at HI
  have hv : hasOpO ds o = true := by unfold hasOpO hasO; rw [hv0, Bool.true_and, ← hn, hio]
  clear hio hv0
  by_cases h12 : n = 12
  · have h12' : ((n : Int) == 12) = true := by simp; omega
    have hf : openB ds o = false := by unfold openB; rw [← hn, decide_eq_true h12]; simp
    unfold openF
    rw [hf]
    clear hf hn h hO h12 hv
    simp only [Bool.false_eq_true, if_false]
    go_enter Try.func78, Try.ntmps78
    go_wp2_with fail
    refine HC.out.mono ?_
    rintro e w1 ⟨rfl, hb⟩
    go_wp2_with fail
    refine (HI.out w1 hb.size (HS.out.below hb (Nat.le_refl _))).mono ?_
    rintro e w1' ⟨rfl, rfl⟩
    go_wp2
    go_ret2
    exact RetOB.nil hb
  have h12' : ((n : Int) == 12) = false := by simp; omega
  have hf : openB ds o = true := by unfold openB; rw [hv, ← hn, decide_eq_false h12]; rfl
  have hce : openF ds o = ds ++ [newD o] := by unfold openF; rw [hf]; simp
  rw [hf, hce]
  have HCP := Lib.hid fun (w' : World) (hB : w.heap.size ≤ w'.heap.size) (h : OS w' w.heap.size A ds) => spec_copyOwners A n c ds w' w.heap.size hB hn h hO
  have HN := Lib.hid hn
  clear hf hce hn h hO h12 hv
  go_enter Try.func78, Try.ntmps78
  go_wp2_with fail
  refine HC.out.mono ?_
  rintro e w1 ⟨rfl, hb⟩
  have HB1 := Lib.hid hb
  go_wp2_with fail
  refine (HI.out w1 hb.size (HS.out.below hb (Nat.le_refl _))).mono ?_
  rintro e w1' ⟨rfl, rfl⟩
  have hs1 := hb.size
  have HS1 := Lib.hid (HS.out.below hb (Nat.le_refl _))
  clear hb HC HS
  go_wp2_with fail
  refine (HCP.out w1 hs1 HS1.out).mono ?_
  rintro e w2 ⟨v, rfl, ho, hb2⟩
  rw [← HN.out] at ho
  have hs2 := hb2.size
  have HO := Lib.hid ho
  have HB2 := Lib.hid (HB1.out.trans (hb2.mono hs1))
  clear ho hb2 HCP HS1
  go_wp2_with fail
  refine (spec_emptyContext _).mono ?_
  rintro e w3 ⟨v3, rfl, hoc, hbc⟩
  obtain ⟨A3, c3, rfl, -⟩ := hoc.form
  have hs3 := hbc.size
  have hoc' : w3.ownsRow w2.heap.size 3 1 (.slice A3 3 c3) 3 (noCtx.map (Value.int .i64)) := hoc
  have hl3 : noCtx.length = 3 := rfl
  rw [hl3]
  have HC3 := Lib.hid hoc'
  obtain ⟨-, xs, us, hr2', hul, hfl, hss⟩ := HO.out.step hbc (Nat.le_refl _)
  have HR := Lib.hid hr2'
  have HUL := Lib.hid hul
  have HFL := Lib.hid hfl
  have HSS := Lib.hid hss
  have HB3 := Lib.hid (HB2.out.trans (hbc.mono HB2.out.size))
  clear hr2' hul hfl hss hoc hoc' hbc HO HB2 hl3
  go_wp2_with (at_builtin; refine wpList_append_own _ rfl _ _ 23 rfl w1.heap.size 30 i1 _ 4 64 Try.underlying23 hi1 hy0 hy1 hy2 rfl (by decide) _ _ _ rfl (HR.out.1.alloc _) ⟨_, 0, none⟩ 1 1 [.int .i64 o, .bool true, .slice none 0 0, .slice A3 3 c3] rfl rfl (cells_new _ _ _ _ rfl) ?c2 ?c3 ?c4 ?c5 ?_)
  case c2 => first | rfl | (intro u hu; simp at hu; rcases hu with rfl | rfl | rfl | rfl <;> rfl)
  case c3 => unfold maxLen; omega
  case c4 => omega
  case c5 => first | omega | (simp; omega)
  intro v' w6 hown' hgrow _
  have HSN : Hid (OwO w1.heap.size w6.heap.size v' (n + 1) (ds ++ [newD o]) w6) :=
    OwO.snoc (d := newD o) (lo := w1.heap.size) (hi := w2.heap.size) (mid := w2.heap.size) (top := w3.heap.size) HN.out (HR.out.keep (w' := w3.alloc (.cells #[.int .i64 o, .bool true, .slice none 0 0, .slice A3 3 c3] 30)) (fun q _ hq => ((Below.refl w3.heap.size w3).alloc (Nat.le_refl _) _).block q (by omega))) HUL.out HFL.out (HSS.out.keep (fun q _ hq => ((Below.refl w3.heap.size w3).alloc (Nat.le_refl _) _).block q (by omega))) (OwR.nil _ _ _ _ _) rfl ⟨HC3.out.alloc _, fun q hq => (HC3.out.lt q hq).2⟩ rfl hs2 (Nat.le_refl _) hs3 (by simp) hgrow hown'
  have hpos := (HR.out.1.alloc (.cells #[.int .i64 o, .bool true, .slice none 0 0, .slice A3 3 c3] 30)).lt
  have HB6 := Lib.hid ((HB3.out.alloc HB3.out.size (.cells #[.int .i64 o, .bool true, .slice none 0 0, .slice A3 3 c3] 30)).grown hgrow (by simp; omega) (fun q hq => by have := (hpos q hq).1; omega))
  clear hown' hgrow hpos
  go_wp2
  go_ret2
  refine ⟨_, rfl, ?_, HB6.out⟩
  rw [List.length_append, ← HN.out]
  exact HSN.out.mono (by omega) (Nat.le_refl _)
end Go.Proofs.Ytkfglodjnnlbkaa

namespace Go.Proofs.Ytkfglodjnnlbkaa
set_option linter.unusedSimpArgs false
set_option linter.unusedVariables false
theorem valid_new {xs : List Int} (h : ctxOK xs = true) : validO (newF xs) = true := by
  have e : newF xs = [⟨-1, true, [], xs⟩] := by unfold newF; rw [if_pos h]
  rw [e, validO_iff]
  refine ⟨by simp, by simp, fun i hi => ?_, ⟨fun i hi h0 _ => ?_, fun i hi ho => ?_⟩, fun i hi => ?_⟩
  all_goals obtain rfl : i = 0 := by simpa using hi
  · exact ⟨fun _ => rfl, fun h => by omega⟩
  · omega
  · cases ho
  · exact ⟨rfl, h⟩
theorem hasOpO_is {ds : List On} {o : Int} (h : hasOpO ds o = true) : ∃ k : Nat, o = k ∧ k < ds.length ∧ validO ds = true ∧ isO ds k = true := by
  have h2 := h
  unfold hasOpO at h2
  rw [Bool.and_eq_true] at h2
  obtain ⟨k, rfl, hk, hv⟩ := hasOpO_at h
  refine ⟨k, rfl, hk, hv, ?_⟩
  have := h2.2
  unfold opn at this
  simpa [isO] using this
theorem valid_open {ds : List On} {o : Int} (h : openB ds o = true) : openF ds o = ds ++ [newD o] ∧ validO (ds ++ [newD o]) = true := by
  have h1 := h
  unfold openB at h1
  rw [Bool.and_eq_true] at h1
  obtain ⟨k, rfl, hk, hv, ho⟩ := hasOpO_is h1.1
  have hl : ds.length ≠ 12 := by simpa using h1.2
  refine ⟨by unfold openF; rw [if_pos h], ?_⟩
  rw [validO_iff] at hv ⊢
  obtain ⟨v1, v2, v3, v4, v5⟩ := hv
  have hg (i : Nat) := getD_snoc ds (newD (k : Int)) i
  refine ⟨by simp, by simp; omega, fun i hi => ?_, ⟨fun i hi h0 hio => ?_, fun i hi hio => ?_⟩, fun i hi => ?_⟩
  all_goals (rw [List.length_append] at hi; simp only [List.length_singleton] at hi)
  · rw [hg]
    by_cases e : i = ds.length
    · rw [if_pos e]
      exact ⟨fun h => by omega, fun _ => ⟨by show (0 : Int) ≤ (k : Int); omega, by show (k : Int) < (i : Int); omega⟩⟩
    · rw [if_neg e]; exact v3 i (by omega)
  · have hp : parN (ds ++ [newD (k : Int)]) i = if i = ds.length then k else parN ds i := by
      unfold parN; rw [hg]
      by_cases e : i = ds.length
      · rw [if_pos e, if_pos e]; show ((k : Int)).toNat = k; omega
      · rw [if_neg e, if_neg e]
    have hlt : ∀ j, j < ds.length → isO (ds ++ [newD (k : Int)]) j = isO ds j := fun j hj => by unfold isO; rw [hg, if_neg (by omega)]
    rw [hp]
    by_cases e : i = ds.length
    · rw [if_pos e, hlt k hk]; exact ho
    · rw [if_neg e, hlt _ (by have := par_lt v3 i (by omega) h0; omega)]
      rw [hlt i (by omega)] at hio
      exact v4.up i (by omega) h0 hio
  · unfold isO at hio
    unfold clO
    rw [hg] at hio ⊢
    by_cases e : i = ds.length
    · rw [if_pos e]; rfl
    · rw [if_neg e] at hio ⊢
      exact v4.no i (by omega) hio
  · unfold clO
    rw [hg]
    by_cases e : i = ds.length
    · rw [if_pos e]; exact ⟨rfl, by unfold newD; rfl⟩
    · rw [if_neg e]; exact v5 i (by omega)
/-- One owner has other lists. -/
theorem valid_set {ds : List On} (hv : validO ds = true) (k : Nat) (hk : k < ds.length) (d : On) (hp : d.p = (ds.getD k default).p) (ho : d.o = (ds.getD k default).o) (hc : clOK d.cl = true) (hx : ctxOK d.cx = true) (hn : d.o = false → d.cl = []) : validO (ds.set k d) = true := by
  rw [validO_iff] at hv ⊢
  obtain ⟨v1, v2, v3, v4, v5⟩ := hv
  have hg (i : Nat) := getD_set ds k i d hk
  have hpar : ∀ i, ((ds.set k d).getD i default).p = (ds.getD i default).p := fun i => by
    rw [hg]
    by_cases e : i = k
    · rw [if_pos e, e]; exact hp
    · rw [if_neg e]
  have hop : ∀ i, isO (ds.set k d) i = isO ds i := fun i => by
    unfold isO; rw [hg]
    by_cases e : i = k
    · rw [if_pos e, e]; exact ho
    · rw [if_neg e]
  have hpn : ∀ i, parN (ds.set k d) i = parN ds i := fun i => by unfold parN; rw [hpar]
  refine ⟨by simpa using v1, by simpa using v2, fun i hi => ?_, ⟨fun i hi h0 hio => ?_, fun i hi hio => ?_⟩, fun i hi => ?_⟩
  all_goals rw [List.length_set] at hi
  · rw [hpar]; exact v3 i hi
  · rw [hop, hpn]; rw [hop] at hio; exact v4.up i hi h0 hio
  · rw [hop] at hio
    unfold clO; rw [hg]
    by_cases e : i = k
    · rw [if_pos e]; exact hn (by rw [ho, ← e]; exact hio)
    · rw [if_neg e]; exact v4.no i hi hio
  · unfold clO; rw [hg]
    by_cases e : i = k
    · rw [if_pos e]; exact ⟨hc, hx⟩
    · rw [if_neg e]; exact v5 i hi
theorem valid_add {ds : List On} {o l : Int} (h : addB ds o l = true) : ∃ k : Nat, o = k ∧ k < ds.length ∧ addF ds o l = ds.set k (withCl ds k l) ∧ validO (ds.set k (withCl ds k l)) = true := by
  have h1 := h
  unfold addB at h1
  simp only [Bool.and_eq_true] at h1
  obtain ⟨k, rfl, hk, hv, ho⟩ := hasOpO_is h1.1
  refine ⟨k, rfl, hk, by unfold addF; rw [if_pos h]; simp, ?_⟩
  have v5 := ((validO_iff ds).1 hv).2.2.2.2 k hk
  refine valid_set hv k hk _ rfl rfl ?_ v5.2 (fun e => by
    unfold isO at ho
    rw [show (withCl ds k l).o = (ds.getD k default).o from rfl, ho] at e; cases e)
  have h2 := h1.2.1
  have h3 : (ds.getD k default).cl.length ≠ 5 := by simpa using h1.2.2
  have h4 := v5.1
  unfold clOK clO at *
  simp only [Bool.and_eq_true, decide_eq_true_eq] at h4 ⊢
  refine ⟨by show ((ds.getD k default).cl ++ [l]).length ≤ 5; rw [List.length_append, List.length_singleton]; omega, ?_⟩
  show allR ((ds.getD k default).cl ++ [l]) 0 50 = true
  unfold allR at *
  rw [List.all_append, h4.2]
  simpa using h2
theorem valid_ctx {ds : List On} {o key x : Int} (h : ctxB ds o key x = true) : ∃ k q : Nat, o = k ∧ k < ds.length ∧ key = q ∧ q < 3 ∧ 0 ≤ x ∧ x ≤ 50 ∧ isO ds k = true ∧ validO ds = true ∧ ctxF ds o key x = ds.set k (withCx ds k q x) ∧ validO (ds.set k (withCx ds k q x)) = true := by
  have h1 := h
  unfold ctxB at h1
  simp only [Bool.and_eq_true] at h1
  obtain ⟨k, rfl, hk, hv, ho⟩ := hasOpO_is h1.1
  have hkey := (rng_iff _ _ _).1 h1.2.1
  have hx := (rng_iff _ _ _).1 h1.2.2
  obtain ⟨q, rfl⟩ : ∃ q : Nat, key = q := ⟨key.toNat, by omega⟩
  have v5 := ((validO_iff ds).1 hv).2.2.2.2 k hk
  refine ⟨k, q, rfl, hk, rfl, by omega, hx.1, hx.2, ho, hv, by unfold ctxF; rw [if_pos h]; simp, ?_⟩
  refine valid_set hv k hk _ rfl rfl v5.1 ?_ (fun e => by
    unfold isO at ho
    rw [show (withCx ds k q x).o = (ds.getD k default).o from rfl, ho] at e; cases e)
  have h4 := v5.2
  unfold ctxOK at *
  simp only [Bool.and_eq_true, decide_eq_true_eq] at h4 ⊢
  refine ⟨by show ((ds.getD k default).cx.set q x).length = 3; rw [List.length_set]; exact h4.1, ?_⟩
  show allR ((ds.getD k default).cx.set q x) (-1) 50 = true
  have h5 := h4.2
  unfold allR at *
  rw [List.all_eq_true] at *
  intro y hy
  rcases List.mem_or_eq_of_mem_set hy with h6 | rfl
  · exact h5 y h6
  · rw [rng_iff]; omega
theorem valid_rer {ds : List On} {o : Int} (h : hasOpO ds o = true) : ∃ k : Nat, o = k ∧ k < ds.length ∧ validO ds = true ∧ isO ds k = true ∧ rerF ds o = (clr ds.length ds k).2 ∧ rerL ds o = (clr ds.length ds k).1 ∧ ClrP ds (clr ds.length ds k).2 k ∧ SameP ds (clr ds.length ds k).2 ∧ validO (clr ds.length ds k).2 = true := by
  obtain ⟨k, rfl, hk, hv, ho⟩ := hasOpO_is h
  have hv2 := (validO_iff ds).1 hv
  obtain ⟨c1, c2⟩ := clr_facts ds.length ds k (by omega) hk hv2.2.2.1 hv2.2.2.2.1 ho
  have hs := clr_same ds.length ds k
  refine ⟨k, rfl, hk, hv, ho, by unfold rerF; rw [if_pos h]; simp, by unfold rerL; rw [if_pos h]; simp, c1, hs, ?_⟩
  rw [validO_iff]
  refine ⟨by rw [hs.len]; exact hv2.1, by rw [hs.len]; exact hv2.2.1, hv2.2.2.1.same hs, c2, fun i hi => ?_⟩
  rw [hs.len] at hi
  rw [hs.cxs]
  refine ⟨?_, (hv2.2.2.2.2 i hi).2⟩
  by_cases hb : Und ds k i
  · by_cases e : i = k
    · rw [e, c1.own.2]; rfl
    · rw [(c1.low i hi e hb).2]; rfl
  · rw [(c1.out i hi hb).2]; exact (hv2.2.2.2.2 i hi).1
theorem valid_disp {ds : List On} {o : Int} (h : dispB ds o = true) : ∃ k : Nat, o = k ∧ 0 < k ∧ k < ds.length ∧ validO ds = true ∧ isO ds k = true ∧ dispF ds o = shut (clr ds.length ds k).2 k ∧ dispL ds o = (clr ds.length ds k).1 ∧ ClrP ds (clr ds.length ds k).2 k ∧ SameP ds (clr ds.length ds k).2 ∧ validO (shut (clr ds.length ds k).2 k) = true := by
  obtain ⟨k, rfl, hk, hv, ho, -, -, c1, hs, hvr⟩ := valid_rer (dispB_has h)
  have h0 : 0 < k := by
    unfold dispB at h
    simp at h
    have := h.2
    omega
  refine ⟨k, rfl, h0, hk, hv, ho, by unfold dispF; rw [if_pos h]; simp, by unfold dispL; rw [if_pos h]; simp, c1, hs, ?_⟩
  have hp := ((validO_iff ds).1 hv).2.2.1
  have hv2 := (validO_iff _).1 hvr
  have hke : k < (clr ds.length ds k).2.length := by rw [hs.len]; exact hk
  rw [validO_iff]
  refine ⟨by rw [shut_len]; exact hv2.1, by rw [shut_len]; exact hv2.2.1, hv2.2.2.1.same (SameP.shut _ _), ⟨fun i hi hi0 hio => ?_, fun i hi hio => ?_⟩, fun i hi => ?_⟩
  all_goals rw [shut_len] at hi
  · rw [isO_shut _ _ _ hke] at hio ⊢
    have hik : i ≠ k := fun e => by rw [if_pos e] at hio; cases hio
    rw [if_neg hik] at hio
    rw [(SameP.shut _ _).parE]
    have hid : i < ds.length := by rw [hs.len] at hi; exact hi
    have hpk : parN (clr ds.length ds k).2 i ≠ k := fun e => by
      rw [hs.parE] at e
      have hb : Und ds k i := (Und_iff hp k i hid).2 (.inr ⟨hi0, by rw [e]; exact Und_self hp k hk⟩)
      rw [(c1.low i hid hik hb).1] at hio; cases hio
    rw [if_neg hpk]
    exact hv2.2.2.2.1.up i hi hi0 hio
  · rw [isO_shut _ _ _ hke] at hio
    rw [clO_shut]
    by_cases e : i = k
    · rw [e]; exact c1.own.2
    · rw [if_neg e] at hio
      exact hv2.2.2.2.1.no i hi hio
  · rw [clO_shut, (SameP.shut _ _).cxs]
    exact hv2.2.2.2.2 i hi
end Go.Proofs.Ytkfglodjnnlbkaa

namespace Go.Proofs.Ytkfglodjnnlbkaa
set_option linter.unusedSimpArgs false
set_option linter.unusedVariables false
open Go.RowKit
set_option maxRecDepth 100000 in
set_option maxHeartbeats 3200000 in
theorem top_spec_AddCleanup (ds : List On) (o l : Int) (hO : OB ds) : ∀ (A : Option Addr) (n c : Nat) (w : World), n = ds.length → n ≤ c → OS w w.heap.size A ds →
    Calls Try.prog 18 #[.slice A n c, .int .i64 o, .int .i64 l] w fun e w' => RetOB w (addF ds o l) (addB ds o l) e w' := by
  intro A n c w hn hnc h
  obtain ⟨i0, hi, hz0, hz1, hz2⟩ := info_parts info_int
  have hnb : n ≤ 1048576 := by rw [hn]; exact hO.1
  have HS := Lib.hid h
  have HC := Lib.hid (spec_validOwners A n c ds w w.heap.size (Nat.le_refl _) hn h hO)
  have HI := Lib.hid fun (w' : World) (hB : w.heap.size ≤ w'.heap.size) (h : OS w' w.heap.size A ds) => spec_isOpen A n c ds o w' w.heap.size hB hn h hnb
  cases hv0 : validO ds
  · rw [hv0] at HC
    have hf : addB ds o l = false := by unfold addB hasOpO hasO; rw [hv0]; rfl
    unfold addF
    rw [hf]
    clear hf hn h hO hv0 HI
    simp only [Bool.false_eq_true, if_false]
    go_enter Try.func18, Try.ntmps18
    go_wp2_with fail
    refine HC.out.mono ?_
    rintro e w1 ⟨rfl, hb⟩
    go_wp2
    go_ret2
    exact RetOB.nil hb
  rw [hv0] at HC
  cases hio : (rng o 0 ((n : Int) - 1) && opn ds o)
  · rw [hio] at HI
    have hf : addB ds o l = false := by unfold addB hasOpO hasO; rw [hv0, Bool.true_and, ← hn, hio]; rfl
    unfold addF
    rw [hf]
    clear hf hn h hO hv0 hio
    simp only [Bool.false_eq_true, if_false]
    go_enter Try.func18, Try.ntmps18
    go_wp2_with fail
    refine HC.out.mono ?_
    rintro e w1 ⟨rfl, hb⟩
    go_wp2_with fail
    refine (HI.out w1 hb.size (HS.out.below hb (Nat.le_refl _))).mono ?_
    rintro e w1' ⟨rfl, rfl⟩
    go_wp2
    go_ret2
    exact RetOB.nil hb
  rw [hio] at HI
  have hv : hasOpO ds o = true := by unfold hasOpO hasO; rw [hv0, Bool.true_and, ← hn, hio]
  clear hio hv0
  obtain ⟨k, rfl, hkd, hval⟩ := hasOpO_at hv
  have hkn : k < n := by omega
  cases hr : rng l 0 50
  · have hE := hr
    have hf : addB ds (k : Int) l = false := by unfold addB; rw [hr]; simp
    unfold addF
    rw [hf]
    clear hf hn h hO hE hval
    simp only [Bool.false_eq_true, if_false]
    go_enter Try.func18, Try.ntmps18
    go_wp2_with fail
    refine HC.out.mono ?_
    rintro e w1 ⟨rfl, hb⟩
    go_wp2_with fail
    refine (HI.out w1 hb.size (HS.out.below hb (Nat.le_refl _))).mono ?_
    rintro e w1' ⟨rfl, rfl⟩
    go_wp2_with fail
    refine (spec_inRange _ _ _ _).mono ?_
    rintro e w' ⟨rfl, rfl⟩
    go_wp2
    go_ret2
    exact RetOB.nil hb
  obtain ⟨b, off, rfl, hbB, c0, c1, ⟨A1, n1, d1, c2, hn1, hp1⟩, -⟩ := h.at_ k hkd
  have hlen := (okO_len hval k).1
  by_cases h5 : n1 = 5
  · have h5' : ((n1 : Int) == 5) = true := by simp; omega
    have hf : addB ds (k : Int) l = false := by unfold addB; rw [Int.toNat_natCast, ← hn1, decide_eq_true h5]; simp
    unfold addF
    rw [hf]
    clear hf hn h hO hval c0 c1 hp1 hn1 hlen h5
    simp only [Bool.false_eq_true, if_false]
    go_enter Try.func18, Try.ntmps18
    go_wp2_with fail
    refine HC.out.mono ?_
    rintro e w1 ⟨rfl, hb⟩
    have b2 := (hb.cell (p := ⟨b, off + k * 4 + 2, none⟩) (by simp; omega)).trans c2
    go_wp2_with fail
    refine (HI.out w1 hb.size (HS.out.below hb (Nat.le_refl _))).mono ?_
    rintro e w1' ⟨rfl, rfl⟩
    go_wp2_with fail
    refine (spec_inRange _ _ _ _).mono ?_
    rintro e w' ⟨rfl, rfl⟩
    go_wp2
    go_ret2
    exact RetOB.nil hb
  have h5' : ((n1 : Int) == 5) = false := by simp; omega
  have hf : addB ds (k : Int) l = true := by unfold addB; rw [hv, hr, Int.toNat_natCast, ← hn1, decide_eq_false h5]; rfl
  have hce : addF ds (k : Int) l = ds.set k (withCl ds k l) := by unfold addF; rw [hf]; simp
  rw [hf, hce]
  have HCP := Lib.hid fun (w' : World) (hB : w.heap.size ≤ w'.heap.size) (h : OS w' w.heap.size (some ⟨b, off, none⟩) ds) => spec_copyOwners (some ⟨b, off, none⟩) n c ds w' w.heap.size hB hn h hO
  have HN := Lib.hid hn
  have HN1 := Lib.hid hn1
  have hn15 : n1 ≤ 5 := by omega
  have HKD := Lib.hid hkd
  clear hf hce hn h hO hval c0 c1 hp1 hn1 hlen h5 hv hkd
  go_enter Try.func18, Try.ntmps18
  go_wp2_with fail
  refine HC.out.mono ?_
  rintro e w1 ⟨rfl, hb⟩
  have b2 := (hb.cell (p := ⟨b, off + k * 4 + 2, none⟩) (by simp; omega)).trans c2
  have HB1 := Lib.hid hb
  go_wp2_with fail
  refine (HI.out w1 hb.size (HS.out.below hb (Nat.le_refl _))).mono ?_
  rintro e w1' ⟨rfl, rfl⟩
  go_wp2_with fail
  refine (spec_inRange _ _ _ _).mono ?_
  rintro e w' ⟨rfl, rfl⟩
  have hs1 := hb.size
  have HS1 := Lib.hid (HS.out.below hb (Nat.le_refl _))
  clear hb
  go_wp2_with fail
  refine (HCP.out w1 hs1 HS1.out).mono ?_
  rintro e w2 ⟨v, rfl, ho, hb2⟩
  rw [← HN.out] at ho
  obtain ⟨-, xs, us, hr2', hul, hfl, hss⟩ := ho
  rcases hr2'.1.2 with ⟨-, hz⟩ | ⟨g, cap, cur, rfl, -⟩
  · omega
  have hxl : xs.length = n * 4 := hr2'.1.1
  obtain ⟨-, -, f2, f3⟩ := hfl k HKD.out
  have hs2 := hb2.size
  have hgl := (hr2'.1.lt g rfl).2
  obtain ⟨A5, m5, c5, r1, r2, r3⟩ := hss.row (k * 2) (by omega)
  rw [lenOfO, rowO_cl] at r2
  rw [rowOfO, rowO_cl] at r3
  have hm5 : m5 ≤ 5 := by have := HN1.out; omega
  have u2 := (hr2'.1.cellAt (k * 4 + 2) (by omega)).trans (f2.trans r1)
  have R1 := Lib.hid r1
  have R2 := Lib.hid r2
  have R3 := Lib.hid r3
  have HR := Lib.hid hr2'
  have HUL := Lib.hid hul
  have HFL := Lib.hid hfl
  have HSS := Lib.hid hss
  have HB2 := Lib.hid (HB1.out.trans (hb2.mono HB1.out.size))
  clear r1 r2 r3 hr2' hul hfl hss hxl f2 f3 hb2 HC HCP HS HS1
  go_wp2_with (at_builtin; refine wpList_append_own_at _ rfl _ _ 26 rfl w1.heap.size 3 i0 (.int .i64 0) 1 8 Try.underlying26 hi hz0 hz1 hz2 rfl (by decide) _ _ _ rfl (R3.out.1.alloc _) ⟨_, 0, none⟩ 1 1 [.int .i64 l] rfl rfl (cell_one_new _ _ _) ?c2 ?c3 ?c4 ?c5 ?_)
  case c2 => first | rfl | (intro u hu; simp at hu; subst hu; rfl)
  case c3 => unfold maxLen; omega
  case c4 => omega
  case c5 => first | omega | (simp; omega)
  intro v' w3 hown' hgrow _ hblk
  obtain ⟨A6, c6, rfl⟩ := own_form hown'
  have hz3 := hgrow.size
  have hz3' : w2.heap.size + 1 ≤ w3.heap.size := by simpa using hz3
  have hr3 : OwR w1.heap.size w2.heap.size 30 4 (.slice (some ⟨g, 0, none⟩) n cap) n xs w3 := ⟨(HR.out.1.alloc _).kept hgrow (blocks_ne (HR.out.1.alloc (.cells #[.int .i64 l] 3)) (R3.out.1.alloc (.cells #[.int .i64 l] 3)) owner_ne_int), HR.out.2⟩
  have hxl : xs.length = n * 4 := hr3.1.1
  have d2 := hr3.1.cellAt (k * 4 + 2) (by omega)
  rw [List.getElem?_eq_getElem (by omega)] at d2
  have e2 := hr3.1.frozenAt (k * 4 + 2)
  generalize xs[k * 4 + 2]'(by omega) = v2 at d2
  have hpos := (R3.out.1.alloc (.cells #[.int .i64 l] 3)).lt
  have HSG : Hid (SSk w1.heap.size w3.heap.size (us.set (k * 2) (.slice A6 (m5 + 1) c6)) (lenOf (rowsO (ds.set k (withCl ds k l)))) (rowOf (rowsO (ds.set k (withCl ds k l)))) w3) := by
    refine SSk.grow (w := w2.alloc (.cells #[.int .i64 l] 3)) (hi := w2.heap.size) (HSS.out.keep fun q _ hq => ((Below.refl w2.heap.size w2).alloc (Nat.le_refl _) _).block q hq) (by simp) R1.out hgrow hown' (by rw [World.size_alloc]; exact hblk) ?_ ?_ fun j hj => ?_
    · rw [lenOfO, rowO_set ds k _ HKD.out, if_pos rfl]; simp only [withCl, List.length_append, List.length_singleton]; rw [← R2.out]
    · rw [rowOfO, rowO_set ds k _ HKD.out, if_pos rfl]; simp only [withCl, List.map_append, List.map_cons, List.map_nil]; try rfl
    · rw [lenOfO, rowOfO, rowO_set ds k _ HKD.out, if_neg hj]
      by_cases e5 : j = k * 2 + 1
      · rw [if_pos e5, lenOfO, rowOfO, e5, rowO_cx]; exact ⟨rfl, rfl⟩
      · rw [if_neg e5, lenOfO, rowOfO]; exact ⟨rfl, rfl⟩
  have HR3 := Lib.hid hr3
  have HB3 := Lib.hid ((HB2.out.alloc HB2.out.size (.cells #[.int .i64 l] 3)).grown hgrow (by simp; omega) (fun q hq => by have := (hpos q hq).1; omega))
  clear hown' hgrow hblk hpos hr3 hxl hz3 u2
  go_wp2
  go_ret2
  have hfin := OwO.field (e := 0) (lo := w1.heap.size) (top := w3.heap.size) (d' := withCl ds k l) (by omega) HN.out HR3.out HUL.out HFL.out hkn (by simpa using HSG.out) rfl rfl (by omega)
  refine ⟨_, rfl, ?_, HB3.out.setCell (by show w.heap.size ≤ g; have := (HR3.out.1.lt g rfl).1; omega) _⟩
  have hsz : (w3.setCell ⟨g, k * 4 + 2, none⟩ (.slice A6 (m5 + 1) c6)).heap.size = w3.heap.size := by simp [World.setCell]
  rw [hsz, List.length_set, ← HN.out]
  exact hfin.mono (by omega) (Nat.le_refl _)
set_option maxRecDepth 100000 in
set_option maxHeartbeats 3200000 in
theorem top_spec_SetContext (ds : List On) (o key x : Int) (hO : OB ds) : ∀ (A : Option Addr) (n c : Nat) (w : World), n = ds.length → n ≤ c → OS w w.heap.size A ds →
    Calls Try.prog 79 #[.slice A n c, .int .i64 o, .int .i64 key, .int .i64 x] w fun e w' => RetOB w (ctxF ds o key x) (ctxB ds o key x) e w' := by
  intro A n c w hn hnc h
  have hnb : n ≤ 1048576 := by rw [hn]; exact hO.1
  have HS := Lib.hid h
  have HC := Lib.hid (spec_validOwners A n c ds w w.heap.size (Nat.le_refl _) hn h hO)
  have HI := Lib.hid fun (w' : World) (hB : w.heap.size ≤ w'.heap.size) (h : OS w' w.heap.size A ds) => spec_isOpen A n c ds o w' w.heap.size hB hn h hnb
  cases hv0 : validO ds
  · rw [hv0] at HC
    have hf : ctxB ds o key x = false := by unfold ctxB hasOpO hasO; rw [hv0]; rfl
    unfold ctxF
    rw [hf]
    clear hf hn h hO hv0 HI
    simp only [Bool.false_eq_true, if_false]
    go_enter Try.func79, Try.ntmps79
    go_wp2_with fail
    refine HC.out.mono ?_
    rintro e w1 ⟨rfl, hb⟩
    go_wp2
    go_ret2
    exact RetOB.nil hb
  rw [hv0] at HC
  cases hio : (rng o 0 ((n : Int) - 1) && opn ds o)
  · rw [hio] at HI
    have hf : ctxB ds o key x = false := by unfold ctxB hasOpO hasO; rw [hv0, Bool.true_and, ← hn, hio]; rfl
    unfold ctxF
    rw [hf]
    clear hf hn h hO hv0 hio
    simp only [Bool.false_eq_true, if_false]
    go_enter Try.func79, Try.ntmps79
    go_wp2_with fail
    refine HC.out.mono ?_
    rintro e w1 ⟨rfl, hb⟩
    go_wp2_with fail
    refine (HI.out w1 hb.size (HS.out.below hb (Nat.le_refl _))).mono ?_
    rintro e w1' ⟨rfl, rfl⟩
    go_wp2
    go_ret2
    exact RetOB.nil hb
  rw [hio] at HI
  have hv : hasOpO ds o = true := by unfold hasOpO hasO; rw [hv0, Bool.true_and, ← hn, hio]
  clear hio hv0
  obtain ⟨k, rfl, hkd, hval⟩ := hasOpO_at hv
  have hkn : k < n := by omega
  cases hr : rng key 0 2
  · have hE := hr
    have hf : ctxB ds (k : Int) key x = false := by unfold ctxB; rw [hr]; simp
    unfold ctxF
    rw [hf]
    clear hf hn h hO hE hval
    simp only [Bool.false_eq_true, if_false]
    go_enter Try.func79, Try.ntmps79
    go_wp2_with fail
    refine HC.out.mono ?_
    rintro e w1 ⟨rfl, hb⟩
    go_wp2_with fail
    refine (HI.out w1 hb.size (HS.out.below hb (Nat.le_refl _))).mono ?_
    rintro e w1' ⟨rfl, rfl⟩
    go_wp2_with fail
    refine (spec_inRange _ _ _ _).mono ?_
    rintro e w' ⟨rfl, rfl⟩
    go_wp2
    go_ret2
    exact RetOB.nil hb
  cases hr2 : rng x 0 50
  · have hE := hr
    have hf : ctxB ds (k : Int) key x = false := by unfold ctxB; rw [hr2]; simp
    unfold ctxF
    rw [hf]
    clear hf hn h hO hE hval
    simp only [Bool.false_eq_true, if_false]
    go_enter Try.func79, Try.ntmps79
    go_wp2_with fail
    refine HC.out.mono ?_
    rintro e w1 ⟨rfl, hb⟩
    go_wp2_with fail
    refine (HI.out w1 hb.size (HS.out.below hb (Nat.le_refl _))).mono ?_
    rintro e w1' ⟨rfl, rfl⟩
    go_wp2_with fail
    refine (spec_inRange _ _ _ _).mono ?_
    rintro e w' ⟨rfl, rfl⟩
    go_wp2_with fail
    refine (spec_inRange _ _ _ _).mono ?_
    rintro e w' ⟨rfl, rfl⟩
    go_wp2
    go_ret2
    exact RetOB.nil hb
  have hf : ctxB ds (k : Int) key x = true := by unfold ctxB; rw [hv, hr, hr2]; rfl
  obtain ⟨hj0, hj1⟩ := (rng_iff _ _ _).1 hr
  obtain ⟨j, rfl⟩ : ∃ j : Nat, key = j := ⟨key.toNat, by omega⟩
  have hj3 : j < 3 := by omega
  have hcx3 := (okO_len2 hval k hkd)
  have hce : ctxF ds (k : Int) (j : Int) x = ds.set k (withCx ds k j x) := by unfold ctxF; rw [hf]; simp
  rw [hf, hce]
  have HCP := Lib.hid fun (w' : World) (hB : w.heap.size ≤ w'.heap.size) (h : OS w' w.heap.size A ds) => spec_copyOwners A n c ds w' w.heap.size hB hn h hO
  have HN := Lib.hid hn
  have HC3 := Lib.hid hcx3
  have HKD := Lib.hid hkd
  clear hf hce hn h hO hval hv hj0 hj1 hcx3 hkd
  go_enter Try.func79, Try.ntmps79
  go_wp2_with fail
  refine HC.out.mono ?_
  rintro e w1 ⟨rfl, hb⟩
  have HB1 := Lib.hid hb
  go_wp2_with fail
  refine (HI.out w1 hb.size (HS.out.below hb (Nat.le_refl _))).mono ?_
  rintro e w1' ⟨rfl, rfl⟩
  go_wp2_with fail
  refine (spec_inRange _ _ _ _).mono ?_
  rintro e w' ⟨rfl, rfl⟩
  go_wp2_with fail
  refine (spec_inRange _ _ _ _).mono ?_
  rintro e w' ⟨rfl, rfl⟩
  have hs1 := hb.size
  have HS1 := Lib.hid (HS.out.below hb (Nat.le_refl _))
  clear hb
  go_wp2_with fail
  refine (HCP.out w1 hs1 HS1.out).mono ?_
  rintro e w2 ⟨v, rfl, ho, hb2⟩
  rw [← HN.out] at ho
  obtain ⟨-, xs, us, hr2', hul, hfl, hss⟩ := ho
  rcases hr2'.1.2 with ⟨-, hz⟩ | ⟨g, cap, cur, rfl, -⟩
  · omega
  have hxl : xs.length = n * 4 := hr2'.1.1
  obtain ⟨-, -, f2, f3⟩ := hfl k HKD.out
  have hs2 := hb2.size
  have hgl := (hr2'.1.lt g rfl).2
  obtain ⟨A5, m5, c5, r1, r2, r3⟩ := hss.row (k * 2 + 1) (by omega)
  rw [lenOfO, rowO_cx] at r2
  have r3' := r3
  rw [rowOfO, rowO_cx] at r3'
  have hm5 : m5 = 3 := by have := HC3.out; omega
  rcases r3'.1.2 with ⟨-, hz'⟩ | ⟨gx, capx, curx, hvx, -⟩
  · omega
  simp only [Value.slice.injEq] at hvx
  obtain ⟨rfl, -, rfl⟩ := hvx
  have u2 := (hr2'.1.cellAt (k * 4 + 3) (by omega)).trans (f3.trans r1)
  have hyl : ((ds.getD k default).cx.map (Value.int .i64)).length = m5 * 1 := r3'.1.1
  have y2 := r3'.1.cellAt j (by omega)
  rw [List.getElem?_eq_getElem (by omega)] at y2
  have z2 := r3'.1.frozenAt j
  generalize ((ds.getD k default).cx.map (Value.int .i64))[j]'(by omega) = vx at y2
  have hjm : j < m5 := by omega
  have hst := r3'.1.stored j (.int .i64 x)
  have hgx := (r3'.1.lt gx rfl).1
  have hlen : lenOf (rowsO (ds.set k (withCx ds k j x))) = lenOf (rowsO ds) := by
    funext i
    rw [lenOfO, lenOfO, rowO_set ds k _ HKD.out]
    by_cases e1 : i = k * 2
    · rw [if_pos e1, e1, rowO_cl]; rfl
    · rw [if_neg e1]
      by_cases e2 : i = k * 2 + 1
      · rw [if_pos e2, e2, rowO_cx]; simp [withCx]
      · rw [if_neg e2]
  have HSG : Hid (SSk w1.heap.size w2.heap.size us (lenOf (rowsO (ds.set k (withCx ds k j x)))) (rowOf (rowsO (ds.set k (withCx ds k j x)))) (w2.setCell ⟨gx, j, none⟩ (.int .i64 x))) := by
    rw [hlen]
    refine hss.put1 r1 ?_ fun i hi => ?_
    · rw [rowOfO, rowOfO, rowO_set ds k _ HKD.out, if_neg (by omega), if_pos rfl, rowO_cx]; simp only [withCx, List.map_set]
    · rw [rowOfO, rowOfO, rowO_set ds k _ HKD.out]
      by_cases e1 : i = k * 2
      · rw [if_pos e1, e1, rowO_cl]; rfl
      · rw [if_neg e1, if_neg hi]
  have HR3 : Hid (OwR w1.heap.size w2.heap.size 30 4 (.slice (some ⟨g, 0, none⟩) n cap) n xs (w2.setCell ⟨gx, j, none⟩ (.int .i64 x))) := ⟨hr2'.1.kept hst.2 (blocks_ne hr2'.1 r3'.1 owner_ne_int), hr2'.2⟩
  have HUL := Lib.hid hul
  have HFL := Lib.hid hfl
  have HB3 := Lib.hid ((HB1.out.trans (hb2.mono HB1.out.size)).setCell (p := ⟨gx, j, none⟩) (by show w.heap.size ≤ gx; omega) (.int .i64 x))
  have HM := Lib.hid hm5
  clear r1 r2 r3 r3' hr2' hul hfl hss hxl f2 f3 hb2 HC HCP HS HS1 hst hlen hyl hm5
  go_wp2
  go_ret2
  refine ⟨_, rfl, ?_, HB3.out⟩
  have hsz : (w2.setCell ⟨gx, j, none⟩ (.int .i64 x)).heap.size = w2.heap.size := by simp [World.setCell]
  rw [hsz, List.length_set, ← HN.out]
  refine OwO.mono (lo := w1.heap.size) (hi := w2.heap.size) ⟨by rw [List.length_set]; exact HN.out, xs, us, HR3.out, HUL.out, fun i hi => ?_, HSG.out⟩ (by omega) (Nat.le_refl _)
  have hi' : i < ds.length := by simpa using hi
  rw [getD_set ds k i _ HKD.out]
  by_cases ei : i = k
  · subst ei; rw [if_pos rfl]; exact HFL.out i hi'
  · rw [if_neg ei]; exact HFL.out i hi'
end Go.Proofs.Ytkfglodjnnlbkaa

namespace Go.Proofs.Ytkfglodjnnlbkaa
set_option linter.unusedSimpArgs false
set_option linter.unusedVariables false
open Go.RowKit
theorem own_ncapP {lo hi n c : Nat} {A : Option Addr} {ds : List On} {w : World} (h : OwO lo hi (.slice A n c) n ds w) : n ≤ c := by
  obtain ⟨_, xs, us, h1, _⟩ := h
  rcases h1.1.2 with ⟨hv, hz⟩ | ⟨g, cap, cur, hv, _, _, h2, _⟩
  · omega
  · simp only [Value.slice.injEq] at hv
    obtain ⟨_, _, rfl⟩ := hv
    exact h2
/-- While owners are drawn. -/
structure OG (g : Nat) (A : Option Addr) (n c : Nat) (bs : List Int) (w0 : World) (v : Value) (l : Nat) (ds : List On) (P : Nat) (w : World) : Prop where
  gw : g < w0.heap.size
  rd : Rdr g A n c bs P w
  fr : Frd g w0.heap.size w0 w
  row : OwO w0.heap.size w.heap.size v l ds w
  va : validO ds = true
section
variable {g n c l P P' : Nat} {A : Option Addr} {bs : List Int} {v v' : Value} {ds ds' : List On} {w0 w w' : World}
theorem OG.pick (h : OG g A n c bs w0 v l ds P w) (hr : Rdr g A n c bs P' w') (ht : Tch g (g + 1) w w') : OG g A n c bs w0 v l ds P' w' :=
  ⟨h.gw, hr, h.fr.trans (Frd.of_tch ht h.fr.size), (h.row.keep fun k hk hk' => ht.block k hk' (.inr (by have := h.gw; omega))).mono (Nat.le_refl _) ht.size, h.va⟩
theorem OG.below (h : OG g A n c bs w0 v l ds P w) (hb : Below w.heap.size w w') : OG g A n c bs w0 v l ds P w' :=
  ⟨h.gw, h.rd.step hb, h.fr.trans (Frd.of_below hb h.fr.size), (h.row.step hb (Nat.le_refl _)).mono (Nat.le_refl _) hb.size, h.va⟩
theorem OG.alloc (h : OG g A n c bs w0 v l ds P w) (o : Obj) : OG g A n c bs w0 v l ds P (w.alloc o) := h.below (below_new w o)
theorem OG.new (h : OG g A n c bs w0 v l ds P w) (ho : OwO w.heap.size w'.heap.size v' ds'.length ds' w') (hb : Below w.heap.size w w') (hv : validO ds' = true) : OG g A n c bs w0 v' ds'.length ds' P w' :=
  ⟨h.gw, h.rd.step hb, h.fr.trans (Frd.of_below hb h.fr.size), ho.mono h.fr.size (Nat.le_refl _), hv⟩
theorem OG.mono (h : OG g A n c bs w0 v l ds P w) (hP : P ≤ P') : OG g A n c bs w0 v l ds P' w := ⟨h.gw, h.rd.mono hP, h.fr, h.row, h.va⟩
theorem OG.len (h : OG g A n c bs w0 v l ds P w) : l = ds.length := h.row.1
theorem OG.len1 (h : OG g A n c bs w0 v l ds P w) : 1 ≤ l ∧ l ≤ 12 := by
  have := h.row.1
  have := (validO_iff ds).1 h.va
  omega
theorem OG.ob (h : OG g A n c bs w0 v l ds P w) : OB ds := (SameP.refl ds).small h.va
theorem OG.os {B : Option Addr} {m : Nat} (h : OG g A n c bs w0 (.slice B l m) l ds P w) : OS w w.heap.size B ds := h.row.owners
end
/-- Returns valid owners in fresh blocks; the reader goes on. -/
def GoP (g : Nat) (A : Option Addr) (n c : Nat) (bs : List Int) (Q : Nat) (w : World) (e : Ending) (w' : World) : Prop :=
  ∃ (B : Option Addr) (l m : Nat) (ds : List On), e = .returned (.slice B l m) ∧ OG g A n c bs w (.slice B l m) l ds Q w'
set_option maxRecDepth 100000 in
set_option maxHeartbeats 12800000 in
theorem goodOwners_any (g : Nat) (A : Option Addr) (n c : Nat) (bs : List Int) (P : Nat) (w : World) (h : Rdr g A n c bs P w) (hn : n = bs.length) (hby : BY bs) (hs : n ≤ 2000) (hP : P ≤ 400000) :
    Calls Try.prog 66 #[.pointer (some ⟨g, 0, none⟩)] w fun e w' => GoP g A n c bs (P + 60) w e w' := by
  have hgw := h.lt
  have HN := Lib.hid hn
  have HR := Lib.hid h
  clear h hn
  go_enter Try.func66, Try.ntmps66
  go_wp2_with fail
  refine (pick_any g A n c bs P 10 w HR.out HN.out hby hs (by omega) (by omega)).mono ?_
  rintro e w1 ⟨x, rfl, hx, _, hr1, ht1⟩
  have hx10 : (x : Int) < 10 := hx (by omega)
  have HR1 := Lib.hid (hr1.alloc (.cells #[.int .i64 (-1), .int .i64 (x : Int), .int .i64 (-1)] 3))
  have HF1 := Lib.hid ((Frd.of_tch (s := w.heap.size) ht1 (Nat.le_refl _)).trans (Frd.of_below (below_new w1 (.cells #[.int .i64 (-1), .int .i64 (x : Int), .int .i64 (-1)] 3)) ht1.size))
  have hIS : IS (w1.alloc (.cells #[.int .i64 (-1), .int .i64 (x : Int), .int .i64 (-1)] 3)) (w1.alloc (.cells #[.int .i64 (-1), .int .i64 (x : Int), .int .i64 (-1)] 3)).heap.size (some ⟨w1.heap.size, 0, none⟩) [-1, (x : Int), -1] := fun _ => ⟨_, _, rfl, by simp, fun j hj => by
    have : j = 0 ∨ j = 1 ∨ j = 2 := by simp at hj; omega
    rcases this with rfl | rfl | rfl <;> go_simp⟩
  have hcx : ctxOK [-1, (x : Int), -1] = true := by
    unfold ctxOK allR
    simp only [List.length_cons, List.length_nil, List.all_cons, List.all_nil, Bool.and_true]
    rw [(rng_iff (-1) (-1) 50).2 (by omega), (rng_iff (x : Int) (-1) 50).2 (by omega)]; rfl
  have HV := Lib.hid (valid_new hcx)
  have HNW := Lib.hid (top_spec_NewOwners [-1, (x : Int), -1] (by simp) (some ⟨w1.heap.size, 0, none⟩) 3 3 _ rfl hIS)
  generalize newF [-1, (x : Int), -1] = ds0 at *
  clear hx hr1 ht1 hIS hcx HR
  go_wp2_with fail
  refine HNW.out.mono ?_
  rintro e w2 ⟨v2, rfl, ho2, hb2⟩
  obtain ⟨A2, c2, rfl⟩ := ho2.form
  have HG2 : Hid (OG g A n c bs w (.slice A2 ds0.length c2) ds0.length ds0 (P + 1) w2) := ⟨hgw, HR1.out.step hb2, HF1.out.trans (Frd.of_below hb2 HF1.out.size), ho2.mono HF1.out.size (Nat.le_refl _), HV.out⟩
  clear ho2 hb2 HNW HR1 HF1 HV
  have HG3 := Lib.hid (HG2.out.alloc (.cells #[.int .i64 8, .int .i64 10, .int .i64 6, .int .i64 14, .int .i64 3, .int .i64 0] 3))
  have hg2 : g < w2.heap.size := HG2.out.rd.lt
  clear HG2
  go_wp2_with fail
  refine (one_any g A n c bs (P + 1) w2.heap.size 0 6 6 [8, 10, 6, 14, 3, 0] _ HG3.out.rd HN.out hby hs (by omega) rfl (by omega) (by omega) ?_ (by omega) (by simp)).mono ?_
  · intro j hj
    have : j = 0 ∨ j = 1 ∨ j = 2 ∨ j = 3 ∨ j = 4 ∨ j = 5 := by omega
    rcases this with rfl | rfl | rfl | rfl | rfl | rfl <;> go_simp
  rintro e w4 ⟨x4, rfl, hxm, hr4, ht4⟩
  obtain ⟨N, rfl, hN14⟩ : ∃ N : Nat, x4 = (N : Int) ∧ N ≤ 14 := by
    simp only [List.mem_cons, List.not_mem_nil, or_false] at hxm
    exact ⟨x4.toNat, by omega, by omega⟩
  have HG4 := Lib.hid (HG3.out.pick hr4 ht4)
  obtain ⟨l0, hl0⟩ : ∃ l0, l0 = ds0.length := ⟨_, rfl⟩
  rw [← hl0] at HG4
  rw [← hl0]
  clear hxm hr4 ht4 HG3 hl0
  go_wp2
  go_loopw [3, 4] (fun v u wr => ∃ (i m l : Nat) (ds : List On) (B : Option Addr) (cb : Nat), i + m = N ∧ u = .int .i64 m ∧ v = .slice B l cb ∧ Hid (OG g A n c bs w (.slice B l cb) l ds (P + 2 + 4 * i) wr)) (fun _ u _ => (intOf u).toNat)
  case atStart => exact ⟨0, N, l0, ds0, A2, c2, by omega, rfl, rfl, HG4.out⟩
  case round =>
    obtain ⟨i, m, l, ds, B, cb, him, rfl, rfl, HG⟩ := hrel
    clear HG4
    by_cases hm : 0 < m
    case neg =>
      have HK : Hid (GoP g A n c bs (P + 60) w (.returned (.slice B l cb)) wr) := ⟨B, l, cb, ds, rfl, HG.out.mono (by omega)⟩
      clear HG
      go_wp2
      go_ret
      exact HK.out
    obtain ⟨hl1, hl12⟩ := HG.out.len1
    go_wp2_with fail
    refine (pick_any g A n c bs (P + 2 + 4 * i) (l : Int) wr HG.out.rd HN.out hby hs (by omega) (by omega)).mono ?_
    rintro e w5 ⟨k, rfl, hk, _, hr5, ht5⟩
    have hkl : k < l := by have := hk (by omega); omega
    have HG5 := Lib.hid (HG.out.pick hr5 ht5)
    clear hk hr5 ht5 HG
    go_wp2_with fail
    refine (pick_any g A n c bs (P + 2 + 4 * i + 1) 8 w5 HG5.out.rd HN.out hby hs (by omega) (by omega)).mono ?_
    rintro e w6 ⟨x6, rfl, hx6, _, hr6, ht6⟩
    have HG6 := Lib.hid (HG5.out.pick hr6 ht6)
    have hx68 : x6 < 8 := by have := hx6 (by omega); omega
    clear hx6 hr6 ht6 HG5
    have hcase : x6 = 0 ∨ x6 = 1 ∨ x6 = 2 ∨ x6 = 3 ∨ x6 = 4 ∨ x6 = 5 ∨ x6 = 6 ∨ x6 = 7 := by omega
    clear hx68
    rcases hcase with rfl | rfl | rfl | rfl | rfl | rfl | rfl | rfl
    · skip
      have HC := Lib.hid (top_spec_OpenUnder ds (k : Int) HG6.out.ob B l cb w6 HG6.out.len (own_ncapP HG6.out.row) HG6.out.os)
      have HVV := Lib.hid fun (h : openB ds (k : Int) = true) => (by obtain ⟨e1, e2⟩ := valid_open h; rw [e1]; exact e2 : validO (openF ds (k : Int)) = true)
      generalize openF ds (k : Int) = F at *
      generalize openB ds (k : Int) = b at *
      go_wp2_with fail
      refine HC.out.mono ?_
      rintro e w9 ⟨v9, rfl, ho9, hb9⟩
      obtain ⟨A9, c9, rfl⟩ := ho9.form
      clear HC
      cases b
      · have HG9 := Lib.hid (HG6.out.below hb9)
        clear ho9 hb9 HG6 HVV
        go_wp2
        go_roundw
        case rel => exact ⟨i + 1, m - 1, l, ds, B, cb, by omega, by go_num, rfl, HG9.out.mono (by omega)⟩
        case measure => simp [intOf]; omega
      · have HG9 := Lib.hid (HG6.out.new ho9 hb9 (HVV.out rfl))
        obtain ⟨l9, hl9⟩ : ∃ l9, l9 = F.length := ⟨_, rfl⟩
        rw [← hl9] at HG9
        rw [← hl9]
        clear ho9 hb9 HG6 HVV hl9
        go_wp2
        go_roundw
        case rel => exact ⟨i + 1, m - 1, l9, F, A9, c9, by omega, by go_num, rfl, HG9.out.mono (by omega)⟩
        case measure => simp [intOf]; omega
    · skip
      have HC := Lib.hid (top_spec_OpenUnder ds (k : Int) HG6.out.ob B l cb w6 HG6.out.len (own_ncapP HG6.out.row) HG6.out.os)
      have HVV := Lib.hid fun (h : openB ds (k : Int) = true) => (by obtain ⟨e1, e2⟩ := valid_open h; rw [e1]; exact e2 : validO (openF ds (k : Int)) = true)
      generalize openF ds (k : Int) = F at *
      generalize openB ds (k : Int) = b at *
      go_wp2_with fail
      refine HC.out.mono ?_
      rintro e w9 ⟨v9, rfl, ho9, hb9⟩
      obtain ⟨A9, c9, rfl⟩ := ho9.form
      clear HC
      cases b
      · have HG9 := Lib.hid (HG6.out.below hb9)
        clear ho9 hb9 HG6 HVV
        go_wp2
        go_roundw
        case rel => exact ⟨i + 1, m - 1, l, ds, B, cb, by omega, by go_num, rfl, HG9.out.mono (by omega)⟩
        case measure => simp [intOf]; omega
      · have HG9 := Lib.hid (HG6.out.new ho9 hb9 (HVV.out rfl))
        obtain ⟨l9, hl9⟩ : ∃ l9, l9 = F.length := ⟨_, rfl⟩
        rw [← hl9] at HG9
        rw [← hl9]
        clear ho9 hb9 HG6 HVV hl9
        go_wp2
        go_roundw
        case rel => exact ⟨i + 1, m - 1, l9, F, A9, c9, by omega, by go_num, rfl, HG9.out.mono (by omega)⟩
        case measure => simp [intOf]; omega
    · skip
      have HC := Lib.hid (top_spec_OpenUnder ds (k : Int) HG6.out.ob B l cb w6 HG6.out.len (own_ncapP HG6.out.row) HG6.out.os)
      have HVV := Lib.hid fun (h : openB ds (k : Int) = true) => (by obtain ⟨e1, e2⟩ := valid_open h; rw [e1]; exact e2 : validO (openF ds (k : Int)) = true)
      generalize openF ds (k : Int) = F at *
      generalize openB ds (k : Int) = b at *
      go_wp2_with fail
      refine HC.out.mono ?_
      rintro e w9 ⟨v9, rfl, ho9, hb9⟩
      obtain ⟨A9, c9, rfl⟩ := ho9.form
      clear HC
      cases b
      · have HG9 := Lib.hid (HG6.out.below hb9)
        clear ho9 hb9 HG6 HVV
        go_wp2
        go_roundw
        case rel => exact ⟨i + 1, m - 1, l, ds, B, cb, by omega, by go_num, rfl, HG9.out.mono (by omega)⟩
        case measure => simp [intOf]; omega
      · have HG9 := Lib.hid (HG6.out.new ho9 hb9 (HVV.out rfl))
        obtain ⟨l9, hl9⟩ : ∃ l9, l9 = F.length := ⟨_, rfl⟩
        rw [← hl9] at HG9
        rw [← hl9]
        clear ho9 hb9 HG6 HVV hl9
        go_wp2
        go_roundw
        case rel => exact ⟨i + 1, m - 1, l9, F, A9, c9, by omega, by go_num, rfl, HG9.out.mono (by omega)⟩
        case measure => simp [intOf]; omega
    · skip
      go_wp2_with fail
      refine (pick_any g A n c bs (P + 2 + 4 * i + 1 + 1) 50 w6 HG6.out.rd HN.out hby hs (by omega) (by omega)).mono ?_
      rintro e w7 ⟨x7, rfl, _, _, hr7, ht7⟩
      have HG7 := Lib.hid (HG6.out.pick hr7 ht7)
      clear hr7 ht7 HG6
      have HC := Lib.hid (top_spec_AddCleanup ds (k : Int) (x7 : Int) HG7.out.ob B l cb w7 HG7.out.len (own_ncapP HG7.out.row) HG7.out.os)
      have HVV := Lib.hid fun (h : addB ds (k : Int) (x7 : Int) = true) => (by obtain ⟨k, e0, _, e1, e2⟩ := valid_add h; rw [e1]; exact e2 : validO (addF ds (k : Int) (x7 : Int)) = true)
      generalize addF ds (k : Int) (x7 : Int) = F at *
      generalize addB ds (k : Int) (x7 : Int) = b at *
      go_wp2_with fail
      refine HC.out.mono ?_
      rintro e w9 ⟨v9, rfl, ho9, hb9⟩
      obtain ⟨A9, c9, rfl⟩ := ho9.form
      clear HC
      cases b
      · have HG9 := Lib.hid (HG7.out.below hb9)
        clear ho9 hb9 HG7 HVV
        go_wp2
        go_roundw
        case rel => exact ⟨i + 1, m - 1, l, ds, B, cb, by omega, by go_num, rfl, HG9.out.mono (by omega)⟩
        case measure => simp [intOf]; omega
      · have HG9 := Lib.hid (HG7.out.new ho9 hb9 (HVV.out rfl))
        obtain ⟨l9, hl9⟩ : ∃ l9, l9 = F.length := ⟨_, rfl⟩
        rw [← hl9] at HG9
        rw [← hl9]
        clear ho9 hb9 HG7 HVV hl9
        go_wp2
        go_roundw
        case rel => exact ⟨i + 1, m - 1, l9, F, A9, c9, by omega, by go_num, rfl, HG9.out.mono (by omega)⟩
        case measure => simp [intOf]; omega
    · skip
      go_wp2_with fail
      refine (pick_any g A n c bs (P + 2 + 4 * i + 1 + 1) 50 w6 HG6.out.rd HN.out hby hs (by omega) (by omega)).mono ?_
      rintro e w7 ⟨x7, rfl, _, _, hr7, ht7⟩
      have HG7 := Lib.hid (HG6.out.pick hr7 ht7)
      clear hr7 ht7 HG6
      have HC := Lib.hid (top_spec_AddCleanup ds (k : Int) (x7 : Int) HG7.out.ob B l cb w7 HG7.out.len (own_ncapP HG7.out.row) HG7.out.os)
      have HVV := Lib.hid fun (h : addB ds (k : Int) (x7 : Int) = true) => (by obtain ⟨k, e0, _, e1, e2⟩ := valid_add h; rw [e1]; exact e2 : validO (addF ds (k : Int) (x7 : Int)) = true)
      generalize addF ds (k : Int) (x7 : Int) = F at *
      generalize addB ds (k : Int) (x7 : Int) = b at *
      go_wp2_with fail
      refine HC.out.mono ?_
      rintro e w9 ⟨v9, rfl, ho9, hb9⟩
      obtain ⟨A9, c9, rfl⟩ := ho9.form
      clear HC
      cases b
      · have HG9 := Lib.hid (HG7.out.below hb9)
        clear ho9 hb9 HG7 HVV
        go_wp2
        go_roundw
        case rel => exact ⟨i + 1, m - 1, l, ds, B, cb, by omega, by go_num, rfl, HG9.out.mono (by omega)⟩
        case measure => simp [intOf]; omega
      · have HG9 := Lib.hid (HG7.out.new ho9 hb9 (HVV.out rfl))
        obtain ⟨l9, hl9⟩ : ∃ l9, l9 = F.length := ⟨_, rfl⟩
        rw [← hl9] at HG9
        rw [← hl9]
        clear ho9 hb9 HG7 HVV hl9
        go_wp2
        go_roundw
        case rel => exact ⟨i + 1, m - 1, l9, F, A9, c9, by omega, by go_num, rfl, HG9.out.mono (by omega)⟩
        case measure => simp [intOf]; omega
    · skip
      go_wp2_with fail
      refine (pick_any g A n c bs (P + 2 + 4 * i + 1 + 1) 50 w6 HG6.out.rd HN.out hby hs (by omega) (by omega)).mono ?_
      rintro e w7 ⟨x7, rfl, _, _, hr7, ht7⟩
      have HG7 := Lib.hid (HG6.out.pick hr7 ht7)
      clear hr7 ht7 HG6
      have HC := Lib.hid (top_spec_AddCleanup ds (k : Int) (x7 : Int) HG7.out.ob B l cb w7 HG7.out.len (own_ncapP HG7.out.row) HG7.out.os)
      have HVV := Lib.hid fun (h : addB ds (k : Int) (x7 : Int) = true) => (by obtain ⟨k, e0, _, e1, e2⟩ := valid_add h; rw [e1]; exact e2 : validO (addF ds (k : Int) (x7 : Int)) = true)
      generalize addF ds (k : Int) (x7 : Int) = F at *
      generalize addB ds (k : Int) (x7 : Int) = b at *
      go_wp2_with fail
      refine HC.out.mono ?_
      rintro e w9 ⟨v9, rfl, ho9, hb9⟩
      obtain ⟨A9, c9, rfl⟩ := ho9.form
      clear HC
      cases b
      · have HG9 := Lib.hid (HG7.out.below hb9)
        clear ho9 hb9 HG7 HVV
        go_wp2
        go_roundw
        case rel => exact ⟨i + 1, m - 1, l, ds, B, cb, by omega, by go_num, rfl, HG9.out.mono (by omega)⟩
        case measure => simp [intOf]; omega
      · have HG9 := Lib.hid (HG7.out.new ho9 hb9 (HVV.out rfl))
        obtain ⟨l9, hl9⟩ : ∃ l9, l9 = F.length := ⟨_, rfl⟩
        rw [← hl9] at HG9
        rw [← hl9]
        clear ho9 hb9 HG7 HVV hl9
        go_wp2
        go_roundw
        case rel => exact ⟨i + 1, m - 1, l9, F, A9, c9, by omega, by go_num, rfl, HG9.out.mono (by omega)⟩
        case measure => simp [intOf]; omega
    · skip
      go_wp2_with fail
      refine (pick_any g A n c bs (P + 2 + 4 * i + 1 + 1) 3 w6 HG6.out.rd HN.out hby hs (by omega) (by omega)).mono ?_
      rintro e w7 ⟨x7, rfl, _, _, hr7, ht7⟩
      have HG7 := Lib.hid (HG6.out.pick hr7 ht7)
      clear hr7 ht7 HG6
      go_wp2_with fail
      refine (pick_any g A n c bs (P + 2 + 4 * i + 1 + 1 + 1) 50 w7 HG7.out.rd HN.out hby hs (by omega) (by omega)).mono ?_
      rintro e w8 ⟨x8, rfl, _, _, hr8, ht8⟩
      have HG8 := Lib.hid (HG7.out.pick hr8 ht8)
      clear hr8 ht8 HG7
      have HC := Lib.hid (top_spec_SetContext ds (k : Int) (x7 : Int) (x8 : Int) HG8.out.ob B l cb w8 HG8.out.len (own_ncapP HG8.out.row) HG8.out.os)
      have HVV := Lib.hid fun (h : ctxB ds (k : Int) (x7 : Int) (x8 : Int) = true) => (by obtain ⟨_, _, _, _, _, _, _, _, _, _, e1, e2⟩ := valid_ctx h; rw [e1]; exact e2 : validO (ctxF ds (k : Int) (x7 : Int) (x8 : Int)) = true)
      generalize ctxF ds (k : Int) (x7 : Int) (x8 : Int) = F at *
      generalize ctxB ds (k : Int) (x7 : Int) (x8 : Int) = b at *
      go_wp2_with fail
      refine HC.out.mono ?_
      rintro e w9 ⟨v9, rfl, ho9, hb9⟩
      obtain ⟨A9, c9, rfl⟩ := ho9.form
      clear HC
      cases b
      · have HG9 := Lib.hid (HG8.out.below hb9)
        clear ho9 hb9 HG8 HVV
        go_wp2
        go_roundw
        case rel => exact ⟨i + 1, m - 1, l, ds, B, cb, by omega, by go_num, rfl, HG9.out.mono (by omega)⟩
        case measure => simp [intOf]; omega
      · have HG9 := Lib.hid (HG8.out.new ho9 hb9 (HVV.out rfl))
        obtain ⟨l9, hl9⟩ : ∃ l9, l9 = F.length := ⟨_, rfl⟩
        rw [← hl9] at HG9
        rw [← hl9]
        clear ho9 hb9 HG8 HVV hl9
        go_wp2
        go_roundw
        case rel => exact ⟨i + 1, m - 1, l9, F, A9, c9, by omega, by go_num, rfl, HG9.out.mono (by omega)⟩
        case measure => simp [intOf]; omega
    · skip
      have HIO := Lib.hid (spec_isOpen B l cb ds (k : Int) w6 w6.heap.size (Nat.le_refl _) HG6.out.len HG6.out.os (by omega))
      have hop : (rng (k : Int) 0 ((l : Int) - 1) && opn ds (k : Int)) = opn ds (k : Int) := by rw [(rng_iff _ _ _).2 (by omega)]; rfl
      rw [hop] at HIO
      have HOP : Hid (opn ds (k : Int) = true → k ≠ 0 → dispB ds (k : Int) = true) := fun h h0 => by
        unfold dispB hasOpO hasO
        rw [HG6.out.va, h, ← HG6.out.len, (rng_iff _ _ _).2 (by omega), decide_eq_false (by omega)]; rfl
      generalize opn ds (k : Int) = ob at *
      clear hop
      go_wp2_with fail
      refine HIO.out.mono ?_
      rintro e w' ⟨rfl, rfl⟩
      clear HIO
      cases ob
      · go_wp2
        go_roundw
        case rel => exact ⟨i + 1, m - 1, l, ds, B, cb, by omega, by go_num, rfl, HG6.out.mono (by omega)⟩
        case measure => simp [intOf]; omega
      by_cases hk0 : 0 < k
      case neg =>
        have hkz : ¬ (0 : Int) < (k : Int) := by omega
        go_wp2
        go_roundw
        case rel => exact ⟨i + 1, m - 1, l, ds, B, cb, by omega, by go_num, rfl, HG6.out.mono (by omega)⟩
        case measure => simp [intOf]; omega
      have hkz : (0 : Int) < (k : Int) := by omega
      go_wp2_with fail
      refine (pick_any g A n c bs (P + 2 + 4 * i + 1 + 1) 2 w6 HG6.out.rd HN.out hby hs (by omega) (by omega)).mono ?_
      rintro e w7 ⟨x7, rfl, _, _, hr7, ht7⟩
      have HG7 := Lib.hid (HG6.out.pick hr7 ht7)
      have HDB := Lib.hid (HOP.out (by first | rfl | trivial) (by omega))
      clear hr7 ht7 HG6 HOP
      by_cases hz7 : x7 = 0
      case neg =>
        have e7 : ((x7 : Int) == 0) = false := by simp; omega
        clear hz7
        go_wp2
        go_roundw
        case rel => exact ⟨i + 1, m - 1, l, ds, B, cb, by omega, by go_num, rfl, HG7.out.mono (by omega)⟩
        case measure => simp [intOf]; omega
      have e7 : ((x7 : Int) == 0) = true := by simp [hz7]
      clear hz7
      have HC := Lib.hid (top_spec_DisposeOwner ds (k : Int) HG7.out.ob B l cb w7 HG7.out.len (own_ncapP HG7.out.row) HG7.out.os)
      have HVV : Hid (validO (dispF ds (k : Int)) = true) := by
        obtain ⟨_, _, _, _, _, _, e1, _, _, _, e2⟩ := valid_disp HDB.out
        show validO _ = true
        rw [e1]; exact e2
      generalize dispF ds (k : Int) = F at *
      generalize dispL ds (k : Int) = LL at *
      go_wp2_with fail
      refine HC.out.mono ?_
      rintro e w9 ⟨v9, u9, rfl, ho9, hu9, hb9⟩
      obtain ⟨A9, c9, rfl⟩ := ho9.form
      obtain ⟨A8, c8, rfl⟩ := own_form hu9
      have HG9 := Lib.hid (HG7.out.new ho9 hb9 HVV.out)
      obtain ⟨l9, hl9⟩ : ∃ l9, l9 = F.length := ⟨_, rfl⟩
      rw [← hl9] at HG9
      rw [← hl9]
      clear ho9 hb9 hu9 HG7 HVV hl9 HC HDB
      go_wp2
      go_roundw
      case rel => exact ⟨i + 1, m - 1, l9, F, A9, c9, by omega, by go_num, rfl, HG9.out.mono (by omega)⟩
      case measure => simp [intOf]; omega
end Go.Proofs.Ytkfglodjnnlbkaa

namespace Go.Proofs.Ytkfglodjnnlbkaa
set_option linter.unusedSimpArgs false
set_option linter.unusedVariables false
open Go.RowKit
/-- An append, perhaps of nothing, at a step of a region that draws its order. -/
theorem step_append_own_at {P : Program} (w : World) {ops : Array Oper} {o : Oper} {a : Act} {K : Act → World → Prop} {Q : Exit → Act → World → Prop} {E : Prop} (hgd : o.guard = none) (s x : Operand) (t : TypeId)
    (ho : o.op = .call { callee := .builtin .append, args := #[s, x], argTypes := #[t, t] })
    (base : Nat) (e : TypeId) (i : TypeInfo) (z : Value) (size bytes : Nat) (ht : P.underlying t = some (.slice e)) (hi : P.info? e = some i) (hz : i.zero = some z)
    (hsize : i.size = size) (hby : i.bytes = bytes) (hzs : z.cells.size = size) (hsz : 0 < size)
    (v : Value) (n : Nat) (xs : List Value) (hs : a.eval s = v) (hown : w.ownsRow base e size v n xs)
    (ad : Addr) (m c : Nat) (news : List Value) (hx : a.eval x = .slice (some ad) m c) (hl : news.length = m * size) (hnews : ∀ j u, news[j]? = some u → w.cell? (ad.add j) = some u) (h1 : ∀ u ∈ news, u.oneCell' = true)
    (h63 : n + m ≤ maxLen) (hbytes : (n + m) * bytes ≤ 140737488355328) (hbase : base ≤ w.heap.size)
    (h : ∀ v' w', w'.ownsRow base e size v' (n + m) (xs ++ news) → w.grownBy w' v.ownBlock → (v'.ownBlock = v.ownBlock ∨ v'.ownBlock = some w.heap.size) → K (a.put o.dst v') w') :
    if Region.wanted o (yielded ops a.tmps) = true then Oper.wp P o a w K Q else E := by
  obtain ⟨v', w', hr, h2, h3, h4, h5⟩ := run_append_own_at (P := P) w base t o.type e i z size bytes ht hi hz hsize hby hzs hsz v n xs hown ad m c news hl hnews h1 h63 hbytes hbase
  have hw : Oper.wp P o a w K Q := by
    unfold Oper.wp execOp
    simp only [ho, resolve, invoke, builtin, Sem.run_bind, Sem.run_pure, Result.andThen_ok, List.map_toArray, List.map_cons, List.map_nil, hs, hx, hr]
    exact h v' w' h2 h3 h5
  have hwt : Region.wanted o (yielded ops a.tmps) = true := by unfold Region.wanted; rw [hgd]
  rw [if_pos hwt]; exact hw
end Go.Proofs.Ytkfglodjnnlbkaa

namespace Go.Proofs.Ytkfglodjnnlbkaa
set_option linter.unusedSimpArgs false
set_option linter.unusedVariables false
open Go.RowKit
/-- A slice reads as owners, and goes on so while nothing from block lo on turns. -/
def KpO (lo : Nat) (A : Option Addr) (ds : List On) (w : World) : Prop := ∀ w' : World, w.heap.size ≤ w'.heap.size → (∀ k, lo ≤ k → k < w.heap.size → w'.heap[k]? = w.heap[k]?) → OS w' w'.heap.size A ds
theorem KpO.of {lo hi n c : Nat} {A : Option Addr} {ds : List On} {w : World} (h : OwO lo hi (.slice A n c) n ds w) (hle : hi ≤ w.heap.size) : KpO lo A ds w :=
  fun w' hs hk => (h.keep (w' := w') fun k h1 h2 => hk k h1 (by omega)).owners.more (by omega)
theorem KpO.os {lo : Nat} {A : Option Addr} {ds : List On} {w : World} (h : KpO lo A ds w) : OS w w.heap.size A ds := h w (Nat.le_refl _) (fun _ _ _ => rfl)
theorem KpO.pick {lo g : Nat} {A : Option Addr} {ds : List On} {w w' : World} (h : KpO lo A ds w) (ht : Tch g (g + 1) w w') (hg : g < lo) : KpO lo A ds w' :=
  fun w'' hs hk => h w'' (Nat.le_trans ht.size hs) fun k h1 h2 => (hk k h1 (Nat.lt_of_lt_of_le h2 ht.size)).trans (ht.block k h2 (.inr (by omega)))
theorem KpO.below {lo : Nat} {A : Option Addr} {ds : List On} {w w' : World} (h : KpO lo A ds w) (hb : Below w.heap.size w w') : KpO lo A ds w' :=
  fun w'' hs hk => h w'' (Nat.le_trans hb.size hs) fun k h1 h2 => (hk k h1 (Nat.lt_of_lt_of_le h2 hb.size)).trans (hb.block k h2)
/-- An owner's context begins behind its first value now. -/
theorem KpO.cut {lo hi n cap g gx m c k : Nat} {ds : List On} {w : World} {xs us : List Value} (hn : n = ds.length) (hr : OwR lo hi 30 4 (.slice (some ⟨g, 0, none⟩) n cap) n xs w) (hu : us.length = n * 2) (hf : OwF xs us ds) (hs : SSk lo hi us (lenOf (rowsO ds)) (rowOf (rowsO ds)) w) (hle : hi ≤ w.heap.size)
    (hk : k < n) (hX : us[k * 2 + 1]? = some (.slice (some ⟨gx, 0, none⟩) m c)) :
    KpO lo (some ⟨g, 0, none⟩) (ds.set k ⟨(ds.getD k default).p, (ds.getD k default).o, (ds.getD k default).cl, (ds.getD k default).cx.drop 1⟩) (w.setCell ⟨g, k * 4 + 3, none⟩ (.slice (some ⟨gx, 1, none⟩) (m - 1) (c - 1))) := by
  intro w' hsz hkeep
  have hxl : xs.length = n * 4 := hr.1.1
  have hst := hr.1.stored (k * 4 + 3) (.slice (some ⟨gx, 1, none⟩) (m - 1) (c - 1))
  have hkl : k < ds.length := by omega
  have hsz0 : (w.setCell ⟨g, k * 4 + 3, none⟩ (.slice (some ⟨gx, 1, none⟩) (m - 1) (c - 1))).heap.size = w.heap.size := by simp [World.setCell]
  rw [hsz0] at hsz hkeep
  have hr1 : OwR lo hi 30 4 (.slice (some ⟨g, 0, none⟩) n cap) n (xs.set (k * 4 + 3) (.slice (some ⟨gx, 1, none⟩) (m - 1) (c - 1))) w' := OwR.keep (w := w.setCell ⟨g, k * 4 + 3, none⟩ (.slice (some ⟨gx, 1, none⟩) (m - 1) (c - 1))) ⟨hst.1, hr.2⟩ fun q h1 h2 => hkeep q h1 (by omega)
  have hs1 := (hs.grown hst.2 (hs.ne hr.1 owner_ne_int.symm)).keep (w' := w') fun q h1 h2 => hkeep q h1 (by omega)
  intro hl
  rw [List.length_set] at hl
  have hg := hr.2 g rfl
  refine ⟨g, 0, rfl, by omega, fun j hj => ?_⟩
  rw [List.length_set] at hj
  obtain ⟨f0, f1, f2, f3⟩ := hf j hj
  obtain ⟨A1, m1, c1, a1, a2, a3⟩ := hs1.row (j * 2) (by omega)
  obtain ⟨A2, m2, c2, b1, b2, b3⟩ := hs1.row (j * 2 + 1) (by omega)
  rw [lenOfO, rowO_cl] at a2
  rw [lenOfO, rowO_cx] at b2
  rw [rowOfO, rowO_cl] at a3
  rw [rowOfO, rowO_cx] at b3
  rw [getD_set ds k j _ hkl]
  have c0 : w'.cell? ⟨g, j * 4, none⟩ = some (.int .i64 (ds.getD j default).p) := by rw [hr1.1.cellAt _ (by omega), List.getElem?_set, if_neg (by omega)]; exact f0
  have d1 : w'.cell? ⟨g, j * 4 + 1, none⟩ = some (.bool (ds.getD j default).o) := by rw [hr1.1.cellAt _ (by omega), List.getElem?_set, if_neg (by omega)]; exact f1
  have d2 : w'.cell? ⟨g, j * 4 + 2, none⟩ = some (.slice A1 m1 c1) := by rw [hr1.1.cellAt _ (by omega), List.getElem?_set, if_neg (by omega)]; exact f2.trans a1
  have hcl : ∃ A n c, w'.cell? ⟨g, 0 + j * 4 + 2, none⟩ = some (.slice A n c) ∧ n = (ds.getD j default).cl.length ∧ IS w' w'.heap.size A (ds.getD j default).cl := ⟨A1, m1, c1, by rw [Nat.zero_add]; exact d2, a2, a3.ints.more (by omega)⟩
  by_cases ej : j = k
  · subst ej
    rw [if_pos rfl]
    rw [hX] at b1
    cases b1
    refine ⟨by rw [Nat.zero_add]; exact c0, by rw [Nat.zero_add]; exact d1, hcl, some ⟨gx, 1, none⟩, m - 1, c - 1, ?_, by rw [List.length_drop, ← b2], fun h0 => ?_⟩
    · rw [Nat.zero_add, hr1.1.cellAt _ (by omega), List.getElem?_set, if_pos rfl, if_pos (by omega)]
    · rw [List.length_drop] at h0
      obtain ⟨b', off', e, hb', hc'⟩ := b3.ints (by omega)
      cases e
      refine ⟨gx, 1, rfl, by omega, fun i hi => ?_⟩
      rw [List.length_drop] at hi
      have := hc' (i + 1) (by omega)
      rw [show 0 + (i + 1) = 1 + i by omega] at this
      rw [this]
      simp [List.getD, List.getElem?_drop, Nat.add_comm]
  · rw [if_neg ej]
    refine ⟨by rw [Nat.zero_add]; exact c0, by rw [Nat.zero_add]; exact d1, hcl, A2, m2, c2, ?_, b2, b3.ints.more (by omega)⟩
    rw [Nat.zero_add, hr1.1.cellAt _ (by omega), List.getElem?_set, if_neg (by omega)]; exact f3.trans b1
/-- Returns owners that may be invalid; the reader goes on. -/
def SoP (g : Nat) (A : Option Addr) (n c : Nat) (bs : List Int) (Q : Nat) (w : World) (e : Ending) (w' : World) : Prop :=
  ∃ (B : Option Addr) (l m : Nat) (ds : List On), e = .returned (.slice B l m) ∧ l = ds.length ∧ 1 ≤ l ∧ l ≤ 12 ∧ l ≤ m ∧ (∀ j, (ds.getD j default).cl.length ≤ 6 ∧ (ds.getD j default).cx.length ≤ 3) ∧ KpO w.heap.size B ds w' ∧ Rdr g A n c bs Q w' ∧ Frd g w.heap.size w w'
theorem below_drew (w : World) : Below w.heap.size w w.drew := ⟨rfl, rfl, rfl, Nat.le_refl _, fun _ _ => rfl⟩
theorem set_lens {ds : List On} {k : Nat} {d : On} (hk : k < ds.length) (h : ∀ j, (ds.getD j default).cl.length ≤ 5 ∧ (ds.getD j default).cx.length ≤ 3) (h1 : d.cl.length ≤ 6) (h2 : d.cx.length ≤ 3) : ∀ j, ((ds.set k d).getD j default).cl.length ≤ 6 ∧ ((ds.set k d).getD j default).cx.length ≤ 3 := fun j => by
  rw [getD_set ds k j d hk]
  by_cases e : j = k
  · rw [if_pos e]; exact ⟨h1, h2⟩
  · rw [if_neg e]; have := h j; omega
section
variable {g n c l m P Q : Nat} {A B : Option Addr} {bs : List Int} {ds es : List On} {w0 w : World}
theorem OG.lens {v : Value} (h : OG g A n c bs w0 v l ds P w) : ∀ j, (ds.getD j default).cl.length ≤ 5 ∧ (ds.getD j default).cx.length ≤ 3 := fun j => by have := okO_len h.va j; omega
theorem OG.fin (h : OG g A n c bs w0 (.slice B l m) l ds P w) (hP : P ≤ Q) : SoP g A n c bs Q w0 (.returned (.slice B l m)) w :=
  ⟨B, l, m, ds, rfl, h.len, h.len1.1, h.len1.2, own_ncapP h.row, fun j => by have := h.lens j; omega, KpO.of h.row (Nat.le_refl _), h.rd.mono hP, h.fr⟩
end
set_option maxRecDepth 100000 in
set_option maxHeartbeats 12800000 in
theorem someOwners_any (g : Nat) (A : Option Addr) (n c : Nat) (bs : List Int) (P : Nat) (w : World) (h : Rdr g A n c bs P w) (hn : n = bs.length) (hby : BY bs) (hs : n ≤ 2000) (hP : P ≤ 400000) :
    Calls Try.prog 41 #[.pointer (some ⟨g, 0, none⟩)] w fun e w' => SoP g A n c bs (P + 64) w e w' := by
  obtain ⟨i0, hi, hz0, hz1, hz2⟩ := info_parts info_int
  have hgw := h.lt
  have HN := Lib.hid hn
  have HC := Lib.hid (goodOwners_any g A n c bs P w h hn hby hs hP)
  clear h hn
  go_enter Try.func41, Try.ntmps41
  go_wp2_with fail
  refine HC.out.mono ?_
  rintro e w1 ⟨B, l, cap, ds, rfl, hg1⟩
  obtain ⟨hl1, hl12⟩ := hg1.len1
  obtain ⟨gr, cap, hB⟩ : ∃ gr cap', Value.slice B l cap = .slice (some ⟨gr, 0, none⟩) l cap' := by
    obtain ⟨_, xs, us, h1, _⟩ := hg1.row
    exact row_form2 h1.1 (by omega)
  cases hB
  have HG1 := Lib.hid hg1
  clear hg1 HC
  go_wp2_with fail
  refine (pick_any g A n c bs (P + 60) (l : Int) w1 HG1.out.rd HN.out hby hs (by omega) (by omega)).mono ?_
  rintro e w2 ⟨k, rfl, hk, _, hr2, ht2⟩
  have hkl : k < l := by have := hk (by omega); omega
  have HG2 := Lib.hid (HG1.out.pick hr2 ht2)
  clear hk hr2 ht2 HG1
  go_wp2_with fail
  refine (pick_any g A n c bs (P + 60 + 1) 24 w2 HG2.out.rd HN.out hby hs (by omega) (by omega)).mono ?_
  rintro e w3 ⟨x3, rfl, _, _, hr3, ht3⟩
  have HG3 := Lib.hid (HG2.out.pick hr3 ht3)
  clear hr3 ht3 HG2
  have hkn : (k : Int) < (l : Int) := by omega
  have hkd : k < ds.length := by have := HG3.out.len; omega
  have hwg : w.heap.size ≤ gr ∧ gr < w3.heap.size := by
    obtain ⟨_, xs, us, h1, _⟩ := HG3.out.row
    exact h1.1.lt gr rfl
  by_cases h0 : x3 = 0
  · have e0 : ((x3 : Int) == 0) = true := by simp [h0]
    have HG4 := Lib.hid (HG3.out.alloc (.cells #[.int .i64 (-2), .int .i64 (k : Int), .int .i64 12] 3))
    have hg3 : g < w3.heap.size := HG3.out.rd.lt
    clear HG3 h0
    go_wp2_with fail
    refine (one_any g A n c bs (P + 60 + 1 + 1) w3.heap.size 0 3 3 [-2, (k : Int), 12] _ HG4.out.rd HN.out hby hs (by omega) rfl (by omega) (by omega) ?_ (by omega) (by simp)).mono ?_
    · intro j hj
      have : j = 0 ∨ j = 1 ∨ j = 2 := by omega
      rcases this with rfl | rfl | rfl <;> go_simp
    rintro e w5 ⟨x5, rfl, _, hr5, ht5⟩
    have HG5 := Lib.hid (HG4.out.pick hr5 ht5)
    have hg5 : gr < w5.heap.size := by have := ht5.size; simp at this; omega
    obtain ⟨b', off', eo, _, q0, _, _, _⟩ := HG5.out.os.at_ k hkd
    cases eo
    have fz : w5.frozen? ⟨gr, k * 4, none⟩ = false := by obtain ⟨_, xs, us, h1, _⟩ := HG5.out.row; exact h1.1.frozenAt _
    have u0 : w5.cell? ⟨gr, k * 4, none⟩ = some (.int .i64 (ds.getD k default).p) := by simpa using q0
    have HOW : Hid (OwO w.heap.size w5.heap.size (.slice (some ⟨gr, 0, none⟩) l cap) l (ds.set k ⟨x5, (ds.getD k default).o, (ds.getD k default).cl, (ds.getD k default).cx⟩) (w5.setCell ⟨gr, k * 4, none⟩ (.int .i64 x5))) := HG5.out.row.setHead (e := 0) hkl (by omega) rfl rfl (.inl ⟨rfl, rfl, rfl⟩)
    have HK : Hid (SoP g A n c bs (P + 64) w (.returned (.slice (some ⟨gr, 0, none⟩) l cap)) (w5.setCell ⟨gr, k * 4, none⟩ (.int .i64 x5))) :=
      ⟨_, l, cap, ds.set k ⟨x5, (ds.getD k default).o, (ds.getD k default).cl, (ds.getD k default).cx⟩, rfl, by rw [List.length_set]; exact HG5.out.len, hl1, hl12, own_ncapP HG5.out.row, set_lens hkd HG5.out.lens (show (ds.getD k default).cl.length ≤ 6 by have := HG5.out.lens k; omega) (HG5.out.lens k).2, KpO.of HOW.out (by simp [World.setCell]), (HG5.out.rd.mono (by omega)).turn (Tch.setIn (Tch.refl gr (gr + 1) w5) (Nat.le_refl _) (Nat.lt_succ_self _) _) (by have := HG5.out.gw; omega), HG5.out.fr.trans (Frd.of_below ((Below.refl w.heap.size w5).setCell (p := ⟨gr, k * 4, none⟩) hwg.1 _) (Nat.le_refl _))⟩
    generalize (ds.getD k default).p = px at u0
    clear q0 HOW HG5 HG4 hr5 ht5
    go_wp2
    go_ret
    exact HK.out
  have e0 : ((x3 : Int) == 0) = false := by simp; omega
  by_cases h1 : x3 = 1
  · have e1 : ((x3 : Int) == 1) = true := by simp [h1]
    clear h0 h1
    have HG4 := Lib.hid (HG3.out.below (below_drew w3))
    have hg3 : g < w3.drew.heap.size := HG3.out.rd.lt
    obtain ⟨b', off', eo, _, _, _, ⟨A7, m7, c7, q2, hm7, _⟩, _⟩ := HG4.out.os.at_ k hkd
    cases eo
    have u0 : w3.drew.cell? ⟨gr, k * 4 + 2, none⟩ = some (.slice A7 m7 c7) := by simpa using q2
    have hm75 : m7 ≤ 5 := by have := (HG4.out.lens k).1; omega
    have hgw3 : g < w.heap.size := HG3.out.gw
    have hgr3 : gr < w3.drew.heap.size := hwg.2
    have u0w : w3.cell? ⟨gr, k * 4 + 2, none⟩ = some (.slice A7 m7 c7) := u0
    have hgr3w : gr < w3.heap.size := hwg.2
    clear HG3 q2 hm7
    go_wp2
    refine wp_region_held_drew (S := fun _ => True) (by kernel_rfl) trivial (fun hHeld => ?_)
    refine wpAnyH_take (i := 0) (oi := ⟨some 25, _, _, _, _, _⟩) (v := ?_) rfl (by kernel_rfl) (by kernel_rfl) (by kernel_rfl) (fun _ _ _ h => h) (Or.inl ⟨by rfl, ?_⟩) (by assumption) ?_; rotate_left; (focus (intro w hSw; (try dsimp only at hSw); go_simp; (try with_reducible rfl))); (try simp only [Act.put, List.setIfInBounds_toArray, List.set_cons_zero, List.set_cons_succ])
    refine wpAnyH_take (i := 1) (oi := ⟨some 26, _, _, _, _, _⟩) (v := ?_) rfl (by kernel_rfl) (by kernel_rfl) (by kernel_rfl) (fun _ _ _ h => h) (Or.inl ⟨by rfl, ?_⟩) (by assumption) ?_; rotate_left; (focus (intro w hSw; (try dsimp only at hSw); go_simp; (try with_reducible rfl))); (try simp only [Act.put, List.setIfInBounds_toArray, List.set_cons_zero, List.set_cons_succ])
    refine wpAnyH_take (i := 2) (oi := ⟨some 27, _, _, _, _, _⟩) (v := ?_) rfl (by kernel_rfl) (by kernel_rfl) (by kernel_rfl) (fun _ _ _ h => h) (Or.inl ⟨by rfl, ?_⟩) (by assumption) ?_; rotate_left; (focus (intro w hSw; (try dsimp only at hSw); go_simp; (try with_reducible rfl))); (try simp only [Act.put, List.setIfInBounds_toArray, List.set_cons_zero, List.set_cons_succ])
    refine wpAnyH_take (i := 3) (oi := ⟨some 28, _, _, _, _, _⟩) (v := ?_) rfl (by kernel_rfl) (by kernel_rfl) (by kernel_rfl) (fun _ _ _ h => h) (Or.inl ⟨by rfl, ?_⟩) (by assumption) ?_; rotate_left; (focus (intro w hSw; (try dsimp only at hSw); go_simp; (try with_reducible rfl))); (try simp only [Act.put, List.setIfInBounds_toArray, List.set_cons_zero, List.set_cons_succ])
    refine wpAnyH_take (i := 4) (oi := ⟨some 29, _, _, _, _, _⟩) (v := ?_) rfl (by kernel_rfl) (by kernel_rfl) (by kernel_rfl) (fun _ _ _ h => h) (Or.inl ⟨by rfl, ?_⟩) (by assumption) ?_; rotate_left; (focus (intro w hSw; (try dsimp only at hSw); go_simp; (try with_reducible rfl))); (try simp only [Act.put, List.setIfInBounds_toArray, List.set_cons_zero, List.set_cons_succ])
    refine wpAnyH_take (i := 5) (oi := ⟨some 30, _, _, _, _, _⟩) (v := ?_) rfl (by kernel_rfl) (by kernel_rfl) (by kernel_rfl) (fun _ _ _ h => h) (Or.inl ⟨by rfl, ?_⟩) (by assumption) ?_; rotate_left; (focus (intro w hSw; (try dsimp only at hSw); go_simp; (try with_reducible rfl))); (try simp only [Act.put, List.setIfInBounds_toArray, List.set_cons_zero, List.set_cons_succ])
    refine wpAnyH_take (i := 7) (oi := ⟨some 32, _, _, _, _, _⟩) (v := ?_) rfl (by kernel_rfl) (by kernel_rfl) (by kernel_rfl) (fun _ _ _ h => h) (Or.inl ⟨by rfl, ?_⟩) (by assumption) ?_; rotate_left; (focus (intro w hSw; (try dsimp only at hSw); go_simp; (try with_reducible rfl))); (try simp only [Act.put, List.setIfInBounds_toArray, List.set_cons_zero, List.set_cons_succ])
    refine wpAnyH_ready (rs := [6, 8]) (by kernel_rfl) (by simp) ?_; refine AllReadyH.cons (o := ⟨some 31, _, _, _, _, _⟩) rfl (fun K hK => ?_) (AllReadyH.cons (o := ⟨some 33, _, _, _, _, _⟩) rfl (fun K hK => ?_) AllReadyH.nil)
    · go_simp
      refine hK.out _ _ trivial (fun hHeld => ?_); clear hK K; (try simp only [Act.put, List.setIfInBounds_toArray, List.set_cons_zero, List.set_cons_succ])
      refine wpAnyH_ready (rs := [8]) (by kernel_rfl) (by simp) ?_; refine AllReadyH.cons (o := ⟨some 33, _, _, _, _, _⟩) rfl (fun K hK => ?_) AllReadyH.nil; go_simp
      have HG1a := Lib.hid (HG4.out.alloc (.cells #[.int .i64 (-1), .int .i64 51, .int .i64 1] 3))
      have u1a : (w3.drew.alloc (.cells #[.int .i64 (-1), .int .i64 51, .int .i64 1] 3)).cell? ⟨gr, k * 4 + 2, none⟩ = some (.slice A7 m7 c7) := ((below_new w3.drew _).cell (p := ⟨gr, k * 4 + 2, none⟩) hgr3).trans u0
      refine hK.out _ _ trivial (fun hHeld => ?_); clear hK K; (try simp only [Act.put, List.setIfInBounds_toArray, List.set_cons_zero, List.set_cons_succ])
      refine wpAnyH_ready (rs := [9]) (by kernel_rfl) (by simp) ?_; refine AllReadyH.cons (o := ⟨some 34, _, _, _, _, _⟩) rfl (fun K hK => ?_) AllReadyH.nil; go_simp
      go_at_call 53
      refine (one_any g A n c bs (P + 60 + 1 + 1) w3.drew.heap.size 0 3 3 [-1, 51, 1] (w3.drew.alloc (.cells #[.int .i64 (-1), .int .i64 51, .int .i64 1] 3)) HG1a.out.rd HN.out hby hs (by omega) rfl (by omega) (by omega) ?_ (by omega) (by simp)).mono ?_
      · intro j hj
        have : j = 0 ∨ j = 1 ∨ j = 2 := by omega
        rcases this with rfl | rfl | rfl <;> go_simp
      rintro e w9 ⟨x9, rfl, _, hr9, ht9⟩
      have HG2a := Lib.hid (HG1a.out.pick hr9 ht9)
      have hgr9 : gr < w9.heap.size := by have := ht9.size; simp at this; have := hwg.2; omega
      have u2a : w9.cell? ⟨gr, k * 4 + 2, none⟩ = some (.slice A7 m7 c7) := (World.cell?_of_block (a := ⟨gr, k * 4 + 2, none⟩) (ht9.block gr (by simp; have := hwg.2; omega) (.inr (by omega)))).trans u1a
      clear hr9 ht9
      refine hK.out _ _ trivial (fun hHeld => ?_); clear hK K; (try simp only [Act.put, List.setIfInBounds_toArray, List.set_cons_zero, List.set_cons_succ])
      refine wpAnyH_ready (rs := [10]) (by kernel_rfl) (by simp) ?_; refine AllReadyH.cons (o := ⟨some 35, _, _, _, _, _⟩) rfl (fun K hK => ?_) AllReadyH.nil; go_simp
      have u3a : (w9.alloc (.cells #[.int .i64 x9] 3)).cell? ⟨gr, k * 4 + 2, none⟩ = some (.slice A7 m7 c7) := ((below_new w9 _).cell (p := ⟨gr, k * 4 + 2, none⟩) hgr9).trans u2a
      refine hK.out _ _ trivial (fun hHeld => ?_); clear hK K; (try simp only [Act.put, List.setIfInBounds_toArray, List.set_cons_zero, List.set_cons_succ])
      obtain ⟨hln, xs, us, hr, hul, hf, hss⟩ := HG2a.out.row
      have hxl : xs.length = l * 4 := hr.1.1
      obtain ⟨-, -, f2, f3⟩ := hf k hkd
      obtain ⟨A5, m5, c5, r1, r2, r3⟩ := hss.row (k * 2) (by omega)
      have hx5 := (hr.1.cellAt (k * 4 + 2) (by omega)).trans (f2.trans r1)
      have he5 := hx5.symm.trans u2a
      simp only [Option.some.injEq, Value.slice.injEq] at he5
      obtain ⟨rfl, rfl, rfl⟩ := he5
      rw [lenOfO, rowO_cl] at r2
      rw [rowOfO, rowO_cl] at r3
      have hs9 := HG2a.out.fr.size
      refine wpAnyH_ready (rs := [11]) (by kernel_rfl) (by simp) ?_; refine AllReadyH.cons (o := ⟨some 36, _, _, _, _, _⟩) rfl (fun K hK => ?_) AllReadyH.nil
      refine step_append_own_at _ (by rfl) _ _ _ (by rfl) w.heap.size 3 i0 (.int .i64 0) 1 8 Try.underlying26 hi hz0 hz1 hz2 rfl (by omega) (.slice A5 m5 c5) m5 ((ds.getD k default).cl.map (Value.int .i64)) (by rfl) (r3.1.alloc (.cells #[.int .i64 x9] 3)) ⟨w9.heap.size, 0, none⟩ 1 1 [.int .i64 x9] (by rfl) rfl (cell_one_new _ _ _) (by intro u hu; simp at hu; subst hu; rfl) (by unfold maxLen; omega) (by omega) (by simp; omega) ?_
      intro v6 w10 hown6 hgrow6 hblk6
      obtain ⟨A6, c6, rfl⟩ := own_form hown6
      have hz10 := hgrow6.size
      have hz10' : w9.heap.size + 1 ≤ w10.heap.size := by simpa using hz10
      have hr10 : OwR w.heap.size w9.heap.size 30 4 (.slice (some ⟨gr, 0, none⟩) l cap) l xs w10 := ⟨(hr.1.alloc _).kept hgrow6 (blocks_ne (hr.1.alloc (.cells #[.int .i64 x9] 3)) (r3.1.alloc (.cells #[.int .i64 x9] 3)) owner_ne_int), hr.2⟩
      have hpos := (r3.1.alloc (.cells #[.int .i64 x9] 3)).lt
      have hssg : SSk w.heap.size w10.heap.size (us.set (k * 2) (.slice A6 (m5 + 1) c6)) (lenOf (rowsO (ds.set k (withCl ds k x9)))) (rowOf (rowsO (ds.set k (withCl ds k x9)))) w10 := by
        refine SSk.grow (w := w9.alloc (.cells #[.int .i64 x9] 3)) (hi := w9.heap.size) (hss.keep fun q _ hq => ((Below.refl w9.heap.size w9).alloc (Nat.le_refl _) _).block q hq) (by simp) r1 hgrow6 hown6 (by rw [World.size_alloc]; simpa using hblk6) ?_ ?_ fun j hj => ?_
        · rw [lenOfO, rowO_set ds k _ hkd, if_pos rfl]; simp only [withCl, List.length_append, List.length_singleton]; rw [← r2]
        · rw [rowOfO, rowO_set ds k _ hkd, if_pos rfl]; simp only [withCl, List.map_append, List.map_cons, List.map_nil]; try rfl
        · rw [lenOfO, rowOfO, rowO_set ds k _ hkd, if_neg hj]
          by_cases e5 : j = k * 2 + 1
          · rw [if_pos e5, lenOfO, rowOfO, e5, rowO_cx]; exact ⟨rfl, rfl⟩
          · rw [if_neg e5, lenOfO, rowOfO]; exact ⟨rfl, rfl⟩
      have hfin := OwO.field (e := 0) (lo := w.heap.size) (top := w10.heap.size) (d' := withCl ds k x9) (by omega) hln hr10 hul hf hkl (by simpa using hssg) rfl rfl (by omega)
      have hbb : Below w.heap.size w9 w10 := ((Below.refl w.heap.size w9).alloc hs9 (.cells #[.int .i64 x9] 3)).grown hgrow6 (by simp; omega) (fun q hq => (hpos q hq).1)
      have d2 := hr10.1.cellAt (k * 4 + 2) (by omega)
      rw [List.getElem?_eq_getElem (by omega)] at d2
      have e2 := hr10.1.frozenAt (k * 4 + 2)
      generalize xs[k * 4 + 2]'(by omega) = v2 at d2
      have hg10 : gr < w10.heap.size := by omega
      have HK : Hid (SoP g A n c bs (P + 64) w (.returned (.slice (some ⟨gr, 0, none⟩) l cap)) (w10.setCell ⟨gr, k * 4 + 2, none⟩ (.slice A6 (m5 + 1) c6))) :=
        ⟨_, l, cap, ds.set k (withCl ds k x9), rfl, by rw [List.length_set]; exact HG2a.out.len, hl1, hl12, own_ncapP HG2a.out.row, set_lens hkd HG2a.out.lens (by show ((ds.getD k default).cl ++ [x9]).length ≤ 6; rw [List.length_append, ← r2, List.length_singleton]; omega) (HG2a.out.lens k).2, KpO.of hfin (by simp [World.setCell]), ((HG2a.out.rd.mono (by omega)).turn (Tch.of_below' hbb) hgw3).turn (Tch.setIn (Tch.refl gr (gr + 1) w10) (Nat.le_refl _) (Nat.lt_succ_self _) _) (by omega), (HG2a.out.fr.trans (Frd.of_below hbb (Nat.le_refl _))).trans (Frd.of_below ((Below.refl w.heap.size w10).setCell (p := ⟨gr, k * 4 + 2, none⟩) hwg.1 _) (Nat.le_refl _))⟩
      clear hfin hbb hpos hssg hr10 hown6 hgrow6 hblk6 hz10 hss hf hr r1 r2 r3 f2 f3 hx5 HG2a hln hul hxl
      refine hK.out _ _ trivial (fun hHeld => ?_); clear hK K; (try simp only [Act.put, List.setIfInBounds_toArray, List.set_cons_zero, List.set_cons_succ])
      refine wpAnyH_take (i := 12) (oi := ⟨some 37, _, _, _, _, _⟩) (v := ?_) rfl (by kernel_rfl) (by kernel_rfl) (by kernel_rfl) (fun _ _ _ h => h) (Or.inl ⟨by rfl, ?_⟩) (by assumption) ?_; rotate_left; (focus (intro w hSw; (try dsimp only at hSw); go_simp; (try with_reducible rfl))); (try simp only [Act.put, List.setIfInBounds_toArray, List.set_cons_zero, List.set_cons_succ])
      refine wpAnyH_take (i := 13) (oi := ⟨some 38, _, _, _, _, _⟩) (v := ?_) rfl (by kernel_rfl) (by kernel_rfl) (by kernel_rfl) (fun _ _ _ h => h) (Or.inl ⟨by rfl, ?_⟩) (by assumption) ?_; rotate_left; (focus (intro w hSw; (try dsimp only at hSw); go_simp; (try with_reducible rfl))); (try simp only [Act.put, List.setIfInBounds_toArray, List.set_cons_zero, List.set_cons_succ])
      refine wpAnyH_ready (rs := [14]) (by kernel_rfl) (by simp) ?_; refine AllReadyH.cons (o := ⟨none, _, _, _, _, _⟩) rfl (fun K hK => ?_) AllReadyH.nil; go_simp
      refine hK.out _ _ trivial (fun hHeld => ?_); clear hK K; (try simp only [Act.put, List.setIfInBounds_toArray, List.set_cons_zero, List.set_cons_succ])
      refine wpAnyH_done (by kernel_rfl) ?_ _
      go_wp2
      go_ret
      exact HK.out
    · skip
      go_simp
      have HG1a := Lib.hid (HG4.out.alloc (.cells #[.int .i64 (-1), .int .i64 51, .int .i64 1] 3))
      have u1a : (w3.drew.alloc (.cells #[.int .i64 (-1), .int .i64 51, .int .i64 1] 3)).cell? ⟨gr, k * 4 + 2, none⟩ = some (.slice A7 m7 c7) := ((below_new w3.drew _).cell (p := ⟨gr, k * 4 + 2, none⟩) hgr3).trans u0
      refine hK.out _ _ trivial (fun hHeld => ?_); clear hK K; (try simp only [Act.put, List.setIfInBounds_toArray, List.set_cons_zero, List.set_cons_succ])
      refine wpAnyH_ready (rs := [6, 9]) (by kernel_rfl) (by simp) ?_; refine AllReadyH.cons (o := ⟨some 31, _, _, _, _, _⟩) rfl (fun K hK => ?_) (AllReadyH.cons (o := ⟨some 34, _, _, _, _, _⟩) rfl (fun K hK => ?_) AllReadyH.nil)
      · go_simp
        refine hK.out _ _ trivial (fun hHeld => ?_); clear hK K; (try simp only [Act.put, List.setIfInBounds_toArray, List.set_cons_zero, List.set_cons_succ])
        refine wpAnyH_ready (rs := [9]) (by kernel_rfl) (by simp) ?_; refine AllReadyH.cons (o := ⟨some 34, _, _, _, _, _⟩) rfl (fun K hK => ?_) AllReadyH.nil; go_simp
        go_at_call 53
        refine (one_any g A n c bs (P + 60 + 1 + 1) w3.drew.heap.size 0 3 3 [-1, 51, 1] (w3.drew.alloc (.cells #[.int .i64 (-1), .int .i64 51, .int .i64 1] 3)) HG1a.out.rd HN.out hby hs (by omega) rfl (by omega) (by omega) ?_ (by omega) (by simp)).mono ?_
        · intro j hj
          have : j = 0 ∨ j = 1 ∨ j = 2 := by omega
          rcases this with rfl | rfl | rfl <;> go_simp
        rintro e w9 ⟨x9, rfl, _, hr9, ht9⟩
        have HG2a := Lib.hid (HG1a.out.pick hr9 ht9)
        have hgr9 : gr < w9.heap.size := by have := ht9.size; simp at this; have := hwg.2; omega
        have u2a : w9.cell? ⟨gr, k * 4 + 2, none⟩ = some (.slice A7 m7 c7) := (World.cell?_of_block (a := ⟨gr, k * 4 + 2, none⟩) (ht9.block gr (by simp; have := hwg.2; omega) (.inr (by omega)))).trans u1a
        clear hr9 ht9
        refine hK.out _ _ trivial (fun hHeld => ?_); clear hK K; (try simp only [Act.put, List.setIfInBounds_toArray, List.set_cons_zero, List.set_cons_succ])
        refine wpAnyH_ready (rs := [10]) (by kernel_rfl) (by simp) ?_; refine AllReadyH.cons (o := ⟨some 35, _, _, _, _, _⟩) rfl (fun K hK => ?_) AllReadyH.nil; go_simp
        have u3a : (w9.alloc (.cells #[.int .i64 x9] 3)).cell? ⟨gr, k * 4 + 2, none⟩ = some (.slice A7 m7 c7) := ((below_new w9 _).cell (p := ⟨gr, k * 4 + 2, none⟩) hgr9).trans u2a
        refine hK.out _ _ trivial (fun hHeld => ?_); clear hK K; (try simp only [Act.put, List.setIfInBounds_toArray, List.set_cons_zero, List.set_cons_succ])
        obtain ⟨hln, xs, us, hr, hul, hf, hss⟩ := HG2a.out.row
        have hxl : xs.length = l * 4 := hr.1.1
        obtain ⟨-, -, f2, f3⟩ := hf k hkd
        obtain ⟨A5, m5, c5, r1, r2, r3⟩ := hss.row (k * 2) (by omega)
        have hx5 := (hr.1.cellAt (k * 4 + 2) (by omega)).trans (f2.trans r1)
        have he5 := hx5.symm.trans u2a
        simp only [Option.some.injEq, Value.slice.injEq] at he5
        obtain ⟨rfl, rfl, rfl⟩ := he5
        rw [lenOfO, rowO_cl] at r2
        rw [rowOfO, rowO_cl] at r3
        have hs9 := HG2a.out.fr.size
        refine wpAnyH_ready (rs := [11]) (by kernel_rfl) (by simp) ?_; refine AllReadyH.cons (o := ⟨some 36, _, _, _, _, _⟩) rfl (fun K hK => ?_) AllReadyH.nil
        refine step_append_own_at _ (by rfl) _ _ _ (by rfl) w.heap.size 3 i0 (.int .i64 0) 1 8 Try.underlying26 hi hz0 hz1 hz2 rfl (by omega) (.slice A5 m5 c5) m5 ((ds.getD k default).cl.map (Value.int .i64)) (by rfl) (r3.1.alloc (.cells #[.int .i64 x9] 3)) ⟨w9.heap.size, 0, none⟩ 1 1 [.int .i64 x9] (by rfl) rfl (cell_one_new _ _ _) (by intro u hu; simp at hu; subst hu; rfl) (by unfold maxLen; omega) (by omega) (by simp; omega) ?_
        intro v6 w10 hown6 hgrow6 hblk6
        obtain ⟨A6, c6, rfl⟩ := own_form hown6
        have hz10 := hgrow6.size
        have hz10' : w9.heap.size + 1 ≤ w10.heap.size := by simpa using hz10
        have hr10 : OwR w.heap.size w9.heap.size 30 4 (.slice (some ⟨gr, 0, none⟩) l cap) l xs w10 := ⟨(hr.1.alloc _).kept hgrow6 (blocks_ne (hr.1.alloc (.cells #[.int .i64 x9] 3)) (r3.1.alloc (.cells #[.int .i64 x9] 3)) owner_ne_int), hr.2⟩
        have hpos := (r3.1.alloc (.cells #[.int .i64 x9] 3)).lt
        have hssg : SSk w.heap.size w10.heap.size (us.set (k * 2) (.slice A6 (m5 + 1) c6)) (lenOf (rowsO (ds.set k (withCl ds k x9)))) (rowOf (rowsO (ds.set k (withCl ds k x9)))) w10 := by
          refine SSk.grow (w := w9.alloc (.cells #[.int .i64 x9] 3)) (hi := w9.heap.size) (hss.keep fun q _ hq => ((Below.refl w9.heap.size w9).alloc (Nat.le_refl _) _).block q hq) (by simp) r1 hgrow6 hown6 (by rw [World.size_alloc]; simpa using hblk6) ?_ ?_ fun j hj => ?_
          · rw [lenOfO, rowO_set ds k _ hkd, if_pos rfl]; simp only [withCl, List.length_append, List.length_singleton]; rw [← r2]
          · rw [rowOfO, rowO_set ds k _ hkd, if_pos rfl]; simp only [withCl, List.map_append, List.map_cons, List.map_nil]; try rfl
          · rw [lenOfO, rowOfO, rowO_set ds k _ hkd, if_neg hj]
            by_cases e5 : j = k * 2 + 1
            · rw [if_pos e5, lenOfO, rowOfO, e5, rowO_cx]; exact ⟨rfl, rfl⟩
            · rw [if_neg e5, lenOfO, rowOfO]; exact ⟨rfl, rfl⟩
        have hfin := OwO.field (e := 0) (lo := w.heap.size) (top := w10.heap.size) (d' := withCl ds k x9) (by omega) hln hr10 hul hf hkl (by simpa using hssg) rfl rfl (by omega)
        have hbb : Below w.heap.size w9 w10 := ((Below.refl w.heap.size w9).alloc hs9 (.cells #[.int .i64 x9] 3)).grown hgrow6 (by simp; omega) (fun q hq => (hpos q hq).1)
        have d2 := hr10.1.cellAt (k * 4 + 2) (by omega)
        rw [List.getElem?_eq_getElem (by omega)] at d2
        have e2 := hr10.1.frozenAt (k * 4 + 2)
        generalize xs[k * 4 + 2]'(by omega) = v2 at d2
        have hg10 : gr < w10.heap.size := by omega
        have HK : Hid (SoP g A n c bs (P + 64) w (.returned (.slice (some ⟨gr, 0, none⟩) l cap)) (w10.setCell ⟨gr, k * 4 + 2, none⟩ (.slice A6 (m5 + 1) c6))) :=
          ⟨_, l, cap, ds.set k (withCl ds k x9), rfl, by rw [List.length_set]; exact HG2a.out.len, hl1, hl12, own_ncapP HG2a.out.row, set_lens hkd HG2a.out.lens (by show ((ds.getD k default).cl ++ [x9]).length ≤ 6; rw [List.length_append, ← r2, List.length_singleton]; omega) (HG2a.out.lens k).2, KpO.of hfin (by simp [World.setCell]), ((HG2a.out.rd.mono (by omega)).turn (Tch.of_below' hbb) hgw3).turn (Tch.setIn (Tch.refl gr (gr + 1) w10) (Nat.le_refl _) (Nat.lt_succ_self _) _) (by omega), (HG2a.out.fr.trans (Frd.of_below hbb (Nat.le_refl _))).trans (Frd.of_below ((Below.refl w.heap.size w10).setCell (p := ⟨gr, k * 4 + 2, none⟩) hwg.1 _) (Nat.le_refl _))⟩
        clear hfin hbb hpos hssg hr10 hown6 hgrow6 hblk6 hz10 hss hf hr r1 r2 r3 f2 f3 hx5 HG2a hln hul hxl
        refine hK.out _ _ trivial (fun hHeld => ?_); clear hK K; (try simp only [Act.put, List.setIfInBounds_toArray, List.set_cons_zero, List.set_cons_succ])
        refine wpAnyH_take (i := 12) (oi := ⟨some 37, _, _, _, _, _⟩) (v := ?_) rfl (by kernel_rfl) (by kernel_rfl) (by kernel_rfl) (fun _ _ _ h => h) (Or.inl ⟨by rfl, ?_⟩) (by assumption) ?_; rotate_left; (focus (intro w hSw; (try dsimp only at hSw); go_simp; (try with_reducible rfl))); (try simp only [Act.put, List.setIfInBounds_toArray, List.set_cons_zero, List.set_cons_succ])
        refine wpAnyH_take (i := 13) (oi := ⟨some 38, _, _, _, _, _⟩) (v := ?_) rfl (by kernel_rfl) (by kernel_rfl) (by kernel_rfl) (fun _ _ _ h => h) (Or.inl ⟨by rfl, ?_⟩) (by assumption) ?_; rotate_left; (focus (intro w hSw; (try dsimp only at hSw); go_simp; (try with_reducible rfl))); (try simp only [Act.put, List.setIfInBounds_toArray, List.set_cons_zero, List.set_cons_succ])
        refine wpAnyH_ready (rs := [14]) (by kernel_rfl) (by simp) ?_; refine AllReadyH.cons (o := ⟨none, _, _, _, _, _⟩) rfl (fun K hK => ?_) AllReadyH.nil; go_simp
        refine hK.out _ _ trivial (fun hHeld => ?_); clear hK K; (try simp only [Act.put, List.setIfInBounds_toArray, List.set_cons_zero, List.set_cons_succ])
        refine wpAnyH_done (by kernel_rfl) ?_ _
        go_wp2
        go_ret
        exact HK.out
      · skip
        go_simp
        go_at_call 53
        refine (one_any g A n c bs (P + 60 + 1 + 1) w3.drew.heap.size 0 3 3 [-1, 51, 1] (w3.drew.alloc (.cells #[.int .i64 (-1), .int .i64 51, .int .i64 1] 3)) HG1a.out.rd HN.out hby hs (by omega) rfl (by omega) (by omega) ?_ (by omega) (by simp)).mono ?_
        · intro j hj
          have : j = 0 ∨ j = 1 ∨ j = 2 := by omega
          rcases this with rfl | rfl | rfl <;> go_simp
        rintro e w9 ⟨x9, rfl, _, hr9, ht9⟩
        have HG2a := Lib.hid (HG1a.out.pick hr9 ht9)
        have hgr9 : gr < w9.heap.size := by have := ht9.size; simp at this; have := hwg.2; omega
        have u2a : w9.cell? ⟨gr, k * 4 + 2, none⟩ = some (.slice A7 m7 c7) := (World.cell?_of_block (a := ⟨gr, k * 4 + 2, none⟩) (ht9.block gr (by simp; have := hwg.2; omega) (.inr (by omega)))).trans u1a
        clear hr9 ht9
        refine hK.out _ _ trivial (fun hHeld => ?_); clear hK K; (try simp only [Act.put, List.setIfInBounds_toArray, List.set_cons_zero, List.set_cons_succ])
        refine wpAnyH_ready (rs := [6, 10]) (by kernel_rfl) (by simp) ?_; refine AllReadyH.cons (o := ⟨some 31, _, _, _, _, _⟩) rfl (fun K hK => ?_) (AllReadyH.cons (o := ⟨some 35, _, _, _, _, _⟩) rfl (fun K hK => ?_) AllReadyH.nil)
        · go_simp
          refine hK.out _ _ trivial (fun hHeld => ?_); clear hK K; (try simp only [Act.put, List.setIfInBounds_toArray, List.set_cons_zero, List.set_cons_succ])
          refine wpAnyH_ready (rs := [10]) (by kernel_rfl) (by simp) ?_; refine AllReadyH.cons (o := ⟨some 35, _, _, _, _, _⟩) rfl (fun K hK => ?_) AllReadyH.nil; go_simp
          have u3a : (w9.alloc (.cells #[.int .i64 x9] 3)).cell? ⟨gr, k * 4 + 2, none⟩ = some (.slice A7 m7 c7) := ((below_new w9 _).cell (p := ⟨gr, k * 4 + 2, none⟩) hgr9).trans u2a
          refine hK.out _ _ trivial (fun hHeld => ?_); clear hK K; (try simp only [Act.put, List.setIfInBounds_toArray, List.set_cons_zero, List.set_cons_succ])
          obtain ⟨hln, xs, us, hr, hul, hf, hss⟩ := HG2a.out.row
          have hxl : xs.length = l * 4 := hr.1.1
          obtain ⟨-, -, f2, f3⟩ := hf k hkd
          obtain ⟨A5, m5, c5, r1, r2, r3⟩ := hss.row (k * 2) (by omega)
          have hx5 := (hr.1.cellAt (k * 4 + 2) (by omega)).trans (f2.trans r1)
          have he5 := hx5.symm.trans u2a
          simp only [Option.some.injEq, Value.slice.injEq] at he5
          obtain ⟨rfl, rfl, rfl⟩ := he5
          rw [lenOfO, rowO_cl] at r2
          rw [rowOfO, rowO_cl] at r3
          have hs9 := HG2a.out.fr.size
          refine wpAnyH_ready (rs := [11]) (by kernel_rfl) (by simp) ?_; refine AllReadyH.cons (o := ⟨some 36, _, _, _, _, _⟩) rfl (fun K hK => ?_) AllReadyH.nil
          refine step_append_own_at _ (by rfl) _ _ _ (by rfl) w.heap.size 3 i0 (.int .i64 0) 1 8 Try.underlying26 hi hz0 hz1 hz2 rfl (by omega) (.slice A5 m5 c5) m5 ((ds.getD k default).cl.map (Value.int .i64)) (by rfl) (r3.1.alloc (.cells #[.int .i64 x9] 3)) ⟨w9.heap.size, 0, none⟩ 1 1 [.int .i64 x9] (by rfl) rfl (cell_one_new _ _ _) (by intro u hu; simp at hu; subst hu; rfl) (by unfold maxLen; omega) (by omega) (by simp; omega) ?_
          intro v6 w10 hown6 hgrow6 hblk6
          obtain ⟨A6, c6, rfl⟩ := own_form hown6
          have hz10 := hgrow6.size
          have hz10' : w9.heap.size + 1 ≤ w10.heap.size := by simpa using hz10
          have hr10 : OwR w.heap.size w9.heap.size 30 4 (.slice (some ⟨gr, 0, none⟩) l cap) l xs w10 := ⟨(hr.1.alloc _).kept hgrow6 (blocks_ne (hr.1.alloc (.cells #[.int .i64 x9] 3)) (r3.1.alloc (.cells #[.int .i64 x9] 3)) owner_ne_int), hr.2⟩
          have hpos := (r3.1.alloc (.cells #[.int .i64 x9] 3)).lt
          have hssg : SSk w.heap.size w10.heap.size (us.set (k * 2) (.slice A6 (m5 + 1) c6)) (lenOf (rowsO (ds.set k (withCl ds k x9)))) (rowOf (rowsO (ds.set k (withCl ds k x9)))) w10 := by
            refine SSk.grow (w := w9.alloc (.cells #[.int .i64 x9] 3)) (hi := w9.heap.size) (hss.keep fun q _ hq => ((Below.refl w9.heap.size w9).alloc (Nat.le_refl _) _).block q hq) (by simp) r1 hgrow6 hown6 (by rw [World.size_alloc]; simpa using hblk6) ?_ ?_ fun j hj => ?_
            · rw [lenOfO, rowO_set ds k _ hkd, if_pos rfl]; simp only [withCl, List.length_append, List.length_singleton]; rw [← r2]
            · rw [rowOfO, rowO_set ds k _ hkd, if_pos rfl]; simp only [withCl, List.map_append, List.map_cons, List.map_nil]; try rfl
            · rw [lenOfO, rowOfO, rowO_set ds k _ hkd, if_neg hj]
              by_cases e5 : j = k * 2 + 1
              · rw [if_pos e5, lenOfO, rowOfO, e5, rowO_cx]; exact ⟨rfl, rfl⟩
              · rw [if_neg e5, lenOfO, rowOfO]; exact ⟨rfl, rfl⟩
          have hfin := OwO.field (e := 0) (lo := w.heap.size) (top := w10.heap.size) (d' := withCl ds k x9) (by omega) hln hr10 hul hf hkl (by simpa using hssg) rfl rfl (by omega)
          have hbb : Below w.heap.size w9 w10 := ((Below.refl w.heap.size w9).alloc hs9 (.cells #[.int .i64 x9] 3)).grown hgrow6 (by simp; omega) (fun q hq => (hpos q hq).1)
          have d2 := hr10.1.cellAt (k * 4 + 2) (by omega)
          rw [List.getElem?_eq_getElem (by omega)] at d2
          have e2 := hr10.1.frozenAt (k * 4 + 2)
          generalize xs[k * 4 + 2]'(by omega) = v2 at d2
          have hg10 : gr < w10.heap.size := by omega
          have HK : Hid (SoP g A n c bs (P + 64) w (.returned (.slice (some ⟨gr, 0, none⟩) l cap)) (w10.setCell ⟨gr, k * 4 + 2, none⟩ (.slice A6 (m5 + 1) c6))) :=
            ⟨_, l, cap, ds.set k (withCl ds k x9), rfl, by rw [List.length_set]; exact HG2a.out.len, hl1, hl12, own_ncapP HG2a.out.row, set_lens hkd HG2a.out.lens (by show ((ds.getD k default).cl ++ [x9]).length ≤ 6; rw [List.length_append, ← r2, List.length_singleton]; omega) (HG2a.out.lens k).2, KpO.of hfin (by simp [World.setCell]), ((HG2a.out.rd.mono (by omega)).turn (Tch.of_below' hbb) hgw3).turn (Tch.setIn (Tch.refl gr (gr + 1) w10) (Nat.le_refl _) (Nat.lt_succ_self _) _) (by omega), (HG2a.out.fr.trans (Frd.of_below hbb (Nat.le_refl _))).trans (Frd.of_below ((Below.refl w.heap.size w10).setCell (p := ⟨gr, k * 4 + 2, none⟩) hwg.1 _) (Nat.le_refl _))⟩
          clear hfin hbb hpos hssg hr10 hown6 hgrow6 hblk6 hz10 hss hf hr r1 r2 r3 f2 f3 hx5 HG2a hln hul hxl
          refine hK.out _ _ trivial (fun hHeld => ?_); clear hK K; (try simp only [Act.put, List.setIfInBounds_toArray, List.set_cons_zero, List.set_cons_succ])
          refine wpAnyH_take (i := 12) (oi := ⟨some 37, _, _, _, _, _⟩) (v := ?_) rfl (by kernel_rfl) (by kernel_rfl) (by kernel_rfl) (fun _ _ _ h => h) (Or.inl ⟨by rfl, ?_⟩) (by assumption) ?_; rotate_left; (focus (intro w hSw; (try dsimp only at hSw); go_simp; (try with_reducible rfl))); (try simp only [Act.put, List.setIfInBounds_toArray, List.set_cons_zero, List.set_cons_succ])
          refine wpAnyH_take (i := 13) (oi := ⟨some 38, _, _, _, _, _⟩) (v := ?_) rfl (by kernel_rfl) (by kernel_rfl) (by kernel_rfl) (fun _ _ _ h => h) (Or.inl ⟨by rfl, ?_⟩) (by assumption) ?_; rotate_left; (focus (intro w hSw; (try dsimp only at hSw); go_simp; (try with_reducible rfl))); (try simp only [Act.put, List.setIfInBounds_toArray, List.set_cons_zero, List.set_cons_succ])
          refine wpAnyH_ready (rs := [14]) (by kernel_rfl) (by simp) ?_; refine AllReadyH.cons (o := ⟨none, _, _, _, _, _⟩) rfl (fun K hK => ?_) AllReadyH.nil; go_simp
          refine hK.out _ _ trivial (fun hHeld => ?_); clear hK K; (try simp only [Act.put, List.setIfInBounds_toArray, List.set_cons_zero, List.set_cons_succ])
          refine wpAnyH_done (by kernel_rfl) ?_ _
          go_wp2
          go_ret
          exact HK.out
        · skip
          go_simp
          have u3a : (w9.alloc (.cells #[.int .i64 x9] 3)).cell? ⟨gr, k * 4 + 2, none⟩ = some (.slice A7 m7 c7) := ((below_new w9 _).cell (p := ⟨gr, k * 4 + 2, none⟩) hgr9).trans u2a
          refine hK.out _ _ trivial (fun hHeld => ?_); clear hK K; (try simp only [Act.put, List.setIfInBounds_toArray, List.set_cons_zero, List.set_cons_succ])
          refine wpAnyH_ready (rs := [6]) (by kernel_rfl) (by simp) ?_; refine AllReadyH.cons (o := ⟨some 31, _, _, _, _, _⟩) rfl (fun K hK => ?_) AllReadyH.nil; go_simp
          refine hK.out _ _ trivial (fun hHeld => ?_); clear hK K; (try simp only [Act.put, List.setIfInBounds_toArray, List.set_cons_zero, List.set_cons_succ])
          obtain ⟨hln, xs, us, hr, hul, hf, hss⟩ := HG2a.out.row
          have hxl : xs.length = l * 4 := hr.1.1
          obtain ⟨-, -, f2, f3⟩ := hf k hkd
          obtain ⟨A5, m5, c5, r1, r2, r3⟩ := hss.row (k * 2) (by omega)
          have hx5 := (hr.1.cellAt (k * 4 + 2) (by omega)).trans (f2.trans r1)
          have he5 := hx5.symm.trans u2a
          simp only [Option.some.injEq, Value.slice.injEq] at he5
          obtain ⟨rfl, rfl, rfl⟩ := he5
          rw [lenOfO, rowO_cl] at r2
          rw [rowOfO, rowO_cl] at r3
          have hs9 := HG2a.out.fr.size
          refine wpAnyH_ready (rs := [11]) (by kernel_rfl) (by simp) ?_; refine AllReadyH.cons (o := ⟨some 36, _, _, _, _, _⟩) rfl (fun K hK => ?_) AllReadyH.nil
          refine step_append_own_at _ (by rfl) _ _ _ (by rfl) w.heap.size 3 i0 (.int .i64 0) 1 8 Try.underlying26 hi hz0 hz1 hz2 rfl (by omega) (.slice A5 m5 c5) m5 ((ds.getD k default).cl.map (Value.int .i64)) (by rfl) (r3.1.alloc (.cells #[.int .i64 x9] 3)) ⟨w9.heap.size, 0, none⟩ 1 1 [.int .i64 x9] (by rfl) rfl (cell_one_new _ _ _) (by intro u hu; simp at hu; subst hu; rfl) (by unfold maxLen; omega) (by omega) (by simp; omega) ?_
          intro v6 w10 hown6 hgrow6 hblk6
          obtain ⟨A6, c6, rfl⟩ := own_form hown6
          have hz10 := hgrow6.size
          have hz10' : w9.heap.size + 1 ≤ w10.heap.size := by simpa using hz10
          have hr10 : OwR w.heap.size w9.heap.size 30 4 (.slice (some ⟨gr, 0, none⟩) l cap) l xs w10 := ⟨(hr.1.alloc _).kept hgrow6 (blocks_ne (hr.1.alloc (.cells #[.int .i64 x9] 3)) (r3.1.alloc (.cells #[.int .i64 x9] 3)) owner_ne_int), hr.2⟩
          have hpos := (r3.1.alloc (.cells #[.int .i64 x9] 3)).lt
          have hssg : SSk w.heap.size w10.heap.size (us.set (k * 2) (.slice A6 (m5 + 1) c6)) (lenOf (rowsO (ds.set k (withCl ds k x9)))) (rowOf (rowsO (ds.set k (withCl ds k x9)))) w10 := by
            refine SSk.grow (w := w9.alloc (.cells #[.int .i64 x9] 3)) (hi := w9.heap.size) (hss.keep fun q _ hq => ((Below.refl w9.heap.size w9).alloc (Nat.le_refl _) _).block q hq) (by simp) r1 hgrow6 hown6 (by rw [World.size_alloc]; simpa using hblk6) ?_ ?_ fun j hj => ?_
            · rw [lenOfO, rowO_set ds k _ hkd, if_pos rfl]; simp only [withCl, List.length_append, List.length_singleton]; rw [← r2]
            · rw [rowOfO, rowO_set ds k _ hkd, if_pos rfl]; simp only [withCl, List.map_append, List.map_cons, List.map_nil]; try rfl
            · rw [lenOfO, rowOfO, rowO_set ds k _ hkd, if_neg hj]
              by_cases e5 : j = k * 2 + 1
              · rw [if_pos e5, lenOfO, rowOfO, e5, rowO_cx]; exact ⟨rfl, rfl⟩
              · rw [if_neg e5, lenOfO, rowOfO]; exact ⟨rfl, rfl⟩
          have hfin := OwO.field (e := 0) (lo := w.heap.size) (top := w10.heap.size) (d' := withCl ds k x9) (by omega) hln hr10 hul hf hkl (by simpa using hssg) rfl rfl (by omega)
          have hbb : Below w.heap.size w9 w10 := ((Below.refl w.heap.size w9).alloc hs9 (.cells #[.int .i64 x9] 3)).grown hgrow6 (by simp; omega) (fun q hq => (hpos q hq).1)
          have d2 := hr10.1.cellAt (k * 4 + 2) (by omega)
          rw [List.getElem?_eq_getElem (by omega)] at d2
          have e2 := hr10.1.frozenAt (k * 4 + 2)
          generalize xs[k * 4 + 2]'(by omega) = v2 at d2
          have hg10 : gr < w10.heap.size := by omega
          have HK : Hid (SoP g A n c bs (P + 64) w (.returned (.slice (some ⟨gr, 0, none⟩) l cap)) (w10.setCell ⟨gr, k * 4 + 2, none⟩ (.slice A6 (m5 + 1) c6))) :=
            ⟨_, l, cap, ds.set k (withCl ds k x9), rfl, by rw [List.length_set]; exact HG2a.out.len, hl1, hl12, own_ncapP HG2a.out.row, set_lens hkd HG2a.out.lens (by show ((ds.getD k default).cl ++ [x9]).length ≤ 6; rw [List.length_append, ← r2, List.length_singleton]; omega) (HG2a.out.lens k).2, KpO.of hfin (by simp [World.setCell]), ((HG2a.out.rd.mono (by omega)).turn (Tch.of_below' hbb) hgw3).turn (Tch.setIn (Tch.refl gr (gr + 1) w10) (Nat.le_refl _) (Nat.lt_succ_self _) _) (by omega), (HG2a.out.fr.trans (Frd.of_below hbb (Nat.le_refl _))).trans (Frd.of_below ((Below.refl w.heap.size w10).setCell (p := ⟨gr, k * 4 + 2, none⟩) hwg.1 _) (Nat.le_refl _))⟩
          clear hfin hbb hpos hssg hr10 hown6 hgrow6 hblk6 hz10 hss hf hr r1 r2 r3 f2 f3 hx5 HG2a hln hul hxl
          refine hK.out _ _ trivial (fun hHeld => ?_); clear hK K; (try simp only [Act.put, List.setIfInBounds_toArray, List.set_cons_zero, List.set_cons_succ])
          refine wpAnyH_take (i := 12) (oi := ⟨some 37, _, _, _, _, _⟩) (v := ?_) rfl (by kernel_rfl) (by kernel_rfl) (by kernel_rfl) (fun _ _ _ h => h) (Or.inl ⟨by rfl, ?_⟩) (by assumption) ?_; rotate_left; (focus (intro w hSw; (try dsimp only at hSw); go_simp; (try with_reducible rfl))); (try simp only [Act.put, List.setIfInBounds_toArray, List.set_cons_zero, List.set_cons_succ])
          refine wpAnyH_take (i := 13) (oi := ⟨some 38, _, _, _, _, _⟩) (v := ?_) rfl (by kernel_rfl) (by kernel_rfl) (by kernel_rfl) (fun _ _ _ h => h) (Or.inl ⟨by rfl, ?_⟩) (by assumption) ?_; rotate_left; (focus (intro w hSw; (try dsimp only at hSw); go_simp; (try with_reducible rfl))); (try simp only [Act.put, List.setIfInBounds_toArray, List.set_cons_zero, List.set_cons_succ])
          refine wpAnyH_ready (rs := [14]) (by kernel_rfl) (by simp) ?_; refine AllReadyH.cons (o := ⟨none, _, _, _, _, _⟩) rfl (fun K hK => ?_) AllReadyH.nil; go_simp
          refine hK.out _ _ trivial (fun hHeld => ?_); clear hK K; (try simp only [Act.put, List.setIfInBounds_toArray, List.set_cons_zero, List.set_cons_succ])
          refine wpAnyH_done (by kernel_rfl) ?_ _
          go_wp2
          go_ret
          exact HK.out
  have e1 : ((x3 : Int) == 1) = false := by simp; omega
  by_cases h2 : x3 = 2
  · have e2 : ((x3 : Int) == 2) = true := by simp [h2]
    clear h0 h1 h2
    obtain ⟨b', off', eo, _, _, q1, _, _⟩ := HG3.out.os.at_ k hkd
    cases eo
    have fz : w3.frozen? ⟨gr, k * 4 + 1, none⟩ = false := by obtain ⟨_, xs, us, h1, _⟩ := HG3.out.row; exact h1.1.frozenAt _
    have u0 : w3.cell? ⟨gr, k * 4 + 1, none⟩ = some (.bool (ds.getD k default).o) := by simpa using q1
    have hgr3 := hwg.2
    have HOW : Hid (OwO w.heap.size w3.heap.size (.slice (some ⟨gr, 0, none⟩) l cap) l (ds.set k ⟨(ds.getD k default).p, !(ds.getD k default).o, (ds.getD k default).cl, (ds.getD k default).cx⟩) (w3.setCell ⟨gr, k * 4 + 1, none⟩ (.bool (!(ds.getD k default).o)))) := HG3.out.row.setHead (e := 1) hkl (by omega) rfl rfl (.inr ⟨rfl, rfl, rfl⟩)
    have HK : Hid (SoP g A n c bs (P + 64) w (.returned (.slice (some ⟨gr, 0, none⟩) l cap)) (w3.setCell ⟨gr, k * 4 + 1, none⟩ (.bool (!(ds.getD k default).o)))) :=
      ⟨_, l, cap, ds.set k ⟨(ds.getD k default).p, !(ds.getD k default).o, (ds.getD k default).cl, (ds.getD k default).cx⟩, rfl, by rw [List.length_set]; exact HG3.out.len, hl1, hl12, own_ncapP HG3.out.row, set_lens hkd HG3.out.lens (show (ds.getD k default).cl.length ≤ 6 by have := HG3.out.lens k; omega) (HG3.out.lens k).2, KpO.of HOW.out (by simp [World.setCell]), (HG3.out.rd.mono (by omega)).turn (Tch.setIn (Tch.refl gr (gr + 1) w3) (Nat.le_refl _) (Nat.lt_succ_self _) _) (by have := HG3.out.gw; omega), HG3.out.fr.trans (Frd.of_below ((Below.refl w.heap.size w3).setCell (p := ⟨gr, k * 4 + 1, none⟩) hwg.1 _) (Nat.le_refl _))⟩
    generalize (ds.getD k default).o = po at *
    clear q1 HOW HG3
    go_wp2
    go_ret
    exact HK.out
  have e2 : ((x3 : Int) == 2) = false := by simp; omega
  by_cases h3 : x3 = 3
  · have e3 : ((x3 : Int) == 3) = true := by simp [h3]
    clear h0 h1 h2 h3
    obtain ⟨hln, xs, us, hr, hul, hf, hss⟩ := HG3.out.row
    have hxl : xs.length = l * 4 := hr.1.1
    obtain ⟨-, -, f2, f3⟩ := hf k hkd
    obtain ⟨A5, m5, c5, r1, r2, r3⟩ := hss.row (k * 2 + 1) (by omega)
    rw [lenOfO, rowO_cx] at r2
    have hcx3 : m5 = 3 := by
      rw [r2]
      have := (validO_iff ds).1 HG3.out.va
      have h9 := (this.2.2.2.2 k hkd).2
      unfold ctxOK at h9
      simp only [Bool.and_eq_true, decide_eq_true_eq] at h9
      exact h9.1
    have hx5 := (hr.1.cellAt (k * 4 + 3) (by omega)).trans (f3.trans r1)
    have fz := hr.1.frozenAt (k * 4 + 3)
    obtain ⟨gx, c9, hA5⟩ := row_form2 r3.1 (by omega)
    cases hA5
    have hnc5 := own_ncap r3.1
    have HKP := Lib.hid (KpO.cut (k := k) hln hr hul hf hss (Nat.le_refl _) hkl r1)
    subst hcx3
    have h1c : 1 ≤ c5 := by omega
    have hc1 : ¬ c5 = 1 := by omega
    have hgr3 := hwg.2
    have HK : Hid (SoP g A n c bs (P + 64) w (.returned (.slice (some ⟨gr, 0, none⟩) l cap)) (w3.setCell ⟨gr, k * 4 + 3, none⟩ (.slice (some ⟨gx, 1, none⟩) 2 (c5 - 1)))) :=
      ⟨_, l, cap, ds.set k ⟨(ds.getD k default).p, (ds.getD k default).o, (ds.getD k default).cl, (ds.getD k default).cx.drop 1⟩, rfl, by rw [List.length_set]; exact HG3.out.len, hl1, hl12, own_ncapP HG3.out.row, set_lens hkd HG3.out.lens (show (ds.getD k default).cl.length ≤ 6 by have := HG3.out.lens k; omega) (by show ((ds.getD k default).cx.drop 1).length ≤ 3; rw [List.length_drop]; omega), HKP.out, (HG3.out.rd.mono (by omega)).turn (Tch.setIn (Tch.refl gr (gr + 1) w3) (Nat.le_refl _) (Nat.lt_succ_self _) _) (by have := HG3.out.gw; omega), HG3.out.fr.trans (Frd.of_below ((Below.refl w.heap.size w3).setCell (p := ⟨gr, k * 4 + 3, none⟩) hwg.1 _) (Nat.le_refl _))⟩
    clear HKP hss hf hr r1 r2 r3 f2 f3 hln hul hxl HG3
    go_wp2
    go_ret
    exact HK.out
  have e3 : ((x3 : Int) == 3) = false := by simp; omega
  have HK := Lib.hid (HG3.out.fin (Q := P + 64) (by omega))
  clear HG3 h0 h1 h2 h3
  go_wp2
  go_ret
  exact HK.out

  /-- Returns owners, and a number. -/
  def OwP (g : Nat) (A : Option Addr) (n c : Nat) (bs : List Int) (Q : Nat) (w : World) (e : Ending) (w' : World) : Prop :=
    ∃ (B : Option Addr) (l m : Nat) (ds : List On) (o : Int), e = .returned (.tuple #[.slice B l m, .int .i64 o]) ∧ l = ds.length ∧ 1 ≤ l ∧ l ≤ 12 ∧ l ≤ m ∧ (∀ j, (ds.getD j default).cl.length ≤ 6 ∧ (ds.getD j default).cx.length ≤ 3) ∧ -1 ≤ o ∧ o ≤ 12 ∧ KpO w.heap.size B ds w' ∧ Rdr g A n c bs Q w' ∧ Frd g w.heap.size w w'
set_option maxRecDepth 100000 in
set_option maxHeartbeats 6400000 in
theorem ownerOf_any (g : Nat) (A : Option Addr) (n c : Nat) (bs : List Int) (P : Nat) (w : World) (h : Rdr g A n c bs P w) (hn : n = bs.length) (hby : BY bs) (hs : n ≤ 2000) (hP : P ≤ 400000) :
    Calls Try.prog 52 #[.pointer (some ⟨g, 0, none⟩)] w fun e w' => OwP g A n c bs (P + 70) w e w' := by
  have hgw := h.lt
  have HN := Lib.hid hn
  have HC := Lib.hid (someOwners_any g A n c bs P w h hn hby hs hP)
  clear h hn
  go_enter Try.func52, Try.ntmps52
  go_wp2_with fail
  refine HC.out.mono ?_
  rintro e w1 ⟨B, l, m, ds, rfl, h1, h2, h3, h4, h5, h6, h7, h8⟩
  have HL := Lib.hid h1
  have HLE := Lib.hid h5
  have HK1 := Lib.hid h6
  have HR1 := Lib.hid h7
  have HF1 := Lib.hid h8
  clear h1 h5 h6 h7 h8 HC
  go_wp2_with fail
  refine (pick_any g A n c bs (P + 64) (l : Int) w1 HR1.out HN.out hby hs (by omega) (by omega)).mono ?_
  rintro e w2 ⟨k, rfl, hk, _, hr2, ht2⟩
  have hkl : k < l := by have := hk (by omega); omega
  have HK2 := Lib.hid (HK1.out.pick ht2 hgw)
  have HR2 := Lib.hid hr2
  have HF2 := Lib.hid (HF1.out.trans (Frd.of_tch ht2 HF1.out.size))
  clear hk hr2 ht2 HK1 HR1 HF1
  go_wp2_with fail
  refine (pick_any g A n c bs (P + 64 + 1) (l : Int) w2 HR2.out HN.out hby hs (by omega) (by omega)).mono ?_
  rintro e w3 ⟨k3, rfl, hk3, _, hr3, ht3⟩
  have hkl3 : k3 < l := by have := hk3 (by omega); omega
  have HR3 := Lib.hid (hr3.alloc (.cells #[.int .i64 (k : Int), .int .i64 0, .int .i64 (k3 : Int), .int .i64 1, .int .i64 (-1), .int .i64 12] 3))
  have HK3 := Lib.hid ((HK2.out.pick ht3 hgw).below (below_new w3 (.cells #[.int .i64 (k : Int), .int .i64 0, .int .i64 (k3 : Int), .int .i64 1, .int .i64 (-1), .int .i64 12] 3)))
  have HF3 := Lib.hid ((HF2.out.trans (Frd.of_tch ht3 HF2.out.size)).trans (Frd.of_below (below_new w3 (.cells #[.int .i64 (k : Int), .int .i64 0, .int .i64 (k3 : Int), .int .i64 1, .int .i64 (-1), .int .i64 12] 3)) (by have := HF2.out.size; have := ht3.size; omega)))
  have hg3 : g < w3.heap.size := hr3.lt
  clear hk3 hr3 ht3 HK2 HR2 HF2
  go_wp2_with fail
  refine (one_any g A n c bs (P + 64 + 1 + 1) w3.heap.size 0 6 6 [(k : Int), 0, (k3 : Int), 1, -1, 12] _ HR3.out HN.out hby hs (by omega) rfl (by omega) (by omega) ?_ (by omega) (by simp)).mono ?_
  · intro j hj
    have : j = 0 ∨ j = 1 ∨ j = 2 ∨ j = 3 ∨ j = 4 ∨ j = 5 := by omega
    rcases this with rfl | rfl | rfl | rfl | rfl | rfl <;> go_simp
  rintro e w4 ⟨x4, rfl, hxm, hr4, ht4⟩
  have hx4 : -1 ≤ x4 ∧ x4 ≤ 12 := by
    simp only [List.mem_cons, List.not_mem_nil, or_false] at hxm
    omega
  have HKF : Hid (OwP g A n c bs (P + 70) w (.returned (.tuple #[.slice B l m, .int .i64 x4])) w4) :=
    ⟨B, l, m, ds, x4, rfl, HL.out, h2, h3, h4, HLE.out, hx4.1, hx4.2, HK3.out.pick ht4 hgw, hr4.mono (by omega), HF3.out.trans (Frd.of_tch ht4 HF3.out.size)⟩
  clear hxm hr4 ht4 HK3 HR3 HF3 hx4
  go_wp2
  go_ret2
  exact HKF.out
end Go.Proofs.Ytkfglodjnnlbkaa

namespace Go.Proofs.Ytkfglodjnnlbkaa
set_option linter.unusedSimpArgs false
set_option linter.unusedVariables false
open Go.RowKit
/-- A slice of owners, as drawn: at most twelve, with short lists. -/
def GO (w0 w : World) (A : Option Addr) (n c : Nat) (ds : List On) : Prop :=
  n = ds.length ∧ 1 ≤ n ∧ n ≤ 12 ∧ n ≤ c ∧ OB ds ∧ (∀ j, (ds.getD j default).cl.length ≤ 6 ∧ (ds.getD j default).cx.length ≤ 3) ∧ OS w w.heap.size A ds ∧ Below w0.heap.size w0 w
def DrO0 (w : World) (e : Ending) (w' : World) : Prop :=
  ∃ (A1 : Option Addr) (n1 c1 : Nat) (ds : List On), e = .returned (.slice A1 n1 c1) ∧ GO w w' A1 n1 c1 ds
def DrO1 (w : World) (e : Ending) (w' : World) : Prop :=
  ∃ (A1 : Option Addr) (n1 c1 : Nat) (ds : List On) (o : Int), e = .returned (.tuple #[.slice A1 n1 c1, .int .i64 o]) ∧ -1 ≤ o ∧ o ≤ 12 ∧ GO w w' A1 n1 c1 ds
def DrO2 (w : World) (e : Ending) (w' : World) : Prop :=
  ∃ (A1 : Option Addr) (n1 c1 : Nat) (ds : List On) (o k : Int), e = .returned (.tuple #[.slice A1 n1 c1, .int .i64 o, .int .i64 k]) ∧ -1 ≤ o ∧ o ≤ 12 ∧ -1 ≤ k ∧ k ≤ 51 ∧ GO w w' A1 n1 c1 ds
theorem GO.of {g n c B0 : Nat} {A : Option Addr} {ds : List On} {w0 w1 w : World} (h1 : n = ds.length) (h2 : 1 ≤ n) (h3 : n ≤ 12) (h4 : n ≤ c) (h5 : ∀ j, (ds.getD j default).cl.length ≤ 6 ∧ (ds.getD j default).cx.length ≤ 3) (h6 : KpO B0 A ds w) (hb1 : Below w0.heap.size w0 w1) (hg : w0.heap.size ≤ g) (hf : Frd g w1.heap.size w1 w) : GO w0 w A n c ds :=
  ⟨h1, h2, h3, h4, OB.small (by omega) (fun j => ⟨by have := (h5 j).1; omega, by have := (h5 j).2; omega⟩), h5, h6.os, hb1.trans (hf.tch.below (B := w0.heap.size) hg hb1.size)⟩
end Go.Proofs.Ytkfglodjnnlbkaa
