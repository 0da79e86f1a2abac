/- Words and contracts for memory that the texts behind use. -/
import Derived.Test.YtjhpknnhgbdkiaaP0a
import Derived.Test.YtjhpknnhgbdkiaaP1a
import Derived.WalkKit
import Derived.Laws.OwnMore
import Derived.Deep.Draws
import Derived.Test.YtjhpknnhgbdkiaaProg
import Derived.WalkSpells
import Derived.WalkLawsBesides
import Derived.Outline
import Derived.Lib.Hide
import Derived.BigQuiet
import Derived.Deep.QuietTactic
import Derived.StillTailTactics
import Derived.Deep.LoopGhost
import Derived.Laws.MakeOwn
import Derived.WalkSmall
import Derived.RegionTactic
import Derived.BigRegion
import Derived.Deep.RegionWith
import Derived.Deep.RegionHeld3
import Derived.Maps.AppendAt
import Derived.Laws.CopyOwn
import Derived.Deep.Cut
import Derived.Laws.Entries
import Derived.Laws.Bits64
import Derived.IntWalk
import Derived.Deep.RegionLaw
import Derived.Deep.AppendLies
import Derived.Deep.DeepCutAuto
import Derived.ArgAppend

namespace Go.Proofs.Ytjhpknnhgbdkiaa
set_option linter.unusedSimpArgs false
set_option linter.unusedVariables false
open Go.RowKit
theorem ret_b {a b : Bool} (h : a = b) : Ending.returned (.bool a) = .returned (.bool b) := by rw [h]
set_option maxHeartbeats 400000 in
theorem spec_inRange (n l m : Int) (w : World) :
    Calls Try.prog 39 #[.int .i64 n, .int .i64 l, .int .i64 m] w fun e w' => e = .returned (.bool (rng n l m)) ∧ w = w' := by
  go_enter Try.func39, Try.ntmps39
  go_wp2
  all_goals
    go_ret
    exact ⟨ret_b (by unfold rng; simp; try omega), rfl⟩
end Go.Proofs.Ytjhpknnhgbdkiaa

namespace Go.Proofs.Ytjhpknnhgbdkiaa
set_option linter.unusedSimpArgs false
set_option linter.unusedVariables false
open Go.RowKit
theorem take_succ_getD {α : Type} [Inhabited α] (l : List α) (k : Nat) (h : k < l.length) : l.take (k + 1) = l.take k ++ [l.getD k default] := by
  rw [List.take_succ_eq_append_getElem h]; simp [List.getD, h]
end Go.Proofs.Ytjhpknnhgbdkiaa

namespace Go.Proofs.Ytjhpknnhgbdkiaa
set_option linter.unusedSimpArgs false
set_option linter.unusedVariables false
open Go.RowKit
theorem allR_false (l : List Int) (lo hi : Int) (k : Nat) (h : k < l.length) (hr : rng (l.getD k 0) lo hi = false) : allR l lo hi = false := by
  unfold allR
  rw [List.all_eq_false]
  exact ⟨l.getD k 0, by simp [List.getD, h], by rw [hr]; simp⟩
theorem allR_true (l : List Int) (lo hi : Int) (h : ∀ k, k < l.length → rng (l.getD k 0) lo hi = true) : allR l lo hi = true := by
  unfold allR
  rw [List.all_eq_true]
  intro x hx
  obtain ⟨k, hk, rfl⟩ := List.mem_iff_getElem.1 hx
  have := h k hk
  simpa [List.getD, hk] using this
set_option maxHeartbeats 400000 in
theorem spec_allIn (A : Option Addr) (n c : Nat) (xs : List Int) (lo hi : Int) (w : World) (B : Nat) (hB : B ≤ w.heap.size) (hn : n = xs.length) (h : IS w B A xs) (hs : n ≤ 2000000) :
    Calls Try.prog 61 #[.slice A n c, .int .i64 lo, .int .i64 hi] w fun e w' => e = .returned (.bool (allR xs lo hi)) ∧ w = w' := by
  have H := Lib.hid h
  have HN := Lib.hid hn
  clear hn h
  go_enter Try.func61, Try.ntmps61
  go_wp2
  go_loop [7] (fun i => ∃ k : Nat, k ≤ n ∧ i = .int .i64 k ∧ Hid (∀ j, j < k → rng (xs.getD j 0) lo hi = true)) (fun i => n - (intOf i).toNat)
  case atStart => exact ⟨0, Nat.zero_le _, rfl, fun j hj => by omega⟩
  case round =>
    obtain ⟨k, hk, rfl, HA⟩ := hrel
    by_cases hlt : k < n
    · obtain ⟨b, off, rfl, hbB, hc⟩ := H.out (by have := HN.out; omega)
      have c0 := hc k (by have := HN.out; omega)
      clear hc H
      generalize hp : xs.getD k 0 = p at *
      have HP := Lib.hid hp
      clear hp
      cases hr : rng p lo hi
      · go_wp2_with (go_at_call 39; refine (spec_inRange _ _ _ _).mono ?_; rintro e w' ⟨rfl, rfl⟩)
        go_ret
        refine ⟨ret_b ?_, rfl⟩
        rw [allR_false xs lo hi k (by have := HN.out; omega) (by rw [HP.out]; exact hr)]
        try rfl
      · have HR := Lib.hid hr
        go_wp2_with (go_at_call 39; refine (spec_inRange _ _ _ _).mono ?_; rintro e w' ⟨rfl, rfl⟩)
        go_round
        case rel => exact ⟨k + 1, by omega, by go_num, fun j hj => by
          rcases Nat.lt_or_ge j k with h1 | h1
          · exact HA.out j h1
          · obtain rfl : j = k := by omega
            rw [HP.out]; exact HR.out⟩
        case measure => simp [intOf]; omega
    · go_wp2
      go_ret
      refine ⟨ret_b ?_, rfl⟩
      rw [allR_true xs lo hi fun j hj => HA.out j (by have := HN.out; omega)]
      try rfl
end Go.Proofs.Ytjhpknnhgbdkiaa

namespace Go.Proofs.Ytjhpknnhgbdkiaa
set_option linter.unusedSimpArgs false
set_option linter.unusedVariables false
open Go.RowKit
/-- Two cells written one after the other. -/
def set2 (xs : List Value) (j : Nat) (x y : Value) : List Value := (xs.set j x).set (j + 1) y
end Go.Proofs.Ytjhpknnhgbdkiaa

namespace Go.Proofs.Ytjhpknnhgbdkiaa
set_option linter.unusedSimpArgs false
set_option linter.unusedVariables false
open Go.RowKit
theorem len_le_sum (xss : List (List Int)) (j : Nat) : (xss.getD j []).length ≤ (xss.map List.length).sum := by
  induction xss generalizing j with
  | nil => simp
  | cons x xs ih =>
    cases j with
    | zero => simp [List.getD]
    | succ j => have := ih j; simp [List.getD] at *; omega
theorem SB.of_sum {xss : List (List Int)} (h : xss.length ≤ 1048576) (h' : (xss.map List.length).sum ≤ 1048576) : SB xss :=
  ⟨h, fun j => Nat.le_trans (len_le_sum xss j) h'⟩
theorem SB2.of_sum {xss : List (List Int)} (h : xss.length ≤ 2000000) (h' : (xss.map List.length).sum ≤ 1048576) : SB2 xss :=
  ⟨h, fun j => Nat.le_trans (len_le_sum xss j) h'⟩
end Go.Proofs.Ytjhpknnhgbdkiaa

namespace Go.Proofs.Ytjhpknnhgbdkiaa
set_option linter.unusedSimpArgs false
set_option linter.unusedVariables false
open Go.RowKit
-- WANT impl_inRange spec_inRange impl_allInRange spec_allIn impl_copyOf spec_copyIntsA spec_copyInts RetI OwnI form nil Bl turn refl le alloc step MkW MkS leftOf leftOf_ok leftOf_no mark_ints held_ints markw_ints row_start laws_eqIntS laws_toIntS laws_markIntS laws_heldIntS box_new own_start below_of_drew As IS ints it loc mono keep Tch OwR own_form below more cell own_below set_getD getD_ne take_step take_all_eq take_succ_getD bcell RetT RetF RetB run_append1 append1 spec_append lt start setCell own lengths
/-- No more owners, and no more in their lists, than a million. -/
def OB (ds : List On) : Prop := ds.length ≤ 1048576 ∧ ((rowsO ds).map List.length).sum ≤ 1048576 ∧ ∀ j, (ds.getD j default).cl.length ≤ 1048576 ∧ (ds.getD j default).cx.length ≤ 1048576
theorem OB.of_sum {ds : List On} (h : ds.length ≤ 1048576) (h2 : ((rowsO ds).map List.length).sum ≤ 1048576) : OB ds := by
  refine ⟨h, h2, fun j => ?_⟩
  have a1 := len_le_sum (rowsO ds) (j * 2)
  have a2 := len_le_sum (rowsO ds) (j * 2 + 1)
  rw [rowsO_getD, rowO_cl] at a1
  rw [rowsO_getD, rowO_cx] at a2
  omega
theorem info_owner : (Try.prog.info? 32).map (fun i => (i.zero, i.size, i.bytes)) = some (some (.agg #[.int .i64 0, .bool false, .slice none 0 0, .slice none 0 0]), 4, 64) := by kernel_rfl
end Go.Proofs.Ytjhpknnhgbdkiaa

namespace Go.Proofs.Ytjhpknnhgbdkiaa
set_option linter.unusedSimpArgs false
set_option linter.unusedVariables false
open Go.RowKit
set_option maxRecDepth 100000 in
set_option maxHeartbeats 3200000 in
theorem spec_validOwner (A : Option Addr) (n c : Nat) (ds : List On) (w : World) (B : Nat) (hB : B ≤ w.heap.size) (hn : n = ds.length) (h : OS w B A ds) (hb : OB ds) (i : Nat) (hi : i < n) :
    Calls Try.prog 55 #[.slice A n c, .int .i64 i] w fun e w' => e = .returned (.bool (okO ds i)) ∧ Below w.heap.size w w' := by
  have hn1 : n ≤ 1048576 := by rw [hn]; exact hb.1
  obtain ⟨b, off, rfl, hbB, hc⟩ := h (by omega)
  obtain ⟨c0, c1, ⟨A1, n1, d1, c2, hn1', hp1⟩, A2, n2, d2, c3, hn2', hp2⟩ := hc i (by omega)
  have hx := hb.2.2 i
  have hbs : b < w.heap.size := by omega
  have HOP := Lib.hid fun (pn : Nat) (hp : pn < i) => (hc pn (by omega)).2.1
  unfold okO
  generalize ds.getD i default = d at *
  obtain ⟨p, o, cl, cx⟩ := d
  dsimp only at *
  have HA1 := Lib.hid fun (w' : World) (hB : B ≤ w'.heap.size) (h : IS w' B A1 cl) => spec_allIn A1 n1 d1 cl 0 50 w' B hB hn1' h (by omega)
  have HA2 := Lib.hid fun (w' : World) (hB : B ≤ w'.heap.size) (h : IS w' B A2 cx) => spec_allIn A2 n2 d2 cx (-1) 50 w' B hB hn2' h (by omega)
  have HP1 := Lib.hid (hp1.alloc hB (.cells #[.int .i64 p, .bool o, .slice A1 n1 d1, .slice A2 n2 d2] 32))
  have HP2 := Lib.hid (hp2.alloc hB (.cells #[.int .i64 p, .bool o, .slice A1 n1 d1, .slice A2 n2 d2] 32))
  have hBB : Below w.heap.size w (w.alloc (.cells #[.int .i64 p, .bool o, .slice A1 n1 d1, .slice A2 n2 d2] 32)) := (Below.refl _ _).alloc (Nat.le_refl _) _
  have HR : okD ds i ⟨p, o, cl, cx⟩ = (parOK i p && (((decide (n1 ≤ 5) && allR cl 0 50) && (decide (n2 = 3) && allR cx (-1) 50)) && ((o && (decide (i = 0) || opn ds p)) || (!o && decide (n1 = 0))))) := by
    unfold okD clOK ctxOK; rw [hn1', hn2']
  rw [HR]
  clear HR hp1 hp2
  have hx1 : n1 ≤ 1048576 := by omega
  have hx2 : n2 ≤ 1048576 := by omega
  have HBB := Lib.hid hBB
  have HB2 : Hid (B ≤ (w.alloc (.cells #[.int .i64 p, .bool o, .slice A1 n1 d1, .slice A2 n2 d2] 32)).heap.size) := by show _ ≤ _; rw [World.size_alloc]; omega
  generalize allR cl 0 50 = a1 at *
  generalize allR cx (-1) 50 = a2 at *
  clear hn1' hn2' hx hn h hc hb hBB
  by_cases h0 : i = 0
  · subst h0
    simp only [Nat.zero_mul, Nat.add_zero] at c0 c1 c2 c3
    by_cases hp : p = -1
    · subst hp
      have hr : parOK 0 (-1) = true := rfl
      rw [hr]
      clear hr HOP
      by_cases h5 : 5 < n1
      · have h5' : ¬ n1 ≤ 5 := by omega
        go_enter Try.func55, Try.ntmps55
        go_wp2
        go_ret
        exact ⟨ret_b (by simp [h5']), HBB.out⟩
      have h5' : n1 ≤ 5 := by omega
      cases a1
      · go_enter Try.func55, Try.ntmps55
        go_wp2_with fail
        refine (HA1.out _ HB2.out HP1.out).mono ?_
        rintro e w' ⟨rfl, rfl⟩
        go_wp2
        go_ret
        exact ⟨ret_b (by simp []), HBB.out⟩
      by_cases h3 : n2 = 3
      case neg =>
        have h3' : ((n2 : Int) != 3) = true := by simp; omega
        go_enter Try.func55, Try.ntmps55
        go_wp2_with fail
        refine (HA1.out _ HB2.out HP1.out).mono ?_
        rintro e w' ⟨rfl, rfl⟩
        go_wp2
        go_ret
        exact ⟨ret_b (by simp [h3]), HBB.out⟩
      have h3' : ((n2 : Int) != 3) = false := by simp; omega
      have H3 := Lib.hid h3
      clear h3
      cases a2
      · go_enter Try.func55, Try.ntmps55
        go_wp2_with fail
        refine (HA1.out _ HB2.out HP1.out).mono ?_
        rintro e w' ⟨rfl, rfl⟩
        go_wp2_with fail
        refine (HA2.out _ HB2.out HP2.out).mono ?_
        rintro e w' ⟨rfl, rfl⟩
        go_wp2
        go_ret
        exact ⟨ret_b (by simp []), HBB.out⟩
      have H5 := Lib.hid h5'
      clear h5'
      cases o
      · by_cases h0 : n1 = 0
        · have h0' : ((n1 : Int) == 0) = true := by simp; omega
          have H0 := Lib.hid h0
          clear h0
          go_enter Try.func55, Try.ntmps55
          go_wp2_with fail
          refine (HA1.out _ HB2.out HP1.out).mono ?_
          rintro e w' ⟨rfl, rfl⟩
          go_wp2_with fail
          refine (HA2.out _ HB2.out HP2.out).mono ?_
          rintro e w' ⟨rfl, rfl⟩
          go_wp2
          go_ret
          exact ⟨ret_b (by simp [H0.out, H3.out]), HBB.out⟩
        · have h0' : ((n1 : Int) == 0) = false := by simp; omega
          have H0 := Lib.hid h0
          clear h0
          go_enter Try.func55, Try.ntmps55
          go_wp2_with fail
          refine (HA1.out _ HB2.out HP1.out).mono ?_
          rintro e w' ⟨rfl, rfl⟩
          go_wp2_with fail
          refine (HA2.out _ HB2.out HP2.out).mono ?_
          rintro e w' ⟨rfl, rfl⟩
          go_wp2
          go_ret
          exact ⟨ret_b (by simp [H0.out, H3.out]), HBB.out⟩
      · go_enter Try.func55, Try.ntmps55
        go_wp2_with fail
        refine (HA1.out _ HB2.out HP1.out).mono ?_
        rintro e w' ⟨rfl, rfl⟩
        go_wp2_with fail
        refine (HA2.out _ HB2.out HP2.out).mono ?_
        rintro e w' ⟨rfl, rfl⟩
        go_wp2
        go_ret
        exact ⟨ret_b (by simp [H3.out, H5.out]), HBB.out⟩
    · have hr : parOK 0 p = false := by unfold parOK; simp [hp]
      have hp' : (p != -1) = true := by simp [hp]
      rw [hr]
      clear hr HOP hp
      go_enter Try.func55, Try.ntmps55
      go_wp2
      go_ret
      exact ⟨rfl, HBB.out⟩
  · have hz : ((i : Int) == 0) = false := by simp; omega
    have hi0 : (0 : Int) < i := by omega
    cases hpr : rng p 0 ((i : Int) - 1)
    · have hr : parOK i p = false := by unfold parOK; rw [if_neg h0, hpr]
      rw [hr]
      clear hr HOP
      go_enter Try.func55, Try.ntmps55
      go_wp2_with (go_at_call 39; refine (spec_inRange _ _ _ _).mono ?_; rintro e w' ⟨rfl, rfl⟩)
      go_ret
      exact ⟨rfl, HBB.out⟩
    · have hr : parOK i p = true := by unfold parOK; rw [if_neg h0, hpr]
      obtain ⟨hp0, hp1⟩ := (rng_iff _ _ _).1 hpr
      obtain ⟨pn, rfl⟩ : ∃ pn : Nat, p = pn := ⟨p.toNat, by omega⟩
      have hpn : pn < i := by omega
      have hop : opn ds (pn : Int) = (ds.getD pn default).o := by simp [opn]
      have e1 := HOP.out pn hpn
      rw [hr, hop]
      generalize (ds.getD pn default).o = po at *
      have hin : decide (i = 0) = false := by simp [h0]
      rw [hin]
      clear hr HOP hop hp0 hp1
      have hpn2 : pn < n := by omega
      by_cases h5 : 5 < n1
      · have h5' : ¬ n1 ≤ 5 := by omega
        go_enter Try.func55, Try.ntmps55
        go_wp2_with fail
        refine (spec_inRange _ _ _ _).mono ?_
        rintro e w' ⟨rfl, rfl⟩
        go_wp2
        go_ret
        exact ⟨ret_b (by simp [h5']), HBB.out⟩
      have h5' : n1 ≤ 5 := by omega
      cases a1
      · go_enter Try.func55, Try.ntmps55
        go_wp2_with fail
        refine (spec_inRange _ _ _ _).mono ?_
        rintro e w' ⟨rfl, rfl⟩
        go_wp2_with fail
        refine (HA1.out _ HB2.out HP1.out).mono ?_
        rintro e w' ⟨rfl, rfl⟩
        go_wp2
        go_ret
        exact ⟨ret_b (by simp []), HBB.out⟩
      by_cases h3 : n2 = 3
      case neg =>
        have h3' : ((n2 : Int) != 3) = true := by simp; omega
        go_enter Try.func55, Try.ntmps55
        go_wp2_with fail
        refine (spec_inRange _ _ _ _).mono ?_
        rintro e w' ⟨rfl, rfl⟩
        go_wp2_with fail
        refine (HA1.out _ HB2.out HP1.out).mono ?_
        rintro e w' ⟨rfl, rfl⟩
        go_wp2
        go_ret
        exact ⟨ret_b (by simp [h3]), HBB.out⟩
      have h3' : ((n2 : Int) != 3) = false := by simp; omega
      have H3 := Lib.hid h3
      clear h3
      cases a2
      · go_enter Try.func55, Try.ntmps55
        go_wp2_with fail
        refine (spec_inRange _ _ _ _).mono ?_
        rintro e w' ⟨rfl, rfl⟩
        go_wp2_with fail
        refine (HA1.out _ HB2.out HP1.out).mono ?_
        rintro e w' ⟨rfl, rfl⟩
        go_wp2_with fail
        refine (HA2.out _ HB2.out HP2.out).mono ?_
        rintro e w' ⟨rfl, rfl⟩
        go_wp2
        go_ret
        exact ⟨ret_b (by simp []), HBB.out⟩
      have H5 := Lib.hid h5'
      clear h5'
      cases o
      · by_cases h0 : n1 = 0
        · have h0' : ((n1 : Int) == 0) = true := by simp; omega
          have H0 := Lib.hid h0
          clear h0
          go_enter Try.func55, Try.ntmps55
          go_wp2_with fail
          refine (spec_inRange _ _ _ _).mono ?_
          rintro e w' ⟨rfl, rfl⟩
          go_wp2_with fail
          refine (HA1.out _ HB2.out HP1.out).mono ?_
          rintro e w' ⟨rfl, rfl⟩
          go_wp2_with fail
          refine (HA2.out _ HB2.out HP2.out).mono ?_
          rintro e w' ⟨rfl, rfl⟩
          go_wp2
          go_ret
          exact ⟨ret_b (by simp [H0.out, H3.out]), HBB.out⟩
        · have h0' : ((n1 : Int) == 0) = false := by simp; omega
          have H0 := Lib.hid h0
          clear h0
          go_enter Try.func55, Try.ntmps55
          go_wp2_with fail
          refine (spec_inRange _ _ _ _).mono ?_
          rintro e w' ⟨rfl, rfl⟩
          go_wp2_with fail
          refine (HA1.out _ HB2.out HP1.out).mono ?_
          rintro e w' ⟨rfl, rfl⟩
          go_wp2_with fail
          refine (HA2.out _ HB2.out HP2.out).mono ?_
          rintro e w' ⟨rfl, rfl⟩
          go_wp2
          go_ret
          exact ⟨ret_b (by simp [H0.out, H3.out]), HBB.out⟩
      cases po
      all_goals
        go_enter Try.func55, Try.ntmps55
        go_wp2_with fail
        refine (spec_inRange _ _ _ _).mono ?_
        rintro e w' ⟨rfl, rfl⟩
        go_wp2_with fail
        refine (HA1.out _ HB2.out HP1.out).mono ?_
        rintro e w' ⟨rfl, rfl⟩
        go_wp2_with fail
        refine (HA2.out _ HB2.out HP2.out).mono ?_
        rintro e w' ⟨rfl, rfl⟩
        go_wp2
        go_ret
        exact ⟨ret_b (by simp [H3.out, H5.out]), HBB.out⟩
theorem okO_false (ds : List On) (k : Nat) (hk : k < ds.length) (h : okO ds k = false) : validO ds = false := by
  unfold validO
  rw [show (List.range ds.length).all (okO ds) = false from List.all_eq_false.2 ⟨k, List.mem_range.2 hk, by rw [h]; simp⟩]
  rfl
theorem okO_all (ds : List On) (h : ∀ k, k < ds.length → okO ds k = true) : validO ds = rng ds.length 1 12 := by
  unfold validO
  rw [show (List.range ds.length).all (okO ds) = true from List.all_eq_true.2 fun k hk => h k (List.mem_range.1 hk)]
  rfl
set_option maxRecDepth 100000 in
set_option maxHeartbeats 800000 in
theorem spec_validOwners (A : Option Addr) (n c : Nat) (ds : List On) (w : World) (B : Nat) (hB : B ≤ w.heap.size) (hn : n = ds.length) (h : OS w B A ds) (hb : OB ds) :
    Calls Try.prog 38 #[.slice A n c] w fun e w' => e = .returned (.bool (validO ds)) ∧ Below w.heap.size w w' := by
  have hnb : n ≤ 1048576 := by rw [hn]; exact hb.1
  have HC := Lib.hid fun (i : Nat) (hi : i < n) (w' : World) (hB : B ≤ w'.heap.size) (h : OS w' B A ds) => spec_validOwner A n c ds w' B hB hn h hb i hi
  have H := Lib.hid h
  have HN := Lib.hid hn
  clear hn h hb
  go_enter Try.func38, Try.ntmps38
  go_wp2
  go_loopw [3] (fun i wr => ∃ k : Nat, k ≤ n ∧ i = .int .i64 k ∧ Hid (∀ j, j < k → okO ds j = true) ∧ Below w.heap.size w wr) (fun i _ => n - (intOf i).toNat)
  case atStart => exact ⟨0, Nat.zero_le _, rfl, fun j hj => by omega, Below.refl _ _⟩
  case round =>
    obtain ⟨k, hk, rfl, HA, hb⟩ := hrel
    by_cases hlt : k < n
    · have HCk := Lib.hid (HC.out k hlt)
      cases hok : okO ds k
      · rw [hok] at HCk
        go_wp2_with fail
        refine (HCk.out _ (Nat.le_trans hB hb.size) (H.out.below hb hB)).mono ?_
        rintro e w' ⟨rfl, hb1⟩
        go_wp2
        go_ret
        exact ⟨ret_b (okO_false ds k (by have := HN.out; omega) hok).symm, hb.trans (hb1.mono hb.size)⟩
      · rw [hok] at HCk
        have HOK := Lib.hid hok
        clear hok
        go_wp2_with fail
        refine (HCk.out _ (Nat.le_trans hB hb.size) (H.out.below hb hB)).mono ?_
        rintro e w' ⟨rfl, hb1⟩
        go_wp2
        go_roundw
        case rel => exact ⟨k + 1, by omega, by go_num, fun j hj => by
          rcases Nat.lt_or_ge j k with h1 | h1
          · exact HA.out j h1
          · obtain rfl : j = k := by omega
            exact HOK.out, hb.trans (hb1.mono hb.size)⟩
        case measure => simp [intOf]; omega
    · have hv := okO_all ds fun j hj => HA.out j (by have := HN.out; omega)
      rw [← HN.out] at hv
      have HV := Lib.hid hv
      clear hv
      go_wp2_with (go_at_call 39; refine (spec_inRange _ _ _ _).mono ?_; rintro e w' ⟨rfl, rfl⟩)
      go_ret
      exact ⟨ret_b HV.out.symm, hb⟩
end Go.Proofs.Ytjhpknnhgbdkiaa

namespace Go.Proofs.Ytjhpknnhgbdkiaa
set_option linter.unusedSimpArgs false
set_option linter.unusedVariables false
open Go.RowKit
/-- The four cells of a box. -/
structure Bx4 (b : Nat) (x y z t : Value) (w : World) : Prop where
  lt : b < w.heap.size
  c0 : w.cell? ⟨b, 0, none⟩ = some x
  c1 : w.cell? ⟨b, 1, none⟩ = some y
  c2 : w.cell? ⟨b, 2, none⟩ = some z
  c3 : w.cell? ⟨b, 3, none⟩ = some t
  f : ∀ j, w.frozen? ⟨b, j, none⟩ = false
theorem Bx4.step {b : Nat} {x y z t : Value} {w w' : World} {C : Nat} (h : Bx4 b x y z t w) (hb : Below C w w') (hC : b < C) : Bx4 b x y z t w' :=
  ⟨Nat.lt_of_lt_of_le h.lt hb.size, (hb.cell (p := ⟨b, 0, none⟩) hC).trans h.c0, (hb.cell (p := ⟨b, 1, none⟩) hC).trans h.c1, (hb.cell (p := ⟨b, 2, none⟩) hC).trans h.c2, (hb.cell (p := ⟨b, 3, none⟩) hC).trans h.c3, fun j => (hb.frozen (p := ⟨b, j, none⟩) hC).trans (h.f j)⟩
theorem Bx4.other {b g j : Nat} {x y z t u : Value} {w : World} (h : Bx4 b x y z t w) (hg : b ≠ g) : Bx4 b x y z t (w.setCell ⟨g, j, none⟩ u) := by
  have k (i : Nat) : (w.setCell ⟨g, j, none⟩ u).cell? ⟨b, i, none⟩ = w.cell? ⟨b, i, none⟩ := World.cell?_setCell_other _ _ _ _ (by intro e; cases e; exact hg rfl)
  exact ⟨by simpa [World.setCell] using h.lt, (k 0).trans h.c0, (k 1).trans h.c1, (k 2).trans h.c2, (k 3).trans h.c3, fun i => (World.frozen?_setCell _ _ _ _).trans (h.f i)⟩
theorem Bx4.set2 {b : Nat} {x y z t u : Value} {w : World} (h : Bx4 b x y z t w) : Bx4 b x y u t (w.setCell ⟨b, 2, none⟩ u) :=
  ⟨by simpa [World.setCell] using h.lt, (World.cell?_setCell_other _ _ _ _ (by simp)).trans h.c0, (World.cell?_setCell_other _ _ _ _ (by simp)).trans h.c1, World.cell?_setCell_same _ _ _ h.c2, (World.cell?_setCell_other _ _ _ _ (by simp)).trans h.c3, fun i => (World.frozen?_setCell _ _ _ _).trans (h.f i)⟩
theorem Bx4.alloc {b : Nat} {x y z t : Value} {w : World} (h : Bx4 b x y z t w) (o : Obj) : Bx4 b x y z t (w.alloc o) := h.step ((Below.refl w.heap.size w).alloc (Nat.le_refl _) o) h.lt
theorem box4_start (w : World) (x y z t : Value) (ty : TypeId) : Bx4 w.heap.size x y z t (w.alloc (.cells #[x, y, z, t] ty)) :=
  ⟨by simp, by go_simp, by go_simp, by go_simp, by go_simp, fun j => by go_simp⟩
/-- Returns owners in fresh blocks. -/
def RetO (w : World) (ds : List On) (e : Ending) (w' : World) : Prop := ∃ v, e = .returned v ∧ OwO w.heap.size w'.heap.size v ds.length ds w' ∧ Below w.heap.size w w'
theorem RetO.nil {w w' : World} (hb : Below w.heap.size w w') : RetO w [] (.returned (.slice none 0 0)) w' := ⟨_, rfl, OwO.nil _ _ _, hb⟩
end Go.Proofs.Ytjhpknnhgbdkiaa

namespace Go.Proofs.Ytjhpknnhgbdkiaa
set_option linter.unusedSimpArgs false
set_option linter.unusedVariables false
open Go.RowKit
theorem getD_snoc (ds : List On) (d : On) (j : Nat) : (ds ++ [d]).getD j default = if j = ds.length then d else ds.getD j default := by
  simp only [List.getD, List.getElem?_append]
  by_cases h : j < ds.length
  · rw [if_pos h, if_neg (by omega)]
  · rw [if_neg h]
    by_cases h2 : j = ds.length
    · subst h2; simp
    · rw [if_neg h2, List.getElem?_eq_none (by simp; omega), List.getElem?_eq_none (by omega)]
theorem OwO.snoc {lo hi mid top k : Nat} {v v' : Value} {ds : List On} {w w' : World} {d : On} {A A' : Option Addr} {m c m' c' : Nat} {xs us : List Value}
    (h0 : k = ds.length) (hx : OwR lo hi 32 4 v k xs w) (hul : us.length = k * 2) (hf : OwF xs us ds) (hs : SSk lo hi us (lenOf (rowsO ds)) (rowOf (rowsO ds)) w)
    (h1 : OwR hi mid 3 1 (.slice A m c) m (d.cl.map (Value.int .i64)) w) (hm : m = d.cl.length) (h2 : OwR mid top 3 1 (.slice A' m' c') m' (d.cx.map (Value.int .i64)) w) (hm' : m' = d.cx.length) (hlo : lo ≤ hi) (hmid : hi ≤ mid) (htop : mid ≤ top) (hsz : top ≤ w.heap.size)
    (hg : w.grownBy w' v.ownBlock) (hv : w'.ownsRow lo 32 4 v' (k + 1) (xs ++ [.int .i64 d.p, .bool d.o, .slice A m c, .slice A' m' c'])) : OwO lo w'.heap.size v' (k + 1) (ds ++ [d]) w' := by
  have hxl : xs.length = k * 4 := hx.1.1
  have hw' := hg.size
  have hs1 := hs.grown hg (hs.ne hx.1 owner_ne_int.symm)
  have r1 := h1.1.kept hg (blocks_ne h1.1 hx.1 owner_ne_int.symm)
  have r2 := h2.1.kept hg (blocks_ne h2.1 hx.1 owner_ne_int.symm)
  have hrow (i : Nat) : rowO (ds ++ [d]) i = if i = k * 2 then d.cl else if i = k * 2 + 1 then d.cx else rowO ds i := by
    unfold rowO
    rw [getD_snoc ds d (i / 2), ← h0]
    by_cases e1 : i / 2 = k
    · rw [if_pos e1]
      by_cases e2 : i % 2 = 0
      · rw [if_pos e2, if_pos (by omega)]
      · rw [if_neg e2, if_neg (by omega), if_pos (by omega)]
    · have e3 : ¬ i = k * 2 := by omega
      have e4 : ¬ i = k * 2 + 1 := by omega
      simp only [if_neg e1, if_neg e3, if_neg e4]
  refine ⟨by simp [h0], _, (us ++ [.slice A m c]) ++ [.slice A' m' c'], ⟨hv, fun q hq => (hv.lt q hq).2⟩, by simp [hul]; omega, ?_, ?_⟩
  · intro j hj
    rw [getD_snoc ds d j, ← h0]
    by_cases e : j = k
    · subst e
      rw [if_pos rfl]
      refine ⟨?_, ?_, ?_, ?_⟩
      · rw [List.getElem?_append_right (by omega), hxl]; simp
      · rw [List.getElem?_append_right (by omega), hxl, show j * 4 + 1 - j * 4 = 1 by omega]; rfl
      · rw [List.getElem?_append_right (by omega), hxl, show j * 4 + 2 - j * 4 = 2 by omega, List.getElem?_append_left (by simp; omega), List.getElem?_append_right (by omega), hul]; simp
      · rw [List.getElem?_append_right (by omega), hxl, show j * 4 + 3 - j * 4 = 3 by omega, List.getElem?_append_right (by simp; omega)]; simp [hul]
    · rw [if_neg e]
      have hjk : j < k := by simp at hj; omega
      obtain ⟨f0, f1, f2, f3⟩ := hf j (by omega)
      refine ⟨?_, ?_, ?_, ?_⟩
      · rw [List.getElem?_append_left (by omega)]; exact f0
      · rw [List.getElem?_append_left (by omega)]; exact f1
      · rw [List.getElem?_append_left (by omega), List.getElem?_append_left (by simp; omega), List.getElem?_append_left (by omega)]; exact f2
      · rw [List.getElem?_append_left (by omega), List.getElem?_append_left (by simp; omega), List.getElem?_append_left (by omega)]; exact f3
  · have p1 : SSk lo mid (us ++ [.slice A m c]) (fun i => if i = k * 2 then d.cl.length else lenOf (rowsO ds) i) (fun i => if i = k * 2 then d.cl.map (Value.int .i64) else rowOf (rowsO ds) i) w' :=
      hs1.put (A := A) (m := m) (c := c) (k * 2) (by rw [List.getElem?_append_right (by omega), hul]; simp) (fun j hj => by
        rcases Nat.lt_or_ge j (k * 2) with h | h
        · rw [List.getElem?_append_left (by omega)]
        · rw [List.getElem?_eq_none (by simp; omega), List.getElem?_eq_none (by omega)]) (fun j hj h => by simp at hj; omega) (by simpa using hm) (fun j hj => by simp [hj]) (by simpa using ⟨r1, h1.2⟩) hlo hmid
    have p2 := p1.put (hi' := top) (k := k * 2 + 1) (vs' := (us ++ [.slice A m c]) ++ [.slice A' m' c']) (lens' := lenOf (rowsO (ds ++ [d]))) (cont' := rowOf (rowsO (ds ++ [d]))) (A := A') (m := m') (c := c') (by rw [List.getElem?_append_right (by simp; omega)]; simp [hul]) (fun j hj => by
        rcases Nat.lt_or_ge j (k * 2 + 1) with h | h
        · rw [List.getElem?_append_left (by simp; omega)]
        · rw [List.getElem?_eq_none (by simp; omega), List.getElem?_eq_none (by simp; omega)]) (fun j hj h => by simp at hj ⊢; omega) ?_ (fun j hj => ?_) ?_ (by omega) htop
    · exact p2.mono (Nat.le_refl _) (by omega)
    · rw [lenOfO, hrow, if_neg (by omega), if_pos rfl]; exact hm'
    · rw [lenOfO, rowOfO, hrow]
      by_cases e : j = k * 2
      · simp [e]
      · rw [if_neg e, if_neg hj, if_neg e, if_neg e, ← lenOfO, ← rowOfO]; exact ⟨rfl, rfl⟩
    · rw [rowOfO, hrow, if_neg (by omega), if_pos rfl]; exact ⟨r2, h2.2⟩
end Go.Proofs.Ytjhpknnhgbdkiaa

namespace Go.Proofs.Ytjhpknnhgbdkiaa
set_option linter.unusedSimpArgs false
set_option linter.unusedVariables false
open Go.RowKit
theorem news_of_ints {w : World} {b off n : Nat} {xs : List Int} (hc : ∀ j, j < xs.length → w.cell? ⟨b, off + j, none⟩ = some (.int .i64 (xs.getD j 0))) : ∀ j u, (xs.map (Value.int .i64))[j]? = some u → w.cell? ((⟨b, off, none⟩ : Addr).add j) = some u := by
  intro j u hu
  have hj : j < xs.length := by
    rcases Nat.lt_or_ge j xs.length with h1 | h1
    · exact h1
    · rw [List.getElem?_eq_none (by simpa using h1)] at hu; cases hu
  have hadd : (⟨b, off, none⟩ : Addr).add j = ⟨b, off + j, none⟩ := by unfold Addr.add; split <;> simp_all
  rw [hadd, hc j hj, ← hu]
  simp [List.getD, hj]
theorem ints_one (xs : List Int) : ∀ u ∈ xs.map (Value.int .i64), u.oneCell' = true := by
  intro u hu
  obtain ⟨x, _, rfl⟩ := List.mem_map.1 hu
  rfl
set_option maxHeartbeats 800000 in
theorem spec_copyInts (A : Option Addr) (n c : Nat) (xs : List Int) (w : World) (B : Nat) (hB : B ≤ w.heap.size) (hn : n = xs.length) (h : IS w B A xs) (hs : n ≤ 2000000) (hp : 0 < n) :
    Calls Try.prog 60 #[.slice A n c] w fun e w' => ∃ g cap, e = .returned (.slice (some ⟨g, 0, none⟩) n cap) ∧ w'.ownsRow w.heap.size 3 1 (.slice (some ⟨g, 0, none⟩) n cap) n (xs.map (Value.int .i64)) ∧ Below w.heap.size w w' := by
  obtain ⟨i0, hi, hz0, hz1, hz2⟩ := info_parts info_int
  obtain ⟨b, off, rfl, hbB, hc⟩ := h (by omega)
  have hnew := World.ownsRow_lit (e := 3) (size := 1) (base := w.heap.size) w #[] 0 (Nat.le_refl _) (by unfold maxLen; omega) (by simp)
  have hnews := news_of_ints (n := n) (fun j hj => (World.cell?_alloc_lt w (.cells #[] 3) ⟨b, off + j, none⟩ (show b < w.heap.size by omega)).trans (hc j hj))
  have HNEW := Lib.hid hnew
  have HNS := Lib.hid hnews
  have HN := Lib.hid hn
  clear hnew hnews hc hn h
  go_enter Try.func60, Try.ntmps60
  go_wp2_with (at_builtin; refine wpList_append_own_at _ rfl _ _ 26 rfl w.heap.size 3 i0 (.int .i64 0) 1 8 Try.underlying26 hi hz0 hz1 hz2 rfl (by decide) _ _ _ rfl HNEW.out ⟨b, off, none⟩ n c (xs.map (Value.int .i64)) rfl ?d1 HNS.out (ints_one xs) ?d3 ?d4 ?d5 ?_)
  case d1 => have := HN.out; first | omega | (simp; omega)
  case d3 => unfold maxLen; omega
  case d4 => omega
  intro v' w3 hown' hgrow _ _
  have hown'' : w3.ownsRow w.heap.size 3 1 v' n (xs.map (Value.int .i64)) := by simpa using hown'
  obtain ⟨g, cap, rfl⟩ : ∃ g cap, v' = .slice (some ⟨g, 0, none⟩) n cap := by
    rcases hown''.2 with ⟨_, h0⟩ | ⟨g, cap, cur, hv, _⟩
    · omega
    · exact ⟨g, cap, hv⟩
  have HO := Lib.hid hown''
  have hb3 : Below w.heap.size w w3 := ((Below.refl _ _).alloc (Nat.le_refl _) (.cells #[] 3)).grown hgrow (by simp) (fun k hk => by simp [Value.ownBlock] at hk; omega)
  clear hown' hown'' hgrow
  go_wp2
  go_ret
  exact ⟨g, cap, rfl, HO.out, hb3⟩
end Go.Proofs.Ytjhpknnhgbdkiaa

namespace Go.Proofs.Ytjhpknnhgbdkiaa
set_option linter.unusedSimpArgs false
set_option linter.unusedVariables false
open Go.RowKit
section
variable {P : Program} {w : World}
theorem run_append_zero (base : Nat) (t ty e : TypeId) (i : TypeInfo) (size : Nat) (ht : P.underlying t = some (.slice e)) (hi : P.info? e = some i) (v : Value) (n : Nat) (xs : List Value) (hown : w.ownsRow base e size v n xs) (A : Option Addr) (c : Nat) :
    (Builtin.append_ #[t, t] ty #[v, .slice A 0 c]).run P w = .ok v w := by
  rcases hown.2 with ⟨rfl, rfl⟩ | ⟨g, cap, cur, rfl, _, _, hnc, _⟩
  · cases A <;> simp [Builtin.append_, run_underlying ht, sizeOf, typeInfo, hi, Builtin.lenOf, Builtin.firstCells, loadCells, loadCellsFrom, storeCells, Result.andThen]
  · cases A <;> simp [Builtin.append_, run_underlying ht, sizeOf, typeInfo, hi, Builtin.lenOf, Builtin.firstCells, hnc, loadCells, loadCellsFrom, storeCells, Result.andThen]
theorem wpList_append_zero {ops : Array Oper} {rest : List Oper} {o : Oper} {a : Act} {Q : Exit → Act → World → Prop} (hgd : o.guard = none) (s x : Operand) (t : TypeId)
    (ho : o.op = .call { callee := .builtin .append, args := #[s, x], argTypes := #[t, t] })
    (base : Nat) (e : TypeId) (i : TypeInfo) (size : Nat) (ht : P.underlying t = some (.slice e)) (hi : P.info? e = some i)
    (v : Value) (n : Nat) (xs : List Value) (hs : a.eval s = v) (hown : w.ownsRow base e size v n xs) (A : Option Addr) (c : Nat) (hx : a.eval x = .slice A 0 c)
    (h : wpList P ops Q rest (a.put o.dst v) w) : wpList P ops Q (o :: rest) a w := by
  refine wpList_plain hgd fun K hK => ?_
  have hrun := run_append_zero (P := P) (w := w) base t o.type e i size ht hi v n xs hown A c
  unfold Oper.wp
  simp [execOp, ho, resolve, invoke, builtin, hs, hx, hrun, Result.andThen]
  exact hK _ _ h
end
set_option maxHeartbeats 800000 in
theorem spec_copyIntsA (A : Option Addr) (n c : Nat) (xs : List Int) (w : World) (B : Nat) (hB : B ≤ w.heap.size) (hn : n = xs.length) (h : IS w B A xs) (hs : n ≤ 2000000) :
    Calls Try.prog 60 #[.slice A n c] w fun e w' => ∃ g cap, e = .returned (.slice (some ⟨g, 0, none⟩) n cap) ∧ w'.ownsRow w.heap.size 3 1 (.slice (some ⟨g, 0, none⟩) n cap) n (xs.map (Value.int .i64)) ∧ Below w.heap.size w w' := by
  by_cases hp : 0 < n
  · exact spec_copyInts A n c xs w B hB hn h hs hp
  · obtain rfl : n = 0 := by omega
    have hx : xs = [] := List.eq_nil_of_length_eq_zero hn.symm
    subst hx
    obtain ⟨i0, hi, hz0, hz1, hz2⟩ := info_parts info_int
    have hnew := World.ownsRow_lit (e := 3) (size := 1) (base := w.heap.size) w #[] 0 (Nat.le_refl _) (by unfold maxLen; omega) (by simp)
    have HNEW := Lib.hid hnew
    clear hnew hn h
    go_enter Try.func60, Try.ntmps60
    go_wp2_with (at_builtin; refine wpList_append_zero rfl _ _ 26 rfl w.heap.size 3 i0 1 Try.underlying26 hi _ 0 _ rfl HNEW.out A c rfl ?_)
    go_ret
    exact ⟨_, _, rfl, by simpa using HNEW.out, (Below.refl _ _).alloc (Nat.le_refl _) _⟩
end Go.Proofs.Ytjhpknnhgbdkiaa

namespace Go.Proofs.Ytjhpknnhgbdkiaa
set_option linter.unusedSimpArgs false
set_option linter.unusedVariables false
open Go.RowKit
theorem cells_new (w : World) (cs : Array Value) (t : TypeId) (xs : List Value) (hx : cs.toList = xs) : ∀ j u, xs[j]? = some u → (w.alloc (.cells cs t)).cell? ((⟨w.heap.size, 0, none⟩ : Addr).add j) = some u := by
  subst hx
  intro j u hj
  have hadd : (⟨w.heap.size, 0, none⟩ : Addr).add j = ⟨w.heap.size, j, none⟩ := by unfold Addr.add; split <;> simp_all
  rw [hadd, cell_of_row _ w.heap.size j cs t (0, 0) (heap_alloc_new w _)]
  simpa using hj
end Go.Proofs.Ytjhpknnhgbdkiaa

namespace Go.Proofs.Ytjhpknnhgbdkiaa
set_option linter.unusedSimpArgs false
set_option linter.unusedVariables false
open Go.RowKit
theorem Bx4.set3 {b : Nat} {x y z t u : Value} {w : World} (h : Bx4 b x y z t w) : Bx4 b x y z u (w.setCell ⟨b, 3, none⟩ u) :=
  ⟨by simpa [World.setCell] using h.lt, (World.cell?_setCell_other _ _ _ _ (by simp)).trans h.c0, (World.cell?_setCell_other _ _ _ _ (by simp)).trans h.c1, (World.cell?_setCell_other _ _ _ _ (by simp)).trans h.c2, World.cell?_setCell_same _ _ _ h.c3, fun i => (World.frozen?_setCell _ _ _ _).trans (h.f i)⟩
set_option maxRecDepth 100000 in
set_option maxHeartbeats 3200000 in
theorem spec_copyOwners (A : Option Addr) (n c : Nat) (ds : List On) (w : World) (B : Nat) (hB : B ≤ w.heap.size) (hn : n = ds.length) (h : OS w B A ds) (hb : OB ds) :
    Calls Try.prog 52 #[.slice A n c] w fun e w' => RetO w ds e w' := by
  obtain ⟨i1, hi1, hy0, hy1, hy2⟩ := info_parts info_owner
  have hnb : n ≤ 1048576 := by rw [hn]; exact hb.1
  have H := Lib.hid h
  have HN := Lib.hid hn
  have HBD := Lib.hid hb
  clear hn h hb
  go_enter Try.func52, Try.ntmps52
  go_wp2
  go_loopw [3, 4] (fun v i wr => ∃ k : Nat, k ≤ n ∧ i = .int .i64 k ∧ Hid (OwO w.heap.size wr.heap.size v k (ds.take k) wr) ∧ Hid (Below w.heap.size w wr) ∧ w.heap.size ≤ wr.heap.size) (fun _ i _ => n - (intOf i).toNat)
  case atStart =>
    refine ⟨0, Nat.zero_le _, rfl, ?_, (Below.refl _ _).alloc (Nat.le_refl _) _, by simp⟩
    have hl := World.ownsRow_lit (e := 32) (size := 4) (base := w.heap.size) w #[] 0 (Nat.le_refl _) (by unfold maxLen; omega) rfl
    exact ⟨rfl, [], [], OwR.start (by simpa using hl), rfl, fun j hj => by simp at hj, ⟨fun j hj => by simp at hj, fun i j v u k _ h1 => by simp at h1⟩⟩
  case round =>
    obtain ⟨k, hk, rfl, HO, HB, hwr⟩ := hrel
    by_cases hlt : k < n
    · obtain ⟨b, off, rfl, hbB, c0, c1, ⟨A1, n1, d1, c2, hn1', hp1⟩, A2, n2, d2, c3, hn2', hp2⟩ := H.out.at_ k (by have := HN.out; omega)
      have hx := HBD.out.2.2 k
      have b0 := (HB.out.cell (p := ⟨b, off + k * 4, none⟩) (by simp; omega)).trans c0
      have b1 := (HB.out.cell (p := ⟨b, off + k * 4 + 1, none⟩) (by simp; omega)).trans c1
      have b2 := (HB.out.cell (p := ⟨b, off + k * 4 + 2, none⟩) (by simp; omega)).trans c2
      have b3 := (HB.out.cell (p := ⟨b, off + k * 4 + 3, none⟩) (by simp; omega)).trans c3
      have HTK := Lib.hid (take_succ_getD ds k (by have := HN.out; omega))
      have HP1 := Lib.hid (hp1.below HB.out hB)
      have HP2 := Lib.hid (hp2.below HB.out hB)
      generalize ds.getD k default = d at *
      obtain ⟨p, o, cl, cx⟩ := d
      dsimp only at *
      have HC1 := Lib.hid fun (w' : World) (hB : B ≤ w'.heap.size) (h : IS w' B A1 cl) => spec_copyIntsA A1 n1 d1 cl w' B hB hn1' h (by omega)
      have HC2 := Lib.hid fun (w' : World) (hB : B ≤ w'.heap.size) (h : IS w' B A2 cx) => spec_copyIntsA A2 n2 d2 cx w' B hB hn2' h (by omega)
      have HN1 := Lib.hid hn1'
      have HN2 := Lib.hid hn2'
      have hBw : B ≤ wr.heap.size := by omega
      have X1 := Lib.hid (box4_start wr (.int .i64 p) (.bool o) (.slice A1 n1 d1) (.slice A2 n2 d2) 32)
      have HBX : Hid (Below wr.heap.size wr (wr.alloc (.cells #[.int .i64 p, .bool o, .slice A1 n1 d1, .slice A2 n2 d2] 32))) := (Below.refl _ _).alloc (Nat.le_refl _) _
      clear c0 c1 c2 c3 hn1' hn2' hp1 hp2 hx H
      go_wp2_with fail
      generalize hW1 : wr.alloc (.cells #[.int .i64 p, .bool o, .slice A1 n1 d1, .slice A2 n2 d2] 32) = W1 at *
      have hs1 : wr.heap.size < W1.heap.size := X1.out.lt
      clear hW1
      refine (HC1.out W1 (by omega) (HP1.out.below HBX.out hBw)).mono ?_
      rintro e w2 ⟨g1, cap1, rfl, ho1, hb1⟩
      have hs2 := hb1.size
      have X2 := Lib.hid (X1.out.step hb1 hs1)
      have q1 := X2.out.c2
      have q2 := X2.out.f 2
      have q3 := X2.out.c3
      obtain ⟨W3, hW3⟩ : ∃ W : World, W = w2.setCell ⟨wr.heap.size, 2, none⟩ (.slice (some ⟨g1, 0, none⟩) n1 cap1) := ⟨_, rfl⟩
      have HS3 : Hid (W3.heap.size = w2.heap.size) := by rw [hW3]; simp [World.setCell, Hid]
      have X3 := Lib.hid (show Bx4 _ _ _ (.slice (some ⟨g1, 0, none⟩) n1 cap1) _ W3 from by rw [hW3]; exact X2.out.set2)
      have HB3 : Hid (Below wr.heap.size wr W3) := by rw [hW3]; exact (HBX.out.trans (hb1.mono (by omega))).setCell (Nat.le_refl _) _
      have ho3 := ownsRow_setCell_below ho1 (a := ⟨wr.heap.size, 2, none⟩) (by simp; omega) (.slice (some ⟨g1, 0, none⟩) n1 cap1)
      rw [← hW3] at ho3
      have HO3 := Lib.hid ho3
      have hs3 : W1.heap.size ≤ W3.heap.size := by have := HS3.out; omega
      have hg1 := (ho1.lt g1 rfl).2
      have HG1 : Hid (g1 < W3.heap.size) := by have := HS3.out; show _ < _; omega
      clear ho1 hb1 ho3 X1 X2 HBX hg1
      go_wp2_with fail
      rw [← hW3]
      clear hW3 q1 q2 q3
      refine (HC2.out W3 (by omega) (HP2.out.below HB3.out hBw)).mono ?_
      rintro e w4 ⟨g2, cap2, rfl, ho4, hb4⟩
      have hs4 := hb4.size
      have X4 := Lib.hid (X3.out.step hb4 (by omega))
      have HO4 := Lib.hid (own_below HO3.out hb4)
      have q1 := X4.out.c3
      have q2 := X4.out.f 3
      obtain ⟨W5, hW5⟩ : ∃ W : World, W = w4.setCell ⟨wr.heap.size, 3, none⟩ (.slice (some ⟨g2, 0, none⟩) n2 cap2) := ⟨_, rfl⟩
      have HS5 : Hid (W5.heap.size = w4.heap.size) := by rw [hW5]; simp [World.setCell, Hid]
      have X5 := Lib.hid (show Bx4 _ _ _ _ (.slice (some ⟨g2, 0, none⟩) n2 cap2) W5 from by rw [hW5]; exact X4.out.set3)
      have HB5 : Hid (Below wr.heap.size wr W5) := by rw [hW5]; exact (HB3.out.trans (hb4.mono (by omega))).setCell (Nat.le_refl _) _
      have r1 := ownsRow_setCell_below HO4.out (a := ⟨wr.heap.size, 3, none⟩) (by simp; omega) (.slice (some ⟨g2, 0, none⟩) n2 cap2)
      have r2 := ownsRow_setCell_below ho4 (a := ⟨wr.heap.size, 3, none⟩) (by simp; omega) (.slice (some ⟨g2, 0, none⟩) n2 cap2)
      rw [← hW5] at r1 r2
      have HG2 : Hid (g2 < w4.heap.size) := (ho4.lt g2 rfl).2
      have R1 : Hid (OwR wr.heap.size W3.heap.size 3 1 (.slice (some ⟨g1, 0, none⟩) n1 cap1) n1 (cl.map (Value.int .i64)) W5) := ⟨own_mono r1 (by omega), fun q hq => by cases hq; exact HG1.out⟩
      have R2 : Hid (OwR W3.heap.size w4.heap.size 3 1 (.slice (some ⟨g2, 0, none⟩) n2 cap2) n2 (cx.map (Value.int .i64)) W5) := ⟨r2, fun q hq => by cases hq; exact HG2.out⟩
      have e0 := X5.out.c0
      have e1 := X5.out.c1
      have e2 := X5.out.c2
      have e3 := X5.out.c3
      have HOW := Lib.hid (HO.out.step HB5.out (Nat.le_refl _))
      obtain ⟨-, xs, us, hr, hul, hf, hs⟩ := HOW.out
      have HHR := Lib.hid hr
      have HUL := Lib.hid hul
      have HF := Lib.hid hf
      have HSS := Lib.hid hs
      have hl5 : wr.heap.size < W5.heap.size := by have := HS5.out; omega
      have HMS : Hid (wr.heap.size ≤ W3.heap.size ∧ W3.heap.size ≤ w4.heap.size ∧ w4.heap.size ≤ W5.heap.size) := ⟨by omega, by omega, by have := HS5.out; omega⟩
      clear ho4 hb4 X3 X4 HO3 HO4 r1 r2 HC1 HC2 HP1 HP2 HB3 HG1 HG2 hr hul hf hs HOW hs1 hs2 hs3 hs4
      go_upto_region 8 with fail
      rw [← hW5]
      clear hW5 q1 q2
      go_wp2_with (at_builtin; refine wpList_append_own _ rfl _ _ 23 rfl w.heap.size 32 i1 _ 4 64 Try.underlying23 hi1 hy0 hy1 hy2 rfl (by decide) _ _ _ rfl (HHR.out.1.alloc _) ⟨_, 0, none⟩ 1 1 [.int .i64 p, .bool o, .slice (some ⟨g1, 0, none⟩) n1 cap1, .slice (some ⟨g2, 0, none⟩) n2 cap2] rfl rfl (cells_new _ _ _ _ rfl) ?c2 ?c3 ?c4 ?c5 ?_)
      case c2 => first | rfl | (intro u hu; simp at hu; rcases hu with rfl | rfl | rfl | rfl <;> rfl)
      case c3 => unfold maxLen; omega
      case c4 => omega
      case c5 => first | omega | (simp; omega)
      intro v' w6 hown' hgrow _
      have hz6 := hgrow.size
      have HSN : Hid (OwO w.heap.size w6.heap.size v' (k + 1) (ds.take k ++ [⟨p, o, cl, cx⟩]) w6) :=
        OwO.snoc (d := ⟨p, o, cl, cx⟩) (lo := w.heap.size) (hi := wr.heap.size) (mid := W3.heap.size) (top := w4.heap.size) (by have := HN.out; simp; omega)
          (HHR.out.keep (w' := W5.alloc (.cells #[.int .i64 p, .bool o, .slice (some ⟨g1, 0, none⟩) n1 cap1, .slice (some ⟨g2, 0, none⟩) n2 cap2] 32)) fun q _ hq => ((Below.refl W5.heap.size W5).alloc (Nat.le_refl _) _).block q (by omega)) HUL.out HF.out
          (HSS.out.keep fun q _ hq => ((Below.refl W5.heap.size W5).alloc (Nat.le_refl _) _).block q (by omega))
          (R1.out.keep fun q _ hq => ((Below.refl W5.heap.size W5).alloc (Nat.le_refl _) _).block q (by have := HMS.out; omega)) HN1.out
          (R2.out.keep fun q _ hq => ((Below.refl W5.heap.size W5).alloc (Nat.le_refl _) _).block q (by have := HMS.out; omega)) HN2.out
          hwr HMS.out.1 HMS.out.2.1 (by have := HMS.out.2.2; simp; omega) hgrow hown'
      have hpos := (HHR.out.1.alloc (.cells #[.int .i64 p, .bool o, .slice (some ⟨g1, 0, none⟩) n1 cap1, .slice (some ⟨g2, 0, none⟩) n2 cap2] 32)).lt
      have HB6 := Lib.hid ((HB.out.trans (HB5.out.mono hwr)).alloc (Nat.le_trans hwr (Nat.le_of_lt hl5)) (.cells #[.int .i64 p, .bool o, .slice (some ⟨g1, 0, none⟩) n1 cap1, .slice (some ⟨g2, 0, none⟩) n2 cap2] 32) |>.grown hgrow (by simp; omega) (fun q hq => (hpos q hq).1))
      clear hown' hgrow hpos e0 e1 e2 e3 hz6
      go_wp2
      go_roundw
      case rel => exact ⟨k + 1, by omega, by go_num, by rw [HTK.out]; exact HSN.out, HB6.out, HB6.out.size⟩
      case measure => simp [intOf]; omega
    · obtain rfl : k = n := by omega
      go_wp2
      go_ret
      refine ⟨_, rfl, ?_, HB.out⟩
      have h1 := HO.out
      rw [HN.out, List.take_of_length_le (Nat.le_refl _)] at h1
      exact h1
end Go.Proofs.Ytjhpknnhgbdkiaa

namespace Go.Proofs.Ytjhpknnhgbdkiaa
set_option linter.unusedSimpArgs false
set_option linter.unusedVariables false
open Go.RowKit
section
variable {lo hi : Nat} {w : World}
/-- One row more behind. -/
theorem SSk.snoc {us : List Value} {x : List Int} {xs : List (List Int)} {A : Option Addr} {n c : Nat} (h : SSk lo hi us (lenOf xs) (rowOf xs) w) (hl : us.length = xs.length) (hr : OwR lo hi 3 1 (.slice A n c) n (x.map (Value.int .i64)) w) (hn : n = x.length) (hap : ∀ (j : Nat) (u : Value) (k : Nat), us[j]? = some u → (Value.slice A n c).ownBlock = some k → u.ownBlock ≠ some k) : SSk lo hi (us ++ [.slice A n c]) (lenOf (xs ++ [x])) (rowOf (xs ++ [x])) w := by
  have hin : ∀ j, j < us.length → (us ++ [Value.slice A n c])[j]? = us[j]? ∧ (xs ++ [x]).getD j [] = xs.getD j [] := fun j hj => ⟨List.getElem?_append_left hj, by simp only [List.getD, List.getElem?_append_left (show j < xs.length by omega)]⟩
  have hlast : (us ++ [Value.slice A n c])[us.length]? = some (.slice A n c) ∧ (xs ++ [x]).getD us.length [] = x := ⟨by simp, by rw [hl]; simp [List.getD]⟩
  have hout : ∀ j v, (us ++ [Value.slice A n c])[j]? = some v → j < us.length ∨ (j = us.length ∧ v = .slice A n c) := by
    intro j v hv
    rcases Nat.lt_trichotomy j us.length with h1 | h1 | h1
    · exact .inl h1
    · subst h1; rw [hlast.1] at hv; cases hv; exact .inr ⟨rfl, rfl⟩
    · rw [List.getElem?_eq_none (by simp; omega)] at hv; cases hv
  refine ⟨fun j hj => ?_, fun i j v u k hij h3 h4 hv hu => ?_⟩
  · by_cases h1 : j < us.length
    · obtain ⟨A', m, c', r1, r2, r3⟩ := h.row j h1
      refine ⟨A', m, c', (hin j h1).1.trans r1, ?_, ?_⟩
      · rw [r2]; unfold lenOf; rw [(hin j h1).2]
      · have : rowOf (xs ++ [x]) j = rowOf xs j := by unfold rowOf; rw [(hin j h1).2]
        rw [this]; exact r3
    · obtain rfl : j = us.length := by simp at hj; omega
      refine ⟨A, n, c, hlast.1, ?_, ?_⟩
      · unfold lenOf; rw [hlast.2]; exact hn
      · have : rowOf (xs ++ [x]) us.length = x.map (Value.int .i64) := by unfold rowOf; rw [hlast.2]
        rw [this]; exact hr
  · rcases hout i v h3 with h1 | ⟨h1, rfl⟩
    · rcases hout j u h4 with h2 | ⟨h2, rfl⟩
      · exact h.apart i j v u k hij ((hin i h1).1.symm.trans h3) ((hin j h2).1.symm.trans h4) hv hu
      · exact hap i v k ((hin i h1).1.symm.trans h3) hu hv
    · rcases hout j u h4 with h2 | ⟨h2, rfl⟩
      · exact hap j u k ((hin j h2).1.symm.trans h4) hv hu
      · omega
end
end Go.Proofs.Ytjhpknnhgbdkiaa

namespace Go.Proofs.Ytjhpknnhgbdkiaa
set_option linter.unusedSimpArgs false
set_option linter.unusedVariables false
open Go.RowKit
-- WANT nwTo nwTo_step nwTo_len nwTo_zero RetI nil mono cell_one_new info_parts info_int
def hasO (ds : List On) (o : Int) : Bool := validO ds && rng o 0 ((ds.length : Int) - 1)
theorem hasO_at {ds : List On} {o : Int} (h : hasO ds o = true) : ∃ k : Nat, o = k ∧ k < ds.length ∧ validO ds = true := by
  unfold hasO at h
  rw [Bool.and_eq_true, rng_iff] at h
  exact ⟨o.toNat, by omega, by omega, h.1⟩
end Go.Proofs.Ytjhpknnhgbdkiaa

namespace Go.Proofs.Ytjhpknnhgbdkiaa
set_option linter.unusedSimpArgs false
set_option linter.unusedVariables false
open Go.RowKit
theorem sum_le_mul (l : List (List Int)) (m : Nat) (h : ∀ j, (l.getD j []).length ≤ m) : (l.map List.length).sum ≤ l.length * m := by
  induction l with
  | nil => simp
  | cons x l ih =>
    have h0 := h 0
    have := ih fun j => h (j + 1)
    simp only [List.getD_cons_zero] at h0
    simp only [List.map_cons, List.sum_cons, List.length_cons, Nat.add_mul]
    omega
theorem OB.small {ds : List On} (hl : ds.length ≤ 12) (h : ∀ j, (ds.getD j default).cl.length ≤ 100 ∧ (ds.getD j default).cx.length ≤ 100) : OB ds := by
  have h1 := sum_le_mul (rowsO ds) 100 fun j => by
    rw [rowsO_getD]; unfold rowO
    split
    · exact (h _).1
    · exact (h _).2
  rw [rowsO_len] at h1
  exact OB.of_sum (by omega) (by omega)
theorem okO_len {ds : List On} (h : validO ds = true) (i : Nat) : (ds.getD i default).cl.length ≤ 5 ∧ (ds.getD i default).cx.length ≤ 3 := by
  by_cases hi : i < ds.length
  · have h1 := (validO_ok h).2.2 i hi
    unfold okO okD clOK ctxOK at h1
    simp only [Bool.and_eq_true, decide_eq_true_eq] at h1
    exact ⟨h1.2.1.1.1, by omega⟩
  · rw [show ds.getD i default = default by simp [List.getD, List.getElem?_eq_none (show ds.length ≤ i by omega)]]
    exact ⟨Nat.zero_le _, Nat.zero_le _⟩
def hasOpO (ds : List On) (o : Int) : Bool := hasO ds o && opn ds o
theorem hasOpO_at {ds : List On} {o : Int} (h : hasOpO ds o = true) : ∃ k : Nat, o = k ∧ k < ds.length ∧ validO ds = true := by
  unfold hasOpO at h
  rw [Bool.and_eq_true] at h
  exact hasO_at h.1
set_option maxHeartbeats 800000 in
theorem spec_isOpen (A : Option Addr) (n c : Nat) (ds : List On) (o : Int) (w : World) (B : Nat) (hB : B ≤ w.heap.size) (hn : n = ds.length) (h : OS w B A ds) (hs : n ≤ 1048576) :
    Calls Try.prog 51 #[.slice A n c, .int .i64 o] w fun e w' => e = .returned (.bool (rng o 0 ((n : Int) - 1) && opn ds o)) ∧ w = w' := by
  cases hr : rng o 0 ((n : Int) - 1)
  · clear hn h
    go_enter Try.func51, Try.ntmps51
    go_wp2_with fail
    refine (spec_inRange _ _ _ _).mono ?_
    rintro e w' ⟨rfl, rfl⟩
    go_wp2
    go_ret
    exact ⟨rfl, rfl⟩
  · obtain ⟨h0, h1⟩ := (rng_iff _ _ _).1 hr
    obtain ⟨k, rfl⟩ : ∃ k : Nat, o = k := ⟨o.toNat, by omega⟩
    have hkn : k < n := by omega
    obtain ⟨b, off, rfl, hbB, c0, c1, -, -⟩ := h.at_ k (by omega)
    have hop : opn ds (k : Int) = (ds.getD k default).o := by simp [opn]
    rw [hop]
    generalize (ds.getD k default).o = po at *
    clear hn h hop c0 h0 h1
    go_enter Try.func51, Try.ntmps51
    go_wp2_with fail
    refine (spec_inRange _ _ _ _).mono ?_
    rintro e w' ⟨rfl, rfl⟩
    go_wp2
    go_ret
    exact ⟨ret_b (by simp), rfl⟩
end Go.Proofs.Ytjhpknnhgbdkiaa
