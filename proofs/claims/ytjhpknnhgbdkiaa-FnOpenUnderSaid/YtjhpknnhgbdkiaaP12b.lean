/- Words and contracts for memory that the texts behind use. -/
import Derived.Test.YtjhpknnhgbdkiaaP0a
import Derived.Test.YtjhpknnhgbdkiaaP1a
import Derived.Test.YtjhpknnhgbdkiaaP2a
import Derived.Test.YtjhpknnhgbdkiaaP3a
import Derived.Test.YtjhpknnhgbdkiaaP4a
import Derived.Test.YtjhpknnhgbdkiaaP5a
import Derived.Test.YtjhpknnhgbdkiaaP6a
import Derived.Test.YtjhpknnhgbdkiaaP7a
import Derived.Test.YtjhpknnhgbdkiaaP8a
import Derived.Test.YtjhpknnhgbdkiaaP9a
import Derived.Test.YtjhpknnhgbdkiaaP10a
import Derived.Test.YtjhpknnhgbdkiaaP11a
import Derived.WalkKit
import Derived.Laws.OwnMore
import Derived.Deep.Draws
import Derived.Test.YtjhpknnhgbdkiaaProg
import Derived.WalkSpells
import Derived.WalkLawsBesides
import Derived.Outline
import Derived.Lib.Hide
import Derived.BigQuiet
import Derived.Deep.QuietTactic
import Derived.StillTailTactics
import Derived.Deep.LoopGhost
import Derived.Laws.MakeOwn
import Derived.WalkSmall
import Derived.RegionTactic
import Derived.BigRegion
import Derived.Deep.RegionWith
import Derived.Deep.RegionHeld3
import Derived.Maps.AppendAt
import Derived.Laws.CopyOwn
import Derived.Deep.Cut
import Derived.Laws.Entries
import Derived.Laws.Bits64
import Derived.IntWalk
import Derived.Deep.RegionLaw
import Derived.Deep.AppendLies
import Derived.Deep.DeepCutAuto
import Derived.ArgAppend

namespace Go.Proofs.Ytjhpknnhgbdkiaa
set_option linter.unusedSimpArgs false
set_option linter.unusedVariables false
open Go.RowKit
theorem own_heap {w : World} {base e n cap g : Nat} {xs : List Value} (h : w.ownsRow base e 1 (.slice (some ⟨g, 0, none⟩) n cap) n xs) : ∃ cur : List Value, w.heap[g]? = some (.cells cur.toArray e (0, 0)) ∧ cur.length = cap ∧ base ≤ g := by
  rcases h.2 with ⟨hv, _⟩ | ⟨g', cap', cur, hv, hb, hh, h1, h2, h3, h4⟩
  · simp at hv
  · simp only [Value.slice.injEq, Option.some.injEq, Addr.mk.injEq, and_true, true_and] at hv
    obtain ⟨rfl, rfl⟩ := hv
    exact ⟨cur.toList, by simpa using hh, by simpa using h3, hb⟩
set_option maxRecDepth 100000 in
set_option maxHeartbeats 1600000 in
theorem impl_copyOf (A : Option Addr) (n c : Nat) (xs : List Int) (w : World) (B : Nat) (hB : B ≤ w.heap.size) (hn : n = xs.length) (h : IS w B A xs) (hs : n ≤ 2000000) :
    Calls Try.prog 59 #[.slice A n c] w fun e w' => e = .returned (.slice (some ⟨w.heap.size, 0, none⟩) n n) ∧ w'.ownsRow w.heap.size 3 1 (.slice (some ⟨w.heap.size, 0, none⟩) n n) n (xs.map (Value.int .i64)) ∧ Below w.heap.size w w' := by
  obtain ⟨i0, hi, hz0, hz1, hz2⟩ := info_parts info_int
  obtain ⟨w0, hmk, hown0, hgr0⟩ := run_make_full (P := Try.prog) w w.heap.size 26 3 i0 _ 1 Try.underlying26 hi hz0 hz1 .i64 .i64 n (by rw [hz2]; omega) (by unfold maxLen; omega) (Nat.le_refl _)
  obtain ⟨cur, hcur, hcl, _⟩ := own_heap hown0
  have hb0 : Below w.heap.size w w0 := ⟨hgr0.os, hgr0.tape, hgr0.output, hgr0.size, fun k hk => hgr0.block k hk (by simp)⟩
  obtain ⟨cs, hcs⟩ : ∃ cs : List Value, cs = xs.map (Value.int .i64) := ⟨_, rfl⟩
  have hsz : (Try.prog.info? 3).map (·.size) = some 1 := by kernel_rfl
  have hcl2 : cs.length = n := by rw [hcs, List.length_map]; exact hn.symm
  have hsrc : 0 < cs.length → some (⟨w.heap.size, 0, none⟩ : Addr) = some ⟨w.heap.size, 0, none⟩ ∧ ∃ ad, A = some ad ∧ ∀ j v, cs[j]? = some v → w0.cell? (ad.add j) = some v := by
    intro hp
    obtain ⟨b, off, e, hb, hc⟩ := h (by omega)
    refine ⟨rfl, _, e, fun j v hv => ?_⟩
    have hj : j < xs.length := by
      rcases Nat.lt_or_ge j cs.length with h1 | h1
      · omega
      · rw [List.getElem?_eq_none h1] at hv; cases hv
    have hadd : (⟨b, off, none⟩ : Addr).add j = ⟨b, off + j, none⟩ := by unfold Addr.add; split <;> simp_all
    rw [hadd, hb0.cell (p := ⟨b, off + j, none⟩) (by simp; omega), hc j hj, ← hv, hcs]
    simp [List.getD, hj]
  have h1 : ∀ v ∈ cs, v.oneCell' = true := by
    intro v hv
    rw [hcs] at hv
    obtain ⟨x, _, rfl⟩ := List.mem_map.1 hv
    rfl
  have HCUR := Lib.hid hcur
  have HCL := Lib.hid hcl
  have HCL2 := Lib.hid hcl2
  have HCS := Lib.hid hcs
  have HSRC := Lib.hid hsrc
  have HONE := Lib.hid h1
  have HB0 := Lib.hid hb0
  have HSZ := Lib.hid hsz
  clear hcur hcl hcl2 hcs hsrc h1 hb0 hsz hown0 hgr0 h hn
  go_enter Try.func59, Try.ntmps59
  go_wp2_with (with_reducible refine wpList_copy_splice rfl (.tmp 7) (.tmp 8) 26 26 rfl 3 Try.underlying26 HSZ.out _ _ _ _ _ _ rfl rfl w.heap.size 0 cur 3 HCUR.out cs ?c1 HSRC.out ?c2 HONE.out w.heap.size w HB0.out (Nat.le_refl _) ?_)
  case c1 => have := HCL2.out; omega
  case c2 => have := HCL2.out; have := HCL.out; omega
  intro w2 HG2 hB2
  go_wp2
  go_ret
  have hsp : splice cur 0 cs = cs := by
    unfold splice
    rw [List.take_zero, List.nil_append, List.drop_of_length_le (by have := HCL2.out; have := HCL.out; omega), List.append_nil]
  have hg2 := HG2.out
  rw [hsp] at hg2
  refine ⟨by simp, ⟨by rw [← HCS.out, HCL2.out]; simp, .inr ⟨w.heap.size, n, cs.toArray, rfl, Nat.le_refl _, hg2, Nat.le_refl _, by unfold maxLen; omega, by simpa using HCL2.out, ?_⟩⟩, hB2⟩
  rw [← HCS.out]
  exact List.take_of_length_le (by have := HCL2.out; simp; omega)
end Go.Proofs.Ytjhpknnhgbdkiaa

namespace Go.Proofs.Ytjhpknnhgbdkiaa
set_option linter.unusedSimpArgs false
set_option linter.unusedVariables false
open Go.RowKit
-- WANT impl_inRange spec_inRange impl_allInRange spec_allIn impl_copyOf spec_copyIntsA spec_copyInts RetI OwnI form nil Bl turn refl le alloc step MkW MkS leftOf leftOf_ok leftOf_no mark_ints held_ints markw_ints row_start laws_eqIntS laws_toIntS laws_markIntS laws_heldIntS box_new own_start below_of_drew As IS ints it loc mono keep Tch OwR own_form below more cell own_below set_getD getD_ne take_step take_all_eq take_succ_getD bcell RetT RetF RetB run_append1 append1 spec_append lt start setCell own lengths
theorem put4_size (w : World) (g j : Nat) (x y z u : Value) : (put4 w g j x y z u).heap.size = w.heap.size := by simp [put4, World.setCell]
theorem put4_below {B : Nat} {a w : World} (h : Below B a w) {g : Nat} (hg : B ≤ g) (j : Nat) (x y z u : Value) : Below B a (put4 w g j x y z u) :=
  (((h.setCell (p := ⟨g, j, none⟩) hg _).setCell (p := ⟨g, j + 1, none⟩) hg _).setCell (p := ⟨g, j + 2, none⟩) hg _).setCell (p := ⟨g, j + 3, none⟩) hg _
/-- The first owners, and none for the others. -/
def cpO (ds : List On) (n k : Nat) : List On := ds.take k ++ List.replicate (n - k) default
theorem cpO_len (ds : List On) (n k : Nat) (hn : n = ds.length) (hk : k ≤ n) : (cpO ds n k).length = n := by unfold cpO; simp; omega
theorem cpO_all (ds : List On) (n : Nat) (h : n = ds.length) : cpO ds n n = ds := by unfold cpO; simp [h]
theorem cpO_succ (ds : List On) (n k : Nat) (hn : n = ds.length) (hk : k < n) : (cpO ds n k).set k (ds.getD k default) = cpO ds n (k + 1) := by
  have hl := cpO_len ds n k hn (by omega)
  have hl' := cpO_len ds n (k + 1) hn (by omega)
  apply List.ext_getElem?
  intro i
  rw [List.getElem?_set]
  by_cases e : k = i
  · subst e
    rw [if_pos rfl, if_pos (by omega)]
    unfold cpO
    rw [List.getElem?_append_left (by simp; omega), List.getElem?_take, if_pos (by omega)]
    simp [List.getD, show k < ds.length by omega]
  · rw [if_neg e]
    unfold cpO
    rcases Nat.lt_or_ge i k with h1 | h1
    · rw [List.getElem?_append_left (by simp; omega), List.getElem?_append_left (by simp; omega), List.getElem?_take, List.getElem?_take, if_pos h1, if_pos (by omega)]
    · rw [List.getElem?_append_right (by simp; omega), List.getElem?_append_right (by simp; omega), List.getElem?_replicate, List.getElem?_replicate]
      simp only [List.length_take]
      split <;> split <;> first | rfl | omega
/-- Owners that were just made. -/
theorem made_owners {w : World} {lo n : Nat} {v : Value} {xs : List Value} (ds : List On) (hn : n = ds.length) (h : w.ownsRow lo 32 4 v n xs) (hx : ∀ j, j < n → xs[j * 4]? = some (.int .i64 0) ∧ xs[j * 4 + 1]? = some (.bool false) ∧ xs[j * 4 + 2]? = some (.slice none 0 0) ∧ xs[j * 4 + 3]? = some (.slice none 0 0)) : OwO lo w.heap.size v n (cpO ds n 0) w := by
  have hg (j : Nat) : (cpO ds n 0).getD j default = default := by
    unfold cpO
    simp only [List.take_zero, List.nil_append, List.getD, List.getElem?_replicate]
    split <;> rfl
  have hr (i : Nat) : rowO (cpO ds n 0) i = [] := by
    unfold rowO
    rw [hg]
    split <;> rfl
  refine ⟨(cpO_len ds n 0 hn (by omega)).symm, xs, List.replicate (n * 2) (.slice none 0 0), OwR.start h, by simp, ?_, ⟨fun j hj => ⟨none, 0, 0, ?_, ?_, ?_⟩, fun i j v u k _ h1 h2 hv => ?_⟩⟩
  · intro j hj
    rw [cpO_len ds n 0 hn (by omega)] at hj
    obtain ⟨a, b, c, d⟩ := hx j hj
    rw [hg]
    refine ⟨a, b, c.trans ?_, d.trans ?_⟩
    · rw [List.getElem?_replicate, if_pos (by omega)]
    · rw [List.getElem?_replicate, if_pos (by omega)]
  · simp at hj; rw [List.getElem?_replicate, if_pos hj]
  · rw [lenOfO, hr]; rfl
  · rw [rowOfO, hr]; exact OwR.nil _ _ _ _ _
  · rw [List.getElem?_replicate] at h1
    split at h1
    · cases h1; simp [Value.ownBlock] at hv
    · cases h1
end Go.Proofs.Ytjhpknnhgbdkiaa

namespace Go.Proofs.Ytjhpknnhgbdkiaa
set_option linter.unusedSimpArgs false
set_option linter.unusedVariables false
open Go.RowKit
theorem made4 (x y z t : Value) (n j : Nat) (hj : j < n) : ((madeCells (.agg #[x, y, z, t] : Value).cells (n * 4)).toList)[j * 4]? = some x ∧ ((madeCells (.agg #[x, y, z, t] : Value).cells (n * 4)).toList)[j * 4 + 1]? = some y ∧ ((madeCells (.agg #[x, y, z, t] : Value).cells (n * 4)).toList)[j * 4 + 2]? = some z ∧ ((madeCells (.agg #[x, y, z, t] : Value).cells (n * 4)).toList)[j * 4 + 3]? = some t := by
  have k (i : Nat) (hi : i < 4) : ((madeCells (.agg #[x, y, z, t] : Value).cells (n * 4)).toList)[j * 4 + i]? = #[x, y, z, t][i]? := by
    have e : (.agg #[x, y, z, t] : Value).cells = #[x, y, z, t] := by simp [Value.cells]
    rw [e]
    have h1 : j * 4 + i < n * 4 := by omega
    have h2 : (j * 4 + i) % 4 = i := by omega
    simp only [madeCells, Array.toList_map, List.getElem?_map, Array.getElem?_toList, Array.getElem?_range]
    rw [if_pos h1]
    show some (#[x, y, z, t][(j * 4 + i) % 4]!) = _
    rw [h2]
    match i, hi with
    | 0, _ => rfl
    | 1, _ => rfl
    | 2, _ => rfl
    | 3, _ => rfl
  exact ⟨k 0 (by omega), k 1 (by omega), k 2 (by omega), k 3 (by omega)⟩
end Go.Proofs.Ytjhpknnhgbdkiaa

namespace Go.Proofs.Ytjhpknnhgbdkiaa
set_option linter.unusedSimpArgs false
set_option linter.unusedVariables false
open Go.RowKit
set_option maxRecDepth 100000 in
set_option maxHeartbeats 3200000 in
theorem impl_copyOwners (A : Option Addr) (n c : Nat) (ds : List On) (w : World) (B : Nat) (hB : B ≤ w.heap.size) (hn : n = ds.length) (h : OS w B A ds) (hs : OB ds) :
    Calls Try.prog 50 #[.slice A n c] w fun e w' => e = .returned (.slice (some ⟨w.heap.size, 0, none⟩) n n) ∧ OwO w.heap.size w'.heap.size (.slice (some ⟨w.heap.size, 0, none⟩) n n) n ds w' ∧ Below w.heap.size w w' := by
  have hn1 : n ≤ 1048576 := by rw [hn]; exact hs.1
  obtain ⟨i0, hi, hz0, hz1, hz2⟩ := info_parts info_owner
  obtain ⟨w0, hmk, hown0, hgr0⟩ := run_make_full (P := Try.prog) w w.heap.size 23 32 i0 _ 4 Try.underlying23 hi hz0 hz1 .i64 .i64 n (by rw [hz2]; omega) (by unfold maxLen; omega) (Nat.le_refl _)
  have hgl : w.heap.size < w0.heap.size := (hown0.lt _ rfl).2
  have hb0 : Below w.heap.size w w0 := ⟨hgr0.os, hgr0.tape, hgr0.output, hgr0.size, fun k hk => hgr0.block k hk (by simp)⟩
  have HO0 := Lib.hid (made_owners ds hn hown0 (fun j hj => made4 _ _ _ _ n j hj))
  have H := Lib.hid h
  have HN := Lib.hid hn
  have HS := Lib.hid hs
  have HB0 := Lib.hid hb0
  clear hn h hs hown0 hgr0 hb0
  go_enter Try.func50, Try.ntmps50
  go_wp2
  clear hmk
  go_loopw [11] (fun i wr => ∃ k : Nat, k ≤ n ∧ i = .int .i64 k ∧ Hid (OwO w.heap.size wr.heap.size (.slice (some ⟨w.heap.size, 0, none⟩) n n) n (cpO ds n k) wr) ∧ Hid (Below w.heap.size w wr) ∧ w.heap.size < wr.heap.size) (fun i _ => n - (intOf i).toNat)
  case atStart => exact ⟨0, Nat.zero_le _, rfl, HO0.out, HB0.out, hgl⟩
  case round =>
    obtain ⟨k, hk, rfl, HO, HB, hwr⟩ := hrel
    by_cases hlt : k < n
    · obtain ⟨b, off, rfl, hbB, c0, c1, ⟨A1, n1, d1, c2, hn1', hp1⟩, A2, n2, d2, c3, hn2', hp2⟩ := H.out.at_ k (by have := HN.out; omega)
      have hx := HS.out.2.2 k
      have b0 := (HB.out.cell (p := ⟨b, off + k * 4, none⟩) (by simp; omega)).trans c0
      have b1 := (HB.out.cell (p := ⟨b, off + k * 4 + 1, none⟩) (by simp; omega)).trans c1
      have b2 := (HB.out.cell (p := ⟨b, off + k * 4 + 2, none⟩) (by simp; omega)).trans c2
      have b3 := (HB.out.cell (p := ⟨b, off + k * 4 + 3, none⟩) (by simp; omega)).trans c3
      have HP1 := Lib.hid (hp1.below HB.out hB)
      have HP2 := Lib.hid (hp2.below HB.out hB)
      have HSU := Lib.hid (cpO_succ ds n k HN.out hlt)
      generalize ds.getD k default = d at *
      obtain ⟨p, o, cl, cx⟩ := d
      dsimp only at *
      have HC1 := Lib.hid fun (w' : World) (hB : B ≤ w'.heap.size) (h : IS w' B A1 cl) => impl_copyOf A1 n1 d1 cl w' B hB hn1' h (by omega)
      have HC2 := Lib.hid fun (w' : World) (hB : B ≤ w'.heap.size) (h : IS w' B A2 cx) => impl_copyOf A2 n2 d2 cx w' B hB hn2' h (by omega)
      have HN1 := Lib.hid hn1'
      have HN2 := Lib.hid hn2'
      have hBw : B ≤ wr.heap.size := by omega
      have X1 := Lib.hid (box4_start wr (.int .i64 p) (.bool o) (.slice A1 n1 d1) (.slice A2 n2 d2) 32)
      have HBX : Hid (Below wr.heap.size wr (wr.alloc (.cells #[.int .i64 p, .bool o, .slice A1 n1 d1, .slice A2 n2 d2] 32))) := (Below.refl _ _).alloc (Nat.le_refl _) _
      have hkt : k ≤ 1048576 := by omega
      clear c0 c1 c2 c3 hn1' hn2' hp1 hp2 hx H
      go_upto_region 5 with fail
      generalize hW1 : wr.alloc (.cells #[.int .i64 p, .bool o, .slice A1 n1 d1, .slice A2 n2 d2] 32) = W1 at *
      have hs1 : wr.heap.size < W1.heap.size := X1.out.lt
      clear hW1 b0 b1 b2 b3
      have s0 := X1.out.c0
      have s1 := X1.out.c1
      have s2 := X1.out.c2
      have s3 := X1.out.c3
      have hBW1 : B ≤ W1.drew.heap.size := by show B ≤ W1.heap.size; omega
      have HI1 : Hid (IS W1.drew B A1 cl) := HP1.out.below HBX.out.drew hBw
      have HI2 : Hid (IS W1.drew B A2 cx) := HP2.out.below HBX.out.drew hBw
      clear HP1 HP2
      refine wp_region_held_drew (S := fun w' => w'.cell? ⟨wr.heap.size, 0, none⟩ = some (.int .i64 p) ∧ w'.cell? ⟨wr.heap.size, 1, none⟩ = some (.bool o) ∧ w'.cell? ⟨wr.heap.size, 2, none⟩ = some (.slice A1 n1 d1) ∧ w'.cell? ⟨wr.heap.size, 3, none⟩ = some (.slice A2 n2 d2)) (by kernel_rfl) ⟨s0, s1, s2, s3⟩ (fun hHeld => ?_)
      refine wpAnyH_take (i := 0) (oi := ⟨some 16, _, _, _, _, _⟩) (v := ?_) rfl (by kernel_rfl) (by kernel_rfl) (by kernel_rfl) (fun _ _ _ h => h) (Or.inl ⟨by rfl, ?_⟩) (by assumption) ?_; rotate_left; (focus (intro w hSw; (try dsimp only at hSw); go_simp; (try with_reducible rfl))); (try simp only [Act.put, List.setIfInBounds_toArray, List.set_cons_zero, List.set_cons_succ])
      refine wpAnyH_take (i := 1) (oi := ⟨some 17, _, _, _, _, _⟩) (v := ?_) rfl (by kernel_rfl) (by kernel_rfl) (by kernel_rfl) (fun _ _ _ h => h) (Or.inl ⟨by rfl, ?_⟩) (by assumption) ?_; rotate_left; (focus (intro w hSw; (try dsimp only at hSw); go_simp; (try with_reducible rfl))); (try simp only [Act.put, List.setIfInBounds_toArray, List.set_cons_zero, List.set_cons_succ])
      refine wpAnyH_take (i := 2) (oi := ⟨some 18, _, _, _, _, _⟩) (v := ?_) rfl (by kernel_rfl) (by kernel_rfl) (by kernel_rfl) (fun _ _ _ h => h) (Or.inl ⟨by rfl, ?_⟩) (by assumption) ?_; rotate_left; (focus (intro w hSw; (try dsimp only at hSw); go_simp; (try with_reducible rfl))); (try simp only [Act.put, List.setIfInBounds_toArray, List.set_cons_zero, List.set_cons_succ])
      refine wpAnyH_take (i := 3) (oi := ⟨some 19, _, _, _, _, _⟩) (v := ?_) rfl (by kernel_rfl) (by kernel_rfl) (by kernel_rfl) (fun _ _ _ h => h) (Or.inl ⟨by rfl, ?_⟩) (by assumption) ?_; rotate_left; (focus (intro w hSw; (try dsimp only at hSw); go_simp; (try with_reducible rfl))); (try simp only [Act.put, List.setIfInBounds_toArray, List.set_cons_zero, List.set_cons_succ])
      refine wpAnyH_take (i := 4) (oi := ⟨some 20, _, _, _, _, _⟩) (v := ?_) rfl (by kernel_rfl) (by kernel_rfl) (by kernel_rfl) (fun _ _ _ h => h) (Or.inl ⟨by rfl, ?_⟩) (by assumption) ?_; rotate_left; (focus (intro w hSw; (try dsimp only at hSw); go_simp; (try with_reducible rfl))); (try simp only [Act.put, List.setIfInBounds_toArray, List.set_cons_zero, List.set_cons_succ])
      refine wpAnyH_take (i := 5) (oi := ⟨some 21, _, _, _, _, _⟩) (v := ?_) rfl (by kernel_rfl) (by kernel_rfl) (by kernel_rfl) (fun _ _ _ h => h) (Or.inl ⟨by rfl, ?_⟩) (by assumption) ?_; rotate_left; (focus (intro w hSw; (try dsimp only at hSw); go_simp; (try with_reducible rfl))); (try simp only [Act.put, List.setIfInBounds_toArray, List.set_cons_zero, List.set_cons_succ])
      refine wpAnyH_take (i := 6) (oi := ⟨some 22, _, _, _, _, _⟩) (v := ?_) rfl (by kernel_rfl) (by kernel_rfl) (by kernel_rfl) (fun _ _ _ h => h) (Or.inl ⟨by rfl, ?_⟩) (by assumption) ?_; rotate_left; (focus (intro w hSw; (try dsimp only at hSw); go_simp; (try with_reducible rfl))); (try simp only [Act.put, List.setIfInBounds_toArray, List.set_cons_zero, List.set_cons_succ])
      refine wpAnyH_take (i := 7) (oi := ⟨some 23, _, _, _, _, _⟩) (v := ?_) rfl (by kernel_rfl) (by kernel_rfl) (by kernel_rfl) (fun _ _ _ h => h) (Or.inl ⟨by rfl, ?_⟩) (by assumption) ?_; rotate_left; (focus (intro w hSw; (try dsimp only at hSw); go_simp; (try with_reducible rfl))); (try simp only [Act.put, List.setIfInBounds_toArray, List.set_cons_zero, List.set_cons_succ])
      refine wpAnyH_take (i := 9) (oi := ⟨some 25, _, _, _, _, _⟩) (v := ?_) rfl (by kernel_rfl) (by kernel_rfl) (by kernel_rfl) (fun _ _ _ h => h) (Or.inl ⟨by rfl, ?_⟩) (by assumption) ?_; rotate_left; (focus (intro w hSw; (try dsimp only at hSw); go_simp; (try with_reducible rfl))); (try simp only [Act.put, List.setIfInBounds_toArray, List.set_cons_zero, List.set_cons_succ])
      refine wpAnyH_take (i := 10) (oi := ⟨some 26, _, _, _, _, _⟩) (v := ?_) rfl (by kernel_rfl) (by kernel_rfl) (by kernel_rfl) (fun _ _ _ h => h) (Or.inl ⟨by rfl, ?_⟩) (by assumption) ?_; rotate_left; (focus (intro w hSw; (try dsimp only at hSw); go_simp; (try with_reducible rfl))); (try simp only [Act.put, List.setIfInBounds_toArray, List.set_cons_zero, List.set_cons_succ])
      refine wpAnyH_ready (rs := [8]) (by kernel_rfl) (by simp) ?_; refine AllReadyH.cons (o := ⟨some 24, _, _, _, _, _⟩) rfl (fun K hK => ?_) AllReadyH.nil
      · go_simp
        go_at_call 59
        refine (HC1.out W1.drew hBW1 HI1.out).mono ?_
        rintro e w2 ⟨rfl, ho1, hb1'⟩
        have hb1 : Below W1.heap.size W1 w2 := below_of_drew hb1'
        have ho1' : w2.ownsRow W1.heap.size 3 1 (.slice (some ⟨W1.heap.size, 0, none⟩) n1 n1) n1 (cl.map (Value.int .i64)) := ho1
        have hs2 := hb1.size
        have hg1 : W1.heap.size < w2.heap.size := (ho1'.lt _ rfl).2
        have X2 := Lib.hid (X1.out.step hb1 hs1)
        have HR1 := Lib.hid ho1'
        have HI := Lib.hid (IS.below (w := W1) HI2.out hb1 (by show B ≤ W1.heap.size; omega))
        have HB2 := Lib.hid (HBX.out.trans (hb1.mono (by omega)))
        have hBW2 : B ≤ w2.heap.size := by omega
        have s0 := X2.out.c0
        have s1 := X2.out.c1
        have s2 := X2.out.c2
        have s3 := X2.out.c3
        clear ho1 ho1' hb1 hb1' X1 HI1 HI2 HBX
        refine hK.out _ _ ⟨s0, s1, s2, s3⟩ (fun hHeld => ?_); clear hK K; (try simp only [Act.put, List.setIfInBounds_toArray, List.set_cons_zero, List.set_cons_succ])
        refine wpAnyH_ready (rs := [11]) (by kernel_rfl) (by simp) ?_; refine AllReadyH.cons (o := ⟨some 27, _, _, _, _, _⟩) rfl (fun K hK => ?_) AllReadyH.nil; go_simp
        go_at_call 59
        refine (HC2.out w2 hBW2 HI.out).mono ?_
        rintro e w4 ⟨rfl, ho2, hb2⟩
        have hs4 := hb2.size
        have hg2 : w2.heap.size < w4.heap.size := (ho2.lt _ rfl).2
        have X4 := Lib.hid (X2.out.step hb2 (by omega))
        have HR2 := Lib.hid (own_below HR1.out hb2)
        have HR3 := Lib.hid ho2
        have HB4 := Lib.hid (HB2.out.trans (hb2.mono (by omega)))
        have s0 := X4.out.c0
        have s1 := X4.out.c1
        have s2 := X4.out.c2
        have s3 := X4.out.c3
        have HW1 := Lib.hid (HO.out.step HB4.out (Nat.le_refl _))
        obtain ⟨-, xs, us, hr, -⟩ := HW1.out
        have hxl : xs.length = n * 4 := hr.1.1
        have u0 := hr.1.cellAt (k * 4) (by omega)
        have u1 := hr.1.cellAt (k * 4 + 1) (by omega)
        have u2 := hr.1.cellAt (k * 4 + 2) (by omega)
        have u3 := hr.1.cellAt (k * 4 + 3) (by omega)
        rw [List.getElem?_eq_getElem (by omega)] at u0 u1 u2 u3
        have f0 := hr.1.frozenAt (k * 4)
        have f1 := hr.1.frozenAt (k * 4 + 1)
        have f2 := hr.1.frozenAt (k * 4 + 2)
        have f3 := hr.1.frozenAt (k * 4 + 3)
        generalize xs[k * 4]'(by omega) = v0 at u0
        generalize xs[k * 4 + 1]'(by omega) = v1 at u1
        generalize xs[k * 4 + 2]'(by omega) = v2 at u2
        generalize xs[k * 4 + 3]'(by omega) = v3 at u3
        have HNEW := Lib.hid (HW1.out.put (d := ⟨p, o, cl, cx⟩) (mid := w2.heap.size) (top := w4.heap.size) hlt HN1.out HN2.out ⟨own_mono HR2.out (by omega), fun q hq => by cases hq; exact hg1⟩ ⟨HR3.out, fun q hq => by cases hq; exact hg2⟩ (by omega) (by omega) (by omega))
        have HB5 := Lib.hid (put4_below (HB.out.trans (HB4.out.mono HB.out.size)) (Nat.le_refl w.heap.size) (k * 4) (.int .i64 p) (.bool o) (.slice (some ⟨W1.heap.size, 0, none⟩) n1 n1) (.slice (some ⟨w2.heap.size, 0, none⟩) n2 n2))
        have X5 : Hid (Bx4 wr.heap.size (.int .i64 p) (.bool o) (.slice A1 n1 d1) (.slice A2 n2 d2) (put4 w4 w.heap.size (k * 4) (.int .i64 p) (.bool o) (.slice (some ⟨W1.heap.size, 0, none⟩) n1 n1) (.slice (some ⟨w2.heap.size, 0, none⟩) n2 n2))) := (((X4.out.other (by omega)).other (by omega)).other (by omega)).other (by omega)
        clear hr hxl ho2 hb2 X2 HR1 HR2 HR3 HI HW1 HB2 HC1 HC2
        refine hK.out _ _ ⟨s0, s1, s2, s3⟩ (fun hHeld => ?_); clear hK K; (try simp only [Act.put, List.setIfInBounds_toArray, List.set_cons_zero, List.set_cons_succ])
        refine wpAnyH_take (i := 12) (oi := ⟨some 28, _, _, _, _, _⟩) (v := ?_) rfl (by kernel_rfl) (by kernel_rfl) (by kernel_rfl) (fun _ _ _ h => h) (Or.inl ⟨by rfl, ?_⟩) (by assumption) ?_; rotate_left; (focus (intro w hSw; (try dsimp only at hSw); go_simp; (try with_reducible rfl))); (try simp only [Act.put, List.setIfInBounds_toArray, List.set_cons_zero, List.set_cons_succ])
        refine wpAnyH_take (i := 13) (oi := ⟨some 29, _, _, _, _, _⟩) (v := ?_) rfl (by kernel_rfl) (by kernel_rfl) (by kernel_rfl) (fun _ _ _ h => h) (Or.inl ⟨by rfl, ?_⟩) (by assumption) ?_; rotate_left; (focus (intro w hSw; (try dsimp only at hSw); go_simp; (try with_reducible rfl))); (try simp only [Act.put, List.setIfInBounds_toArray, List.set_cons_zero, List.set_cons_succ])
        refine wpAnyH_ready (rs := [14]) (by kernel_rfl) (by simp) ?_; refine AllReadyH.cons (o := ⟨none, _, _, _, _, _⟩) rfl (fun K hK => ?_) AllReadyH.nil; go_simp
        obtain ⟨W5, hW5⟩ : ∃ W : World, W = put4 w4 w.heap.size (k * 4) (.int .i64 p) (.bool o) (.slice (some ⟨W1.heap.size, 0, none⟩) n1 n1) (.slice (some ⟨w2.heap.size, 0, none⟩) n2 n2) := ⟨_, rfl⟩
        have hsz : W5.heap.size = w4.heap.size := by rw [hW5, put4_size]
        have HNEW2 : Hid (OwO w.heap.size W5.heap.size (.slice (some ⟨w.heap.size, 0, none⟩) n n) n (cpO ds n (k + 1)) W5) := by
          have h1 := HNEW.out; rw [HSU.out, ← hW5] at h1; rw [hsz]; exact h1
        have HB6 : Hid (Below w.heap.size w W5) := by rw [hW5]; exact HB5.out
        have hw5 : w.heap.size < W5.heap.size := by omega
        rw [← hW5] at X5
        have s0 := X5.out.c0
        have s1 := X5.out.c1
        have s2 := X5.out.c2
        have s3 := X5.out.c3
        unfold put4 at hW5
        rw [← hW5]
        clear hW5 hsz HNEW HB5 u0 u1 u2 u3 f0 f1 f2 f3 HB4 X4
        refine hK.out _ _ ⟨s0, s1, s2, s3⟩ (fun hHeld => ?_); clear hK K; (try simp only [Act.put, List.setIfInBounds_toArray, List.set_cons_zero, List.set_cons_succ])
        refine wpAnyH_done (by kernel_rfl) ?_ _
        go_wp2
        go_roundw
        case rel => exact ⟨k + 1, by omega, by go_num, HNEW2.out, HB6.out, hw5⟩
        case measure => simp [intOf]; omega
    · go_wp2
      go_ret
      have hkn : k = n := by omega
      subst hkn
      have h1 := HO.out
      rw [cpO_all ds k HN.out] at h1
      exact ⟨by simp, h1, HB.out⟩
end Go.Proofs.Ytjhpknnhgbdkiaa

namespace Go.Proofs.Ytjhpknnhgbdkiaa
set_option linter.unusedSimpArgs false
set_option linter.unusedVariables false
open Go.RowKit
set_option maxHeartbeats 800000 in
theorem impl_hasOpenOwner (A : Option Addr) (n c : Nat) (ds : List On) (o : Int) (w : World) (B : Nat) (hB : B ≤ w.heap.size) (hn : n = ds.length) (hnc : n ≤ c) (h : OS w B A ds) (hb : OB ds) :
    Calls Try.prog 48 #[.slice A n c, .int .i64 o] w fun e w' => e = .returned (.bool (hasOpO ds o)) ∧ Below w.heap.size w w' := by
  have hnb : n ≤ 1048576 := by rw [hn]; exact hb.1
  have HC := Lib.hid (impl_hasOwner A n c ds o w B hB hn hnc h hb)
  unfold hasOpO
  cases hv : hasO ds o
  · rw [hv] at HC
    clear hv hn h hb
    go_enter Try.func48, Try.ntmps48
    go_wp2_with fail
    refine HC.out.mono ?_
    rintro e w1 ⟨rfl, hb⟩
    go_wp2
    go_ret
    exact ⟨rfl, hb⟩
  · rw [hv] at HC
    obtain ⟨k, rfl, hk, -⟩ := hasO_at hv
    have hkn : k < n := by omega
    obtain ⟨b, off, rfl, hbB, c0, c1, -, -⟩ := h.at_ k hk
    have hop : opn ds (k : Int) = (ds.getD k default).o := by simp [opn]
    rw [hop]
    generalize (ds.getD k default).o = po at *
    clear hv hn h hb hop hk c0
    go_enter Try.func48, Try.ntmps48
    go_wp2_with fail
    refine HC.out.mono ?_
    rintro e w1 ⟨rfl, hb⟩
    have d1 := (hb.cell (p := ⟨b, off + k * 4 + 1, none⟩) (by simp; omega)).trans c1
    go_wp2
    go_ret
    exact ⟨ret_b (by simp), hb⟩
end Go.Proofs.Ytjhpknnhgbdkiaa

namespace Go.Proofs.Ytjhpknnhgbdkiaa
set_option linter.unusedSimpArgs false
set_option linter.unusedVariables false
open Go.RowKit
set_option maxRecDepth 100000 in
set_option maxHeartbeats 3200000 in
theorem top_impl_SetContext (ds : List On) (o key x : Int) (hO : OB ds) : ∀ (A : Option Addr) (n c : Nat) (w : World), n = ds.length → n ≤ c → OS w w.heap.size A ds →
    Calls Try.prog 31 #[.slice A n c, .int .i64 o, .int .i64 key, .int .i64 x] w fun e w' => RetOB w (ctxF ds o key x) (ctxB ds o key x) e w' := by
  intro A n c w hn hnc h
  have hnb : n ≤ 1048576 := by rw [hn]; exact hO.1
  have HS := Lib.hid h
  have HC := Lib.hid (impl_hasOpenOwner A n c ds o w w.heap.size (Nat.le_refl _) hn hnc h hO)
  cases hv : hasOpO ds o
  · rw [hv] at HC
    have hf : ctxB ds o key x = false := by unfold ctxB; rw [hv]; rfl
    unfold ctxF
    rw [hf]
    clear hf hn h hO hv
    simp only [Bool.false_eq_true, if_false]
    go_enter Try.func31, Try.ntmps31
    go_wp2_with fail
    refine HC.out.mono ?_
    rintro e w1 ⟨rfl, hb⟩
    go_wp2
    go_ret2
    exact RetOB.nil hb
  rw [hv] at HC
  obtain ⟨k, rfl, hkd, hval⟩ := hasOpO_at hv
  have hkn : k < n := by omega
  cases hr : rng key 0 2
  · have hE := hr
    have hf : ctxB ds (k : Int) key x = false := by unfold ctxB; rw [hr]; simp
    unfold ctxF
    rw [hf]
    clear hf hn h hO hE hval
    simp only [Bool.false_eq_true, if_false]
    go_enter Try.func31, Try.ntmps31
    go_wp2_with fail
    refine HC.out.mono ?_
    rintro e w1 ⟨rfl, hb⟩
    go_wp2_with fail
    refine (impl_inRange _ _ _).mono ?_
    rintro e w' ⟨rfl, rfl⟩
    go_wp2
    go_ret2
    exact RetOB.nil hb
  cases hr2 : rng x 0 50
  · have hE := hr
    have hf : ctxB ds (k : Int) key x = false := by unfold ctxB; rw [hr2]; simp
    unfold ctxF
    rw [hf]
    clear hf hn h hO hE hval
    simp only [Bool.false_eq_true, if_false]
    go_enter Try.func31, Try.ntmps31
    go_wp2_with fail
    refine HC.out.mono ?_
    rintro e w1 ⟨rfl, hb⟩
    go_wp2_with fail
    refine (impl_inRange _ _ _).mono ?_
    rintro e w' ⟨rfl, rfl⟩
    go_wp2_with fail
    refine (impl_inRange _ _ _).mono ?_
    rintro e w' ⟨rfl, rfl⟩
    go_wp2
    go_ret2
    exact RetOB.nil hb
  have hf : ctxB ds (k : Int) key x = true := by unfold ctxB; rw [hv, hr, hr2]; rfl
  obtain ⟨hj0, hj1⟩ := (rng_iff _ _ _).1 hr
  obtain ⟨j, rfl⟩ : ∃ j : Nat, key = j := ⟨key.toNat, by omega⟩
  have hj3 : j < 3 := by omega
  have hcx3 := (okO_len2 hval k hkd)
  have hce : ctxF ds (k : Int) (j : Int) x = ds.set k (withCx ds k j x) := by unfold ctxF; rw [hf]; simp
  rw [hf, hce]
  have HCP := Lib.hid fun (w' : World) (hB : w.heap.size ≤ w'.heap.size) (h : OS w' w.heap.size A ds) => impl_copyOwners A n c ds w' w.heap.size hB hn h hO
  have HN := Lib.hid hn
  have HC3 := Lib.hid hcx3
  have HKD := Lib.hid hkd
  clear hf hce hn h hO hval hv hj0 hj1 hcx3 hkd
  go_enter Try.func31, Try.ntmps31
  go_wp2_with fail
  refine HC.out.mono ?_
  rintro e w1 ⟨rfl, hb⟩
  have HB1 := Lib.hid hb
  go_wp2_with fail
  refine (impl_inRange _ _ _).mono ?_
  rintro e w' ⟨rfl, rfl⟩
  go_wp2_with fail
  refine (impl_inRange _ _ _).mono ?_
  rintro e w' ⟨rfl, rfl⟩
  have hs1 := hb.size
  have HS1 := Lib.hid (HS.out.below hb (Nat.le_refl _))
  clear hb
  go_wp2_with fail
  refine (HCP.out w1 hs1 HS1.out).mono ?_
  rintro e w2 ⟨rfl, ho, hb2⟩
  obtain ⟨g, hg⟩ : ∃ g : Nat, g = w1.heap.size := ⟨_, rfl⟩
  obtain ⟨cap, hcap⟩ : ∃ cap : Nat, cap = n := ⟨_, rfl⟩
  have ho' : OwO w1.heap.size w2.heap.size (.slice (some ⟨g, 0, none⟩) n cap) n ds w2 := by rw [hg, hcap]; exact ho
  have hvv : Value.slice (some ⟨w1.heap.size, 0, none⟩) n n = .slice (some ⟨g, 0, none⟩) n cap := by rw [hg, hcap]
  rw [hvv]
  clear hvv hg hcap ho
  obtain ⟨-, xs, us, hr2', hul, hfl, hss⟩ := ho'
  have hxl : xs.length = n * 4 := hr2'.1.1
  obtain ⟨-, -, f2, f3⟩ := hfl k HKD.out
  have hs2 := hb2.size
  have hgl := (hr2'.1.lt g rfl).2
  obtain ⟨A5, m5, c5, r1, r2, r3⟩ := hss.row (k * 2 + 1) (by omega)
  rw [lenOfO, rowO_cx] at r2
  have r3' := r3
  rw [rowOfO, rowO_cx] at r3'
  have hm5 : m5 = 3 := by have := HC3.out; omega
  rcases r3'.1.2 with ⟨-, hz'⟩ | ⟨gx, capx, curx, hvx, -⟩
  · omega
  simp only [Value.slice.injEq] at hvx
  obtain ⟨rfl, -, rfl⟩ := hvx
  have u2 := (hr2'.1.cellAt (k * 4 + 3) (by omega)).trans (f3.trans r1)
  have hyl : ((ds.getD k default).cx.map (Value.int .i64)).length = m5 * 1 := r3'.1.1
  have y2 := r3'.1.cellAt j (by omega)
  rw [List.getElem?_eq_getElem (by omega)] at y2
  have z2 := r3'.1.frozenAt j
  generalize ((ds.getD k default).cx.map (Value.int .i64))[j]'(by omega) = vx at y2
  have hjm : j < m5 := by omega
  have hst := r3'.1.stored j (.int .i64 x)
  have hgx := (r3'.1.lt gx rfl).1
  have hlen : lenOf (rowsO (ds.set k (withCx ds k j x))) = lenOf (rowsO ds) := by
    funext i
    rw [lenOfO, lenOfO, rowO_set ds k _ HKD.out]
    by_cases e1 : i = k * 2
    · rw [if_pos e1, e1, rowO_cl]; rfl
    · rw [if_neg e1]
      by_cases e2 : i = k * 2 + 1
      · rw [if_pos e2, e2, rowO_cx]; simp [withCx]
      · rw [if_neg e2]
  have HSG : Hid (SSk w1.heap.size w2.heap.size us (lenOf (rowsO (ds.set k (withCx ds k j x)))) (rowOf (rowsO (ds.set k (withCx ds k j x)))) (w2.setCell ⟨gx, j, none⟩ (.int .i64 x))) := by
    rw [hlen]
    refine hss.put1 r1 ?_ fun i hi => ?_
    · rw [rowOfO, rowOfO, rowO_set ds k _ HKD.out, if_neg (by omega), if_pos rfl, rowO_cx]; simp only [withCx, List.map_set]
    · rw [rowOfO, rowOfO, rowO_set ds k _ HKD.out]
      by_cases e1 : i = k * 2
      · rw [if_pos e1, e1, rowO_cl]; rfl
      · rw [if_neg e1, if_neg hi]
  have HR3 : Hid (OwR w1.heap.size w2.heap.size 32 4 (.slice (some ⟨g, 0, none⟩) n cap) n xs (w2.setCell ⟨gx, j, none⟩ (.int .i64 x))) := ⟨hr2'.1.kept hst.2 (blocks_ne hr2'.1 r3'.1 owner_ne_int), hr2'.2⟩
  have HUL := Lib.hid hul
  have HFL := Lib.hid hfl
  have HB3 := Lib.hid ((HB1.out.trans (hb2.mono HB1.out.size)).setCell (p := ⟨gx, j, none⟩) (by show w.heap.size ≤ gx; omega) (.int .i64 x))
  have HM := Lib.hid hm5
  clear r1 r2 r3 r3' hr2' hul hfl hss hxl f2 f3 hb2 HC HCP HS HS1 hst hlen hyl hm5
  go_wp2
  go_ret2
  refine ⟨_, rfl, ?_, HB3.out⟩
  have hsz : (w2.setCell ⟨gx, j, none⟩ (.int .i64 x)).heap.size = w2.heap.size := by simp [World.setCell]
  rw [hsz, List.length_set, ← HN.out]
  refine OwO.mono (lo := w1.heap.size) (hi := w2.heap.size) ⟨by rw [List.length_set]; exact HN.out, xs, us, HR3.out, HUL.out, fun i hi => ?_, HSG.out⟩ (by omega) (Nat.le_refl _)
  have hi' : i < ds.length := by simpa using hi
  rw [getD_set ds k i _ HKD.out]
  by_cases ei : i = k
  · subst ei; rw [if_pos rfl]; exact HFL.out i hi'
  · rw [if_neg ei]; exact HFL.out i hi'
end Go.Proofs.Ytjhpknnhgbdkiaa

namespace Go.Proofs.Ytjhpknnhgbdkiaa
set_option linter.unusedSimpArgs false
set_option linter.unusedVariables false
open Go.RowKit
set_option maxRecDepth 100000 in
set_option maxHeartbeats 1600000 in
theorem top_impl_LookUp (ds : List On) (o key : Int) (hO : OB ds) : ∀ (A : Option Addr) (n c : Nat) (w : World), n = ds.length → n ≤ c → OS w w.heap.size A ds →
    Calls Try.prog 20 #[.slice A n c, .int .i64 o, .int .i64 key] w fun e w' => e = .returned (.tuple #[.int .i64 ((lookO ds o key).getD 0), .bool (lookO ds o key).isSome]) ∧ Below w.heap.size w w' := by
  intro A n c w hn hnc h
  have hnb : n ≤ 1048576 := by rw [hn]; exact hO.1
  have HC := Lib.hid (top_impl_AboveOf ds o hO A n c w hn hnc h)
  have HS := Lib.hid h
  have HN := Lib.hid hn
  unfold lookO
  cases hr : rng key 0 2
  · clear hn h hO
    simp only [Bool.false_eq_true, if_false]
    go_enter Try.func20, Try.ntmps20
    go_wp2_with fail
    refine (impl_inRange _ _ _).mono ?_
    rintro e w' ⟨rfl, rfl⟩
    go_wp2
    go_ret2
    exact ⟨rfl, Below.refl _ _⟩
  obtain ⟨hk0, hk1⟩ := (rng_iff _ _ _).1 hr
  obtain ⟨kn, rfl⟩ : ∃ kn : Nat, key = kn := ⟨key.toNat, by omega⟩
  have hkn : kn < 3 := by omega
  simp only [if_true, Int.toNat_natCast]
  have HM := Lib.hid (aboveF_mem ds o)
  have hLl := aboveF_len ds o
  generalize aboveF ds o = L at *
  obtain ⟨T, hT⟩ : ∃ T, T = lookG ds kn L := ⟨_, rfl⟩
  rw [← hT]
  have HT := Lib.hid hT
  obtain ⟨m, hm⟩ : ∃ m : Nat, m = L.length := ⟨_, rfl⟩
  have hm12 : m ≤ 12 := by omega
  have HM2 := Lib.hid hm
  clear hn h hO hT hk0 hk1 hm hLl
  go_enter Try.func20, Try.ntmps20
  go_wp2_with fail
  refine (impl_inRange _ _ _).mono ?_
  rintro e w' ⟨rfl, rfl⟩
  go_wp2_with fail
  refine HC.out.mono ?_
  rintro e w1 ⟨v, rfl, ho, hb⟩
  obtain ⟨A1, c1, rfl, hIS⟩ := ho.form
  rw [← HM2.out]
  have HI := Lib.hid hIS
  have HS1 := Lib.hid (HS.out.step hb)
  have HB1 := Lib.hid hb
  clear ho hIS hb HC
  go_wp2
  go_loopw [18] (fun i wr => ∃ k : Nat, k ≤ m ∧ i = .int .i64 k ∧ Hid (lookG ds kn (L.drop k) = T) ∧ wr = w1) (fun i _ => m - (intOf i).toNat)
  case atStart => exact ⟨0, Nat.zero_le _, rfl, HT.out.symm, rfl⟩
  case round =>
    obtain ⟨k, hk, rfl, HK, rfl⟩ := hrel
    by_cases hlt : k < m
    · have hkL : k < L.length := by have := HM2.out; omega
      obtain ⟨b1, off1, rfl, hb1, hc1⟩ := HI.out (by omega)
      have d0 := hc1 k hkL
      obtain ⟨x, hx, hxn, hv⟩ := HM.out (L.getD k 0) (by simp [List.getD, hkL])
      rw [hx] at d0
      obtain ⟨b, off, rfl, hbB, c0, c1', -, A2, n2, d2, c3, hn2, hp2⟩ := HS1.out.at_ x hxn
      obtain ⟨hx3, hxc⟩ := okO_ctx hv x hxn
      obtain ⟨b2, off2, rfl, hb2, hc2⟩ := hp2 (by omega)
      have d3 := hc2 kn (by omega)
      have hge := hxc kn hkn
      have hn23 : n2 = 3 := by omega
      have hkn2 : kn < n2 := by omega
      have hxn2 : x < n := by have := HN.out; omega
      have hLd : L.drop k = (x : Int) :: L.drop (k + 1) := by
        rw [List.drop_eq_getElem_cons hkL, ← hx]; simp [List.getD, hkL]
      have hcv : ctxV ds kn (x : Int) = (ds.getD x default).cx.getD kn 0 := by simp [ctxV]
      have hkk := HK.out
      rw [hLd, lookG, hcv] at hkk
      generalize (ds.getD x default).cx.getD kn 0 = y at *
      clear hc1 hc2 c0 c1' hv hx3 hxc hp2 HS1 HI hn2 hn23 hcv hLd hx hxn hkL HK
      by_cases hy : y = -1
      · subst hy
        rw [if_neg (by omega)] at hkk
        have HKK := Lib.hid hkk
        clear hkk hge
        go_wp2
        go_roundw
        case rel => exact ⟨k + 1, by omega, by go_num, HKK.out, trivial⟩
        case measure => simp [intOf]; omega
      · have hne : (y != -1) = true := by simp [bne, hy]
        rw [if_pos (by omega)] at hkk
        subst hkk
        clear hy hge
        go_wp2
        go_ret2
        exact ⟨rfl, HB1.out⟩
    · obtain rfl : k = m := by omega
      have hT : T = none := by rw [← HK.out, HM2.out, List.drop_length]; rfl
      subst hT
      go_wp2
      go_ret2
      exact ⟨rfl, HB1.out⟩
end Go.Proofs.Ytjhpknnhgbdkiaa

namespace Go.Proofs.Ytjhpknnhgbdkiaa
set_option linter.unusedSimpArgs false
set_option linter.unusedVariables false
open Go.RowKit
set_option maxRecDepth 100000 in
set_option maxHeartbeats 3200000 in
theorem laws_equalOwners (A A' : Option Addr) (n c c' : Nat) (ds : List On) (w : World) (B : Nat) (hB : B ≤ w.heap.size) (hn : n = ds.length) (h : OS w B A ds) (h' : OS w B A' ds) (hb : OB ds) :
    Calls Try.prog 29 #[.slice A n c, .slice A' n c'] w fun e w' => e = .returned (.bool true) ∧ Below w.heap.size w w' := by
  have hnb : n ≤ 1048576 := by rw [hn]; exact hb.1
  have hne : ((n : Int) != (n : Int)) = false := by simp
  have H := Lib.hid h
  have H' := Lib.hid h'
  have HN := Lib.hid hn
  have HBD := Lib.hid hb
  clear hn h h' hb
  go_enter Try.func29, Try.ntmps29
  go_wp2
  go_loopw [5] (fun i wr => ∃ k : Nat, k ≤ n ∧ i = .int .i64 k ∧ Below w.heap.size w wr) (fun i _ => n - (intOf i).toNat)
  case atStart => exact ⟨0, Nat.zero_le _, rfl, Below.refl _ _⟩
  case round =>
    obtain ⟨k, hk, rfl, hb⟩ := hrel
    by_cases hlt : k < n
    · obtain ⟨b, off, rfl, hbB, c0, c1, ⟨A1, n1, d1, c2, hn1', hp1⟩, A2, n2, d2, c3, hn2', hp2⟩ := H.out.at_ k (by have := HN.out; omega)
      obtain ⟨b', off', rfl, hbB', e0, e1, ⟨A3, n3, d3, e2, hn3', hp3⟩, A4, n4, d4, e3, hn4', hp4⟩ := H'.out.at_ k (by have := HN.out; omega)
      have hx := HBD.out.2.2 k
      clear H H'
      have b0 := (hb.cell (p := ⟨b, off + k * 4, none⟩) (by simp; omega)).trans c0
      have b1 := (hb.cell (p := ⟨b, off + k * 4 + 1, none⟩) (by simp; omega)).trans c1
      have b2 := (hb.cell (p := ⟨b, off + k * 4 + 2, none⟩) (by simp; omega)).trans c2
      have b3 := (hb.cell (p := ⟨b, off + k * 4 + 3, none⟩) (by simp; omega)).trans c3
      have g0 := (hb.cell (p := ⟨b', off' + k * 4, none⟩) (by simp; omega)).trans e0
      have g1 := (hb.cell (p := ⟨b', off' + k * 4 + 1, none⟩) (by simp; omega)).trans e1
      have g2 := (hb.cell (p := ⟨b', off' + k * 4 + 2, none⟩) (by simp; omega)).trans e2
      have g3 := (hb.cell (p := ⟨b', off' + k * 4 + 3, none⟩) (by simp; omega)).trans e3
      have HP1 := Lib.hid (hp1.below hb hB)
      have HP2 := Lib.hid (hp2.below hb hB)
      have HP3 := Lib.hid (hp3.below hb hB)
      have HP4 := Lib.hid (hp4.below hb hB)
      generalize ds.getD k default = p at *
      obtain ⟨pp, po, pcl, pcx⟩ := p
      dsimp only at *
      have HE1 := Lib.hid fun (w' : World) (hB : B ≤ w'.heap.size) (a1 : IS w' B A1 pcl) (a3 : IS w' B A3 pcl) => laws_equalInts A1 A3 n1 n3 d1 d3 pcl pcl w' B hB hn1' hn3' a1 a3 (by omega) (by omega)
      have HE2 := Lib.hid fun (w' : World) (hB : B ≤ w'.heap.size) (a1 : IS w' B A2 pcx) (a3 : IS w' B A4 pcx) => laws_equalInts A2 A4 n2 n4 d2 d4 pcx pcx w' B hB hn2' hn4' a1 a3 (by omega) (by omega)
      have hd1 : decide (pcl = pcl) = true := by simp
      have hd2 : decide (pcx = pcx) = true := by simp
      rw [hd1] at HE1
      rw [hd2] at HE2
      have hbw : b < wr.heap.size := by have := hb.size; omega
      have hbw' : b' < wr.heap.size := by have := hb.size; omega
      have hBw : B ≤ wr.heap.size := by have := hb.size; omega
      have hpo : (po != po) = false := by simp
      have hpp : (pp != pp) = false := by simp
      clear c0 c1 c2 c3 e0 e1 e2 e3 hp1 hp2 hp3 hp4 hn1' hn2' hn3' hn4' hx hd1 hd2
      go_upto_region 6 with fail
      refine wp_region_held_drew (S := fun w' => w'.cell? ⟨b, off + k * 4, none⟩ = some (.int .i64 pp) ∧ w'.cell? ⟨b, off + k * 4 + 1, none⟩ = some (.bool po) ∧ w'.cell? ⟨b, off + k * 4 + 2, none⟩ = some (.slice A1 n1 d1) ∧ w'.cell? ⟨b, off + k * 4 + 3, none⟩ = some (.slice A2 n2 d2) ∧ w'.cell? ⟨b', off' + k * 4, none⟩ = some (.int .i64 pp) ∧ w'.cell? ⟨b', off' + k * 4 + 1, none⟩ = some (.bool po) ∧ w'.cell? ⟨b', off' + k * 4 + 2, none⟩ = some (.slice A3 n3 d3) ∧ w'.cell? ⟨b', off' + k * 4 + 3, none⟩ = some (.slice A4 n4 d4)) (by kernel_rfl) ⟨b0, b1, b2, b3, g0, g1, g2, g3⟩ (fun hHeld => ?_)
      refine wpAnyH_take (i := 0) (oi := ⟨some 17, _, _, _, _, _⟩) (v := ?_) rfl (by kernel_rfl) (by kernel_rfl) (by kernel_rfl) (fun _ _ _ h => h) (Or.inl ⟨by rfl, ?_⟩) (by assumption) ?_; rotate_left; (focus (intro w hSw; (try dsimp only at hSw); go_simp; (try with_reducible rfl))); (try simp only [Act.put, List.setIfInBounds_toArray, List.set_cons_zero, List.set_cons_succ])
      refine wpAnyH_take (i := 1) (oi := ⟨some 18, _, _, _, _, _⟩) (v := ?_) rfl (by kernel_rfl) (by kernel_rfl) (by kernel_rfl) (fun _ _ _ h => h) (Or.inl ⟨by rfl, ?_⟩) (by assumption) ?_; rotate_left; (focus (intro w hSw; (try dsimp only at hSw); go_simp; (try with_reducible rfl))); (try simp only [Act.put, List.setIfInBounds_toArray, List.set_cons_zero, List.set_cons_succ])
      refine wpAnyH_take (i := 2) (oi := ⟨some 19, _, _, _, _, _⟩) (v := ?_) rfl (by kernel_rfl) (by kernel_rfl) (by kernel_rfl) (fun _ _ _ h => h) (Or.inl ⟨by rfl, ?_⟩) (by assumption) ?_; rotate_left; (focus (intro w hSw; (try dsimp only at hSw); go_simp; (try with_reducible rfl))); (try simp only [Act.put, List.setIfInBounds_toArray, List.set_cons_zero, List.set_cons_succ])
      refine wpAnyH_take (i := 3) (oi := ⟨some 20, _, _, _, _, _⟩) (v := ?_) rfl (by kernel_rfl) (by kernel_rfl) (by kernel_rfl) (fun _ _ _ h => h) (Or.inl ⟨by rfl, ?_⟩) (by assumption) ?_; rotate_left; (focus (intro w hSw; (try dsimp only at hSw); go_simp; (try with_reducible rfl))); (try simp only [Act.put, List.setIfInBounds_toArray, List.set_cons_zero, List.set_cons_succ])
      refine wpAnyH_take (i := 4) (oi := ⟨some 21, _, _, _, _, _⟩) (v := ?_) rfl (by kernel_rfl) (by kernel_rfl) (by kernel_rfl) (fun _ _ _ h => h) (Or.inl ⟨by rfl, ?_⟩) (by assumption) ?_; rotate_left; (focus (intro w hSw; (try dsimp only at hSw); go_simp; (try with_reducible rfl))); (try simp only [Act.put, List.setIfInBounds_toArray, List.set_cons_zero, List.set_cons_succ])
      refine wpAnyH_take (i := 5) (oi := ⟨some 22, _, _, _, _, _⟩) (v := ?_) rfl (by kernel_rfl) (by kernel_rfl) (by kernel_rfl) (fun _ _ _ h => h) (Or.inl ⟨by rfl, ?_⟩) (by assumption) ?_; rotate_left; (focus (intro w hSw; (try dsimp only at hSw); go_simp; (try with_reducible rfl))); (try simp only [Act.put, List.setIfInBounds_toArray, List.set_cons_zero, List.set_cons_succ])
      refine wpAnyH_take (i := 6) (oi := ⟨some 23, _, _, _, _, _⟩) (v := ?_) rfl (by kernel_rfl) (by kernel_rfl) (by kernel_rfl) (fun _ _ _ h => h) (Or.inl ⟨by rfl, ?_⟩) (by assumption) ?_; rotate_left; (focus (intro w hSw; (try dsimp only at hSw); go_simp; (try with_reducible rfl))); (try simp only [Act.put, List.setIfInBounds_toArray, List.set_cons_zero, List.set_cons_succ])
      refine wpAnyH_take (i := 7) (oi := ⟨some 24, _, _, _, _, _⟩) (v := ?_) rfl (by kernel_rfl) (by kernel_rfl) (by kernel_rfl) (fun _ _ _ h => h) (Or.inl ⟨by rfl, ?_⟩) (by assumption) ?_; rotate_left; (focus (intro w hSw; (try dsimp only at hSw); go_simp; (try with_reducible rfl))); (try simp only [Act.put, List.setIfInBounds_toArray, List.set_cons_zero, List.set_cons_succ])
      refine wpAnyH_take (i := 8) (oi := ⟨some 25, _, _, _, _, _⟩) (v := ?_) rfl (by kernel_rfl) (by kernel_rfl) (by kernel_rfl) (fun _ _ _ h => h) (Or.inl ⟨by rfl, ?_⟩) (by assumption) ?_; rotate_left; (focus (intro w hSw; (try dsimp only at hSw); go_simp; (try with_reducible rfl))); (try simp only [Act.put, List.setIfInBounds_toArray, List.set_cons_zero, List.set_cons_succ])
      refine wpAnyH_take (i := 9) (oi := ⟨some 26, _, _, _, _, _⟩) (v := ?_) rfl (by kernel_rfl) (by kernel_rfl) (by kernel_rfl) (fun _ _ _ h => h) (Or.inl ⟨by rfl, ?_⟩) (by assumption) ?_; rotate_left; (focus (intro w hSw; (try dsimp only at hSw); go_simp; (try with_reducible rfl))); (try simp only [Act.put, List.setIfInBounds_toArray, List.set_cons_zero, List.set_cons_succ])
      refine wpAnyH_take (i := 10) (oi := ⟨some 27, _, _, _, _, _⟩) (v := ?_) rfl (by kernel_rfl) (by kernel_rfl) (by kernel_rfl) (fun _ _ _ h => h) (Or.inl ⟨by rfl, ?_⟩) (by assumption) ?_; rotate_left; (focus (intro w hSw; (try dsimp only at hSw); go_simp; (try with_reducible rfl))); (try simp only [Act.put, List.setIfInBounds_toArray, List.set_cons_zero, List.set_cons_succ])
      refine wpAnyH_take (i := 11) (oi := ⟨some 28, _, _, _, _, _⟩) (v := ?_) rfl (by kernel_rfl) (by kernel_rfl) (by kernel_rfl) (fun _ _ _ h => h) (Or.inl ⟨by rfl, ?_⟩) (by assumption) ?_; rotate_left; (focus (intro w hSw; (try dsimp only at hSw); go_simp; (try with_reducible rfl))); (try simp only [Act.put, List.setIfInBounds_toArray, List.set_cons_zero, List.set_cons_succ])
      refine wpAnyH_take (i := 12) (oi := ⟨some 29, _, _, _, _, _⟩) (v := ?_) rfl (by kernel_rfl) (by kernel_rfl) (by kernel_rfl) (fun _ _ _ h => h) (Or.inl ⟨by rfl, ?_⟩) (by assumption) ?_; rotate_left; (focus (intro w hSw; (try dsimp only at hSw); go_simp; (try with_reducible rfl))); (try simp only [Act.put, List.setIfInBounds_toArray, List.set_cons_zero, List.set_cons_succ])
      refine wpAnyH_take (i := 13) (oi := ⟨some 30, _, _, _, _, _⟩) (v := ?_) rfl (by kernel_rfl) (by kernel_rfl) (by kernel_rfl) (fun _ _ _ h => h) (Or.inl ⟨by rfl, ?_⟩) (by assumption) ?_; rotate_left; (focus (intro w hSw; (try dsimp only at hSw); go_simp; (try with_reducible rfl))); (try simp only [Act.put, List.setIfInBounds_toArray, List.set_cons_zero, List.set_cons_succ])
      refine wpAnyH_take (i := 14) (oi := ⟨some 31, _, _, _, _, _⟩) (v := ?_) rfl (by kernel_rfl) (by kernel_rfl) (by kernel_rfl) (fun _ _ _ h => h) (Or.inl ⟨by rfl, ?_⟩) (by assumption) ?_; rotate_left; (focus (intro w hSw; (try dsimp only at hSw); go_simp; (try with_reducible rfl))); (try simp only [Act.put, List.setIfInBounds_toArray, List.set_cons_zero, List.set_cons_succ])
      refine wpAnyH_take (i := 15) (oi := ⟨some 32, _, _, _, _, _⟩) (v := ?_) rfl (by kernel_rfl) (by kernel_rfl) (by kernel_rfl) (fun _ _ _ h => h) (Or.inl ⟨by rfl, ?_⟩) (by assumption) ?_; rotate_left; (focus (intro w hSw; (try dsimp only at hSw); go_simp; (try with_reducible rfl))); (try simp only [Act.put, List.setIfInBounds_toArray, List.set_cons_zero, List.set_cons_succ])
      refine wpAnyH_take (i := 16) (oi := ⟨some 33, _, _, _, _, _⟩) (v := ?_) rfl (by kernel_rfl) (by kernel_rfl) (by kernel_rfl) (fun _ _ _ h => h) (Or.inl ⟨by rfl, ?_⟩) (by assumption) ?_; rotate_left; (focus (intro w hSw; (try dsimp only at hSw); go_simp; (try with_reducible rfl))); (try simp only [Act.put, List.setIfInBounds_toArray, List.set_cons_zero, List.set_cons_succ])
      refine wpAnyH_take (i := 17) (oi := ⟨some 34, _, _, _, _, _⟩) (v := ?_) rfl (by kernel_rfl) (by kernel_rfl) (by kernel_rfl) (fun _ _ _ h => h) (Or.inl ⟨by rfl, ?_⟩) (by assumption) ?_; rotate_left; (focus (intro w hSw; (try dsimp only at hSw); go_simp; (try with_reducible rfl))); (try simp only [Act.put, List.setIfInBounds_toArray, List.set_cons_zero, List.set_cons_succ])
      refine wpAnyH_take (i := 18) (oi := ⟨some 35, _, _, _, _, _⟩) (v := ?_) rfl (by kernel_rfl) (by kernel_rfl) (by kernel_rfl) (fun _ _ _ h => h) (Or.inl ⟨by rfl, ?_⟩) (by assumption) ?_; rotate_left; (focus (intro w hSw; (try dsimp only at hSw); go_simp; (try with_reducible rfl))); (try simp only [Act.put, List.setIfInBounds_toArray, List.set_cons_zero, List.set_cons_succ])
      refine wpAnyH_take (i := 19) (oi := ⟨some 36, _, _, _, _, _⟩) (v := ?_) rfl (by kernel_rfl) (by kernel_rfl) (by kernel_rfl) (fun _ _ _ h => h) (Or.inl ⟨by rfl, ?_⟩) (by assumption) ?_; rotate_left; (focus (intro w hSw; (try dsimp only at hSw); go_simp; (try with_reducible rfl))); (try simp only [Act.put, List.setIfInBounds_toArray, List.set_cons_zero, List.set_cons_succ])
      refine wpAnyH_take (i := 20) (oi := ⟨some 37, _, _, _, _, _⟩) (v := ?_) rfl (by kernel_rfl) (by kernel_rfl) (by kernel_rfl) (fun _ _ _ h => h) (Or.inl ⟨by rfl, ?_⟩) (by assumption) ?_; rotate_left; (focus (intro w hSw; (try dsimp only at hSw); go_simp; (try with_reducible rfl))); (try simp only [Act.put, List.setIfInBounds_toArray, List.set_cons_zero, List.set_cons_succ])
      refine wpAnyH_take (i := 21) (oi := ⟨some 38, _, _, _, _, _⟩) (v := ?_) rfl (by kernel_rfl) (by kernel_rfl) (by kernel_rfl) (fun _ _ _ h => h) (Or.inl ⟨by rfl, ?_⟩) (by assumption) ?_; rotate_left; (focus (intro w hSw; (try dsimp only at hSw); go_simp; (try with_reducible rfl))); (try simp only [Act.put, List.setIfInBounds_toArray, List.set_cons_zero, List.set_cons_succ])
      refine wpAnyH_take (i := 22) (oi := ⟨some 39, _, _, _, _, _⟩) (v := ?_) rfl (by kernel_rfl) (by kernel_rfl) (by kernel_rfl) (fun _ _ _ h => h) (Or.inl ⟨by rfl, ?_⟩) (by assumption) ?_; rotate_left; (focus (intro w hSw; (try dsimp only at hSw); go_simp; (try with_reducible rfl))); (try simp only [Act.put, List.setIfInBounds_toArray, List.set_cons_zero, List.set_cons_succ])
      refine wpAnyH_take (i := 23) (oi := ⟨some 40, _, _, _, _, _⟩) (v := ?_) rfl (by kernel_rfl) (by kernel_rfl) (by kernel_rfl) (fun _ _ _ h => h) (Or.inl ⟨by rfl, ?_⟩) (by assumption) ?_; rotate_left; (focus (intro w hSw; (try dsimp only at hSw); go_simp; (try with_reducible rfl))); (try simp only [Act.put, List.setIfInBounds_toArray, List.set_cons_zero, List.set_cons_succ])
      refine wpAnyH_take (i := 24) (oi := ⟨some 41, _, _, _, _, _⟩) (v := ?_) rfl (by kernel_rfl) (by kernel_rfl) (by kernel_rfl) (fun _ _ _ h => h) (Or.inl ⟨by rfl, ?_⟩) (by assumption) ?_; rotate_left; (focus (intro w hSw; (try dsimp only at hSw); go_simp; (try with_reducible rfl))); (try simp only [Act.put, List.setIfInBounds_toArray, List.set_cons_zero, List.set_cons_succ])
      refine wpAnyH_take (i := 25) (oi := ⟨some 42, _, _, _, _, _⟩) (v := ?_) rfl (by kernel_rfl) (by kernel_rfl) (by kernel_rfl) (fun _ _ _ h => h) (Or.inl ⟨by rfl, ?_⟩) (by assumption) ?_; rotate_left; (focus (intro w hSw; (try dsimp only at hSw); go_simp; (try with_reducible rfl))); (try simp only [Act.put, List.setIfInBounds_toArray, List.set_cons_zero, List.set_cons_succ])
      refine wpAnyH_take (i := 26) (oi := ⟨some 43, _, _, _, _, _⟩) (v := ?_) rfl (by kernel_rfl) (by kernel_rfl) (by kernel_rfl) (fun _ _ _ h => h) (Or.inl ⟨by rfl, ?_⟩) (by assumption) ?_; rotate_left; (focus (intro w hSw; (try dsimp only at hSw); go_simp; (try with_reducible rfl))); (try simp only [Act.put, List.setIfInBounds_toArray, List.set_cons_zero, List.set_cons_succ])
      refine wpAnyH_take (i := 27) (oi := ⟨some 44, _, _, _, _, _⟩) (v := ?_) rfl (by kernel_rfl) (by kernel_rfl) (by kernel_rfl) (fun _ _ _ h => h) (Or.inl ⟨by rfl, ?_⟩) (by assumption) ?_; rotate_left; (focus (intro w hSw; (try dsimp only at hSw); go_simp; (try with_reducible rfl))); (try simp only [Act.put, List.setIfInBounds_toArray, List.set_cons_zero, List.set_cons_succ])
      refine wpAnyH_take (i := 28) (oi := ⟨some 45, _, _, _, _, _⟩) (v := ?_) rfl (by kernel_rfl) (by kernel_rfl) (by kernel_rfl) (fun _ _ _ h => h) (Or.inl ⟨by rfl, ?_⟩) (by assumption) ?_; rotate_left; (focus (intro w hSw; (try dsimp only at hSw); go_simp; (try with_reducible rfl))); (try simp only [Act.put, List.setIfInBounds_toArray, List.set_cons_zero, List.set_cons_succ])
      refine wpAnyH_take (i := 29) (oi := ⟨some 46, _, _, _, _, _⟩) (v := ?_) rfl (by kernel_rfl) (by kernel_rfl) (by kernel_rfl) (fun _ _ _ h => h) (Or.inl ⟨by rfl, ?_⟩) (by assumption) ?_; rotate_left; (focus (intro w hSw; (try dsimp only at hSw); go_simp; (try with_reducible rfl))); (try simp only [Act.put, List.setIfInBounds_toArray, List.set_cons_zero, List.set_cons_succ])
      refine wpAnyH_take (i := 30) (oi := ⟨some 47, _, _, _, _, _⟩) (v := ?_) rfl (by kernel_rfl) (by kernel_rfl) (by kernel_rfl) (fun _ _ _ h => h) (Or.inl ⟨by rfl, ?_⟩) (by assumption) ?_; rotate_left; (focus (intro w hSw; (try dsimp only at hSw); go_simp; (try with_reducible rfl))); (try simp only [Act.put, List.setIfInBounds_toArray, List.set_cons_zero, List.set_cons_succ])
      refine wpAnyH_take (i := 31) (oi := ⟨some 48, _, _, _, _, _⟩) (v := ?_) rfl (by kernel_rfl) (by kernel_rfl) (by kernel_rfl) (fun _ _ _ h => h) (Or.inl ⟨by rfl, ?_⟩) (by assumption) ?_; rotate_left; (focus (intro w hSw; (try dsimp only at hSw); go_simp; (try with_reducible rfl))); (try simp only [Act.put, List.setIfInBounds_toArray, List.set_cons_zero, List.set_cons_succ])
      refine wpAnyH_take (i := 32) (oi := ⟨some 49, _, _, _, _, _⟩) (v := ?_) rfl (by kernel_rfl) (by kernel_rfl) (by kernel_rfl) (fun _ _ _ h => h) (Or.inl ⟨by rfl, ?_⟩) (by assumption) ?_; rotate_left; (focus (intro w hSw; (try dsimp only at hSw); go_simp; (try with_reducible rfl))); (try simp only [Act.put, List.setIfInBounds_toArray, List.set_cons_zero, List.set_cons_succ])
      refine wpAnyH_take (i := 33) (oi := ⟨some 50, _, _, _, _, _⟩) (v := ?_) rfl (by kernel_rfl) (by kernel_rfl) (by kernel_rfl) (fun _ _ _ h => h) (Or.inl ⟨by rfl, ?_⟩) (by assumption) ?_; rotate_left; (focus (intro w hSw; (try dsimp only at hSw); go_simp; (try with_reducible rfl))); (try simp only [Act.put, List.setIfInBounds_toArray, List.set_cons_zero, List.set_cons_succ])
      refine wpAnyH_take (i := 34) (oi := ⟨some 51, _, _, _, _, _⟩) (v := ?_) rfl (by kernel_rfl) (by kernel_rfl) (by kernel_rfl) (fun _ _ _ h => h) (Or.inl ⟨by rfl, ?_⟩) (by assumption) ?_; rotate_left; (focus (intro w hSw; (try dsimp only at hSw); go_simp; (try with_reducible rfl))); (try simp only [Act.put, List.setIfInBounds_toArray, List.set_cons_zero, List.set_cons_succ])
      refine wpAnyH_ready (rs := [35]) (by kernel_rfl) (by simp) ?_; refine AllReadyH.cons (o := ⟨some 52, _, _, _, _, _⟩) rfl (fun K hK => ?_) AllReadyH.nil; go_simp
      go_at_call 11
      refine (HE1.out wr.drew hBw HP1.out HP3.out).mono ?_
      rintro e w2 ⟨rfl, hb2'⟩
      have hb2 : Below wr.heap.size wr w2 := below_of_drew hb2'
      have b0 := (hb2.cell (p := ⟨b, off + k * 4, none⟩) hbw).trans b0
      have b1 := (hb2.cell (p := ⟨b, off + k * 4 + 1, none⟩) hbw).trans b1
      have b2 := (hb2.cell (p := ⟨b, off + k * 4 + 2, none⟩) hbw).trans b2
      have b3 := (hb2.cell (p := ⟨b, off + k * 4 + 3, none⟩) hbw).trans b3
      have g0 := (hb2.cell (p := ⟨b', off' + k * 4, none⟩) hbw').trans g0
      have g1 := (hb2.cell (p := ⟨b', off' + k * 4 + 1, none⟩) hbw').trans g1
      have g2 := (hb2.cell (p := ⟨b', off' + k * 4 + 2, none⟩) hbw').trans g2
      have g3 := (hb2.cell (p := ⟨b', off' + k * 4 + 3, none⟩) hbw').trans g3
      have hs2 := hb2.size
      have HQ2 := Lib.hid (HP2.out.below hb2 hBw)
      have HQ4 := Lib.hid (HP4.out.below hb2 hBw)
      have HB2 := Lib.hid (hb.trans (hb2.mono hb.size))
      clear hb2 hb2' HP1 HP2 HP3 HP4 HE1
      refine hK.out _ _ ⟨b0, b1, b2, b3, g0, g1, g2, g3⟩ (fun hHeld => ?_); clear hK K; (try simp only [Act.put, List.setIfInBounds_toArray, List.set_cons_zero, List.set_cons_succ])
      refine wpAnyH_take (i := 36) (oi := ⟨some 53, _, _, _, _, _⟩) (v := ?_) rfl (by kernel_rfl) (by kernel_rfl) (by kernel_rfl) (fun _ _ _ h => h) (Or.inl ⟨by rfl, ?_⟩) (by assumption) ?_; rotate_left; (focus (intro w hSw; (try dsimp only at hSw); go_simp; (try with_reducible rfl))); (try simp only [Act.put, List.setIfInBounds_toArray, List.set_cons_zero, List.set_cons_succ])
      refine wpAnyH_take (i := 37) (oi := ⟨some 54, _, _, _, _, _⟩) (v := ?_) rfl (by kernel_rfl) (by kernel_rfl) (by kernel_rfl) (fun _ _ _ h => h) (Or.inl ⟨by rfl, ?_⟩) (by assumption) ?_; rotate_left; (focus (intro w hSw; (try dsimp only at hSw); go_simp; (try with_reducible rfl))); (try simp only [Act.put, List.setIfInBounds_toArray, List.set_cons_zero, List.set_cons_succ])
      refine wpAnyH_take (i := 38) (oi := ⟨some 55, _, _, _, _, _⟩) (v := ?_) rfl (by kernel_rfl) (by kernel_rfl) (by kernel_rfl) (fun _ _ _ h => h) (Or.inl ⟨by rfl, ?_⟩) (by assumption) ?_; rotate_left; (focus (intro w hSw; (try dsimp only at hSw); go_simp; (try with_reducible rfl))); (try simp only [Act.put, List.setIfInBounds_toArray, List.set_cons_zero, List.set_cons_succ])
      refine wpAnyH_take (i := 39) (oi := ⟨some 56, _, _, _, _, _⟩) (v := ?_) rfl (by kernel_rfl) (by kernel_rfl) (by kernel_rfl) (fun _ _ _ h => h) (Or.inl ⟨by rfl, ?_⟩) (by assumption) ?_; rotate_left; (focus (intro w hSw; (try dsimp only at hSw); go_simp; (try with_reducible rfl))); (try simp only [Act.put, List.setIfInBounds_toArray, List.set_cons_zero, List.set_cons_succ])
      refine wpAnyH_take (i := 40) (oi := ⟨some 57, _, _, _, _, _⟩) (v := ?_) rfl (by kernel_rfl) (by kernel_rfl) (by kernel_rfl) (fun _ _ _ h => h) (Or.inl ⟨by rfl, ?_⟩) (by assumption) ?_; rotate_left; (focus (intro w hSw; (try dsimp only at hSw); go_simp; (try with_reducible rfl))); (try simp only [Act.put, List.setIfInBounds_toArray, List.set_cons_zero, List.set_cons_succ])
      refine wpAnyH_take (i := 41) (oi := ⟨some 58, _, _, _, _, _⟩) (v := ?_) rfl (by kernel_rfl) (by kernel_rfl) (by kernel_rfl) (fun _ _ _ h => h) (Or.inl ⟨by rfl, ?_⟩) (by assumption) ?_; rotate_left; (focus (intro w hSw; (try dsimp only at hSw); go_simp; (try with_reducible rfl))); (try simp only [Act.put, List.setIfInBounds_toArray, List.set_cons_zero, List.set_cons_succ])
      refine wpAnyH_take (i := 42) (oi := ⟨some 59, _, _, _, _, _⟩) (v := ?_) rfl (by kernel_rfl) (by kernel_rfl) (by kernel_rfl) (fun _ _ _ h => h) (Or.inl ⟨by rfl, ?_⟩) (by assumption) ?_; rotate_left; (focus (intro w hSw; (try dsimp only at hSw); go_simp; (try with_reducible rfl))); (try simp only [Act.put, List.setIfInBounds_toArray, List.set_cons_zero, List.set_cons_succ])
      refine wpAnyH_take (i := 43) (oi := ⟨some 60, _, _, _, _, _⟩) (v := ?_) rfl (by kernel_rfl) (by kernel_rfl) (by kernel_rfl) (fun _ _ _ h => h) (Or.inl ⟨by rfl, ?_⟩) (by assumption) ?_; rotate_left; (focus (intro w hSw; (try dsimp only at hSw); go_simp; (try with_reducible rfl))); (try simp only [Act.put, List.setIfInBounds_toArray, List.set_cons_zero, List.set_cons_succ])
      refine wpAnyH_take (i := 44) (oi := ⟨some 61, _, _, _, _, _⟩) (v := ?_) rfl (by kernel_rfl) (by kernel_rfl) (by kernel_rfl) (fun _ _ _ h => h) (Or.inl ⟨by rfl, ?_⟩) (by assumption) ?_; rotate_left; (focus (intro w hSw; (try dsimp only at hSw); go_simp; (try with_reducible rfl))); (try simp only [Act.put, List.setIfInBounds_toArray, List.set_cons_zero, List.set_cons_succ])
      refine wpAnyH_take (i := 45) (oi := ⟨some 62, _, _, _, _, _⟩) (v := ?_) rfl (by kernel_rfl) (by kernel_rfl) (by kernel_rfl) (fun _ _ _ h => h) (Or.inl ⟨by rfl, ?_⟩) (by assumption) ?_; rotate_left; (focus (intro w hSw; (try dsimp only at hSw); go_simp; (try with_reducible rfl))); (try simp only [Act.put, List.setIfInBounds_toArray, List.set_cons_zero, List.set_cons_succ])
      refine wpAnyH_take (i := 46) (oi := ⟨some 63, _, _, _, _, _⟩) (v := ?_) rfl (by kernel_rfl) (by kernel_rfl) (by kernel_rfl) (fun _ _ _ h => h) (Or.inl ⟨by rfl, ?_⟩) (by assumption) ?_; rotate_left; (focus (intro w hSw; (try dsimp only at hSw); go_simp; (try with_reducible rfl))); (try simp only [Act.put, List.setIfInBounds_toArray, List.set_cons_zero, List.set_cons_succ])
      refine wpAnyH_take (i := 47) (oi := ⟨some 64, _, _, _, _, _⟩) (v := ?_) rfl (by kernel_rfl) (by kernel_rfl) (by kernel_rfl) (fun _ _ _ h => h) (Or.inl ⟨by rfl, ?_⟩) (by assumption) ?_; rotate_left; (focus (intro w hSw; (try dsimp only at hSw); go_simp; (try with_reducible rfl))); (try simp only [Act.put, List.setIfInBounds_toArray, List.set_cons_zero, List.set_cons_succ])
      refine wpAnyH_take (i := 48) (oi := ⟨some 65, _, _, _, _, _⟩) (v := ?_) rfl (by kernel_rfl) (by kernel_rfl) (by kernel_rfl) (fun _ _ _ h => h) (Or.inl ⟨by rfl, ?_⟩) (by assumption) ?_; rotate_left; (focus (intro w hSw; (try dsimp only at hSw); go_simp; (try with_reducible rfl))); (try simp only [Act.put, List.setIfInBounds_toArray, List.set_cons_zero, List.set_cons_succ])
      refine wpAnyH_ready (rs := [49]) (by kernel_rfl) (by simp) ?_; refine AllReadyH.cons (o := ⟨some 66, _, _, _, _, _⟩) rfl (fun K hK => ?_) AllReadyH.nil; go_simp
      go_at_call 11
      refine (HE2.out w2 (by omega) HQ2.out HQ4.out).mono ?_
      rintro e w3 ⟨rfl, hb3⟩
      have hbw2 : b < w2.heap.size := by omega
      have hbw2' : b' < w2.heap.size := by omega
      have b0 := (hb3.cell (p := ⟨b, off + k * 4, none⟩) hbw2).trans b0
      have b1 := (hb3.cell (p := ⟨b, off + k * 4 + 1, none⟩) hbw2).trans b1
      have b2 := (hb3.cell (p := ⟨b, off + k * 4 + 2, none⟩) hbw2).trans b2
      have b3 := (hb3.cell (p := ⟨b, off + k * 4 + 3, none⟩) hbw2).trans b3
      have g0 := (hb3.cell (p := ⟨b', off' + k * 4, none⟩) hbw2').trans g0
      have g1 := (hb3.cell (p := ⟨b', off' + k * 4 + 1, none⟩) hbw2').trans g1
      have g2 := (hb3.cell (p := ⟨b', off' + k * 4 + 2, none⟩) hbw2').trans g2
      have g3 := (hb3.cell (p := ⟨b', off' + k * 4 + 3, none⟩) hbw2').trans g3
      have HB3 := Lib.hid (HB2.out.trans (hb3.mono HB2.out.size))
      clear hb3 HQ2 HQ4 HE2
      refine hK.out _ _ ⟨b0, b1, b2, b3, g0, g1, g2, g3⟩ (fun hHeld => ?_); clear hK K; (try simp only [Act.put, List.setIfInBounds_toArray, List.set_cons_zero, List.set_cons_succ])
      refine wpAnyH_take (i := 50) (oi := ⟨some 67, _, _, _, _, _⟩) (v := ?_) rfl (by kernel_rfl) (by kernel_rfl) (by kernel_rfl) (fun _ _ _ h => h) (Or.inl ⟨by rfl, ?_⟩) (by assumption) ?_; rotate_left; (focus (intro w hSw; (try dsimp only at hSw); go_simp; (try with_reducible rfl))); (try simp only [Act.put, List.setIfInBounds_toArray, List.set_cons_zero, List.set_cons_succ])
      refine wpAnyH_take (i := 51) (oi := ⟨some 68, _, _, _, _, _⟩) (v := ?_) rfl (by kernel_rfl) (by kernel_rfl) (by kernel_rfl) (fun _ _ _ h => h) (Or.inl ⟨by rfl, ?_⟩) (by assumption) ?_; rotate_left; (focus (intro w hSw; (try dsimp only at hSw); go_simp; (try with_reducible rfl))); (try simp only [Act.put, List.setIfInBounds_toArray, List.set_cons_zero, List.set_cons_succ])
      refine wpAnyH_done (by kernel_rfl) ?_ _
      go_wp2
      go_roundw
      case rel => exact ⟨k + 1, by omega, by go_num, HB3.out⟩
      case measure => simp [intOf]; omega
    · go_wp2
      go_ret
      exact ⟨rfl, hb⟩
end Go.Proofs.Ytjhpknnhgbdkiaa
