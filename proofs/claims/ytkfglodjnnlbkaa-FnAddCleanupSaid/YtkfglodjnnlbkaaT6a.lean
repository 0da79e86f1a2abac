/- Words and contracts for memory that the texts behind use. -/
import Derived.Test.YtkfglodjnnlbkaaT0a
import Derived.Test.YtkfglodjnnlbkaaT1a
import Derived.Test.YtkfglodjnnlbkaaT2b
import Derived.Test.YtkfglodjnnlbkaaT3a
import Derived.Test.YtkfglodjnnlbkaaT4a
import Derived.Test.YtkfglodjnnlbkaaT5a
import Derived.WalkKit
import Derived.Laws.OwnMore
import Derived.Deep.Draws
import Derived.Test.YtkfglodjnnlbkaaProg
import Derived.WalkSpells
import Derived.WalkLawsBesides
import Derived.Outline
import Derived.Lib.Hide
import Derived.BigQuiet
import Derived.Deep.QuietTactic
import Derived.StillTailTactics
import Derived.Deep.LoopGhost
import Derived.Laws.MakeOwn
import Derived.WalkSmall
import Derived.RegionTactic
import Derived.BigRegion
import Derived.Deep.RegionWith
import Derived.Deep.RegionHeld3
import Derived.Maps.Own
import Derived.Maps.Views
import Derived.Maps.AppendAt
import Derived.Laws.CopyOwn
import Derived.Deep.Cut
import Derived.Laws.Entries
import Derived.Laws.Bits64
import Derived.IntWalk
import Derived.Deep.RegionLaw
import Derived.Deep.AppendLies
import Derived.Deep.DeepCutAuto
import Derived.ArgAppend

namespace Go.Proofs.Ytkfglodjnnlbkaa
set_option linter.unusedSimpArgs false
set_option linter.unusedVariables false
open Go.RowKit
theorem info_int : (Try.prog.info? 3).map (fun i => (i.zero, i.size, i.bytes)) = some (some (.int .i64 0), 1, 8) := by kernel_rfl
end Go.Proofs.Ytkfglodjnnlbkaa

namespace Go.Proofs.Ytkfglodjnnlbkaa
set_option linter.unusedSimpArgs false
set_option linter.unusedVariables false
open Go.RowKit
theorem below_of_drew {C : Nat} {w w' : World} (h : Below C w.drew w') : Below C w w' := ⟨h.os, h.tape, h.output, h.size, h.block⟩
end Go.Proofs.Ytkfglodjnnlbkaa

namespace Go.Proofs.Ytkfglodjnnlbkaa
set_option linter.unusedSimpArgs false
set_option linter.unusedVariables false
open Go.RowKit
theorem own_heap {w : World} {base e n cap g : Nat} {xs : List Value} (h : w.ownsRow base e 1 (.slice (some ⟨g, 0, none⟩) n cap) n xs) : ∃ cur : List Value, w.heap[g]? = some (.cells cur.toArray e (0, 0)) ∧ cur.length = cap ∧ base ≤ g := by
  rcases h.2 with ⟨hv, _⟩ | ⟨g', cap', cur, hv, hb, hh, h1, h2, h3, h4⟩
  · simp at hv
  · simp only [Value.slice.injEq, Option.some.injEq, Addr.mk.injEq, and_true, true_and] at hv
    obtain ⟨rfl, rfl⟩ := hv
    exact ⟨cur.toList, by simpa using hh, by simpa using h3, hb⟩
set_option maxRecDepth 100000 in
set_option maxHeartbeats 1600000 in
theorem impl_copyOf (A : Option Addr) (n c : Nat) (xs : List Int) (w : World) (B : Nat) (hB : B ≤ w.heap.size) (hn : n = xs.length) (h : IS w B A xs) (hs : n ≤ 2000000) :
    Calls Try.prog 72 #[.slice A n c] w fun e w' => e = .returned (.slice (some ⟨w.heap.size, 0, none⟩) n n) ∧ w'.ownsRow w.heap.size 3 1 (.slice (some ⟨w.heap.size, 0, none⟩) n n) n (xs.map (Value.int .i64)) ∧ Below w.heap.size w w' := by
  obtain ⟨i0, hi, hz0, hz1, hz2⟩ := info_parts info_int
  obtain ⟨w0, hmk, hown0, hgr0⟩ := run_make_full (P := Try.prog) w w.heap.size 26 3 i0 _ 1 Try.underlying26 hi hz0 hz1 .i64 .i64 n (by rw [hz2]; omega) (by unfold maxLen; omega) (Nat.le_refl _)
  obtain ⟨cur, hcur, hcl, _⟩ := own_heap hown0
  have hb0 : Below w.heap.size w w0 := ⟨hgr0.os, hgr0.tape, hgr0.output, hgr0.size, fun k hk => hgr0.block k hk (by simp)⟩
  obtain ⟨cs, hcs⟩ : ∃ cs : List Value, cs = xs.map (Value.int .i64) := ⟨_, rfl⟩
  have hsz : (Try.prog.info? 3).map (·.size) = some 1 := by kernel_rfl
  have hcl2 : cs.length = n := by rw [hcs, List.length_map]; exact hn.symm
  have hsrc : 0 < cs.length → some (⟨w.heap.size, 0, none⟩ : Addr) = some ⟨w.heap.size, 0, none⟩ ∧ ∃ ad, A = some ad ∧ ∀ j v, cs[j]? = some v → w0.cell? (ad.add j) = some v := by
    intro hp
    obtain ⟨b, off, e, hb, hc⟩ := h (by omega)
    refine ⟨rfl, _, e, fun j v hv => ?_⟩
    have hj : j < xs.length := by
      rcases Nat.lt_or_ge j cs.length with h1 | h1
      · omega
      · rw [List.getElem?_eq_none h1] at hv; cases hv
    have hadd : (⟨b, off, none⟩ : Addr).add j = ⟨b, off + j, none⟩ := by unfold Addr.add; split <;> simp_all
    rw [hadd, hb0.cell (p := ⟨b, off + j, none⟩) (by simp; omega), hc j hj, ← hv, hcs]
    simp [List.getD, hj]
  have h1 : ∀ v ∈ cs, v.oneCell' = true := by
    intro v hv
    rw [hcs] at hv
    obtain ⟨x, _, rfl⟩ := List.mem_map.1 hv
    rfl
  have HCUR := Lib.hid hcur
  have HCL := Lib.hid hcl
  have HCL2 := Lib.hid hcl2
  have HCS := Lib.hid hcs
  have HSRC := Lib.hid hsrc
  have HONE := Lib.hid h1
  have HB0 := Lib.hid hb0
  have HSZ := Lib.hid hsz
  clear hcur hcl hcl2 hcs hsrc h1 hb0 hsz hown0 hgr0 h hn
  go_enter Try.func72, Try.ntmps72
  go_wp2_with (with_reducible refine wpList_copy_splice rfl (.tmp 7) (.tmp 8) 26 26 rfl 3 Try.underlying26 HSZ.out _ _ _ _ _ _ rfl rfl w.heap.size 0 cur 3 HCUR.out cs ?c1 HSRC.out ?c2 HONE.out w.heap.size w HB0.out (Nat.le_refl _) ?_)
  case c1 => have := HCL2.out; omega
  case c2 => have := HCL2.out; have := HCL.out; omega
  intro w2 HG2 hB2
  go_wp2
  go_ret
  have hsp : splice cur 0 cs = cs := by
    unfold splice
    rw [List.take_zero, List.nil_append, List.drop_of_length_le (by have := HCL2.out; have := HCL.out; omega), List.append_nil]
  have hg2 := HG2.out
  rw [hsp] at hg2
  refine ⟨by simp, ⟨by rw [← HCS.out, HCL2.out]; simp, .inr ⟨w.heap.size, n, cs.toArray, rfl, Nat.le_refl _, hg2, Nat.le_refl _, by unfold maxLen; omega, by simpa using HCL2.out, ?_⟩⟩, hB2⟩
  rw [← HCS.out]
  exact List.take_of_length_le (by have := HCL2.out; simp; omega)
end Go.Proofs.Ytkfglodjnnlbkaa

namespace Go.Proofs.Ytkfglodjnnlbkaa
set_option linter.unusedSimpArgs false
set_option linter.unusedVariables false
open Go.RowKit
-- WANT impl_inRange spec_inRange impl_allInRange spec_allIn impl_copyOf spec_copyIntsA spec_copyInts RetI OwnI form nil Bl turn refl le alloc step MkW MkS leftOf leftOf_ok leftOf_no mark_ints held_ints markw_ints row_start laws_eqIntS laws_toIntS laws_markIntS laws_heldIntS box_new own_start below_of_drew As IS ints it loc mono keep Tch OwR own_form below more cell own_below set_getD getD_ne take_step take_all_eq take_succ_getD bcell RetT RetF RetB run_append1 append1 spec_append lt start setCell own lengths
section
variable {w w' : World} {B B' C : Nat} {A : Option Addr} {ds : List On}
theorem OS.at_ (h : OS w B A ds) (j : Nat) (hj : j < ds.length) : ∃ b off, A = some ⟨b, off, none⟩ ∧ b < B ∧ OnS w B b (off + j * 4) (ds.getD j default) := by
  obtain ⟨b, off, e, hb, hc⟩ := h (by omega)
  exact ⟨b, off, e, hb, hc j hj⟩
end
theorem rowsO_len (ds : List On) : (rowsO ds).length = ds.length * 2 := by
  induction ds with
  | nil => rfl
  | cons d ds ih => simp only [rowsO, List.flatMap_cons, List.length_append, List.length_cons, List.length_nil] at *; omega
/-- No more owners, and no more in their lists, than a million. -/
def OB (ds : List On) : Prop := ds.length ≤ 1048576 ∧ ((rowsO ds).map List.length).sum ≤ 1048576 ∧ ∀ j, (ds.getD j default).cl.length ≤ 1048576 ∧ (ds.getD j default).cx.length ≤ 1048576
theorem put4_size (w : World) (g j : Nat) (x y z u : Value) : (put4 w g j x y z u).heap.size = w.heap.size := by simp [put4, World.setCell]
theorem put4_below {B : Nat} {a w : World} (h : Below B a w) {g : Nat} (hg : B ≤ g) (j : Nat) (x y z u : Value) : Below B a (put4 w g j x y z u) :=
  (((h.setCell (p := ⟨g, j, none⟩) hg _).setCell (p := ⟨g, j + 1, none⟩) hg _).setCell (p := ⟨g, j + 2, none⟩) hg _).setCell (p := ⟨g, j + 3, none⟩) hg _
/-- The first owners, and none for the others. -/
def cpO (ds : List On) (n k : Nat) : List On := ds.take k ++ List.replicate (n - k) default
theorem cpO_len (ds : List On) (n k : Nat) (hn : n = ds.length) (hk : k ≤ n) : (cpO ds n k).length = n := by unfold cpO; simp; omega
theorem cpO_all (ds : List On) (n : Nat) (h : n = ds.length) : cpO ds n n = ds := by unfold cpO; simp [h]
theorem cpO_succ (ds : List On) (n k : Nat) (hn : n = ds.length) (hk : k < n) : (cpO ds n k).set k (ds.getD k default) = cpO ds n (k + 1) := by
  have hl := cpO_len ds n k hn (by omega)
  have hl' := cpO_len ds n (k + 1) hn (by omega)
  apply List.ext_getElem?
  intro i
  rw [List.getElem?_set]
  by_cases e : k = i
  · subst e
    rw [if_pos rfl, if_pos (by omega)]
    unfold cpO
    rw [List.getElem?_append_left (by simp; omega), List.getElem?_take, if_pos (by omega)]
    simp [List.getD, show k < ds.length by omega]
  · rw [if_neg e]
    unfold cpO
    rcases Nat.lt_or_ge i k with h1 | h1
    · rw [List.getElem?_append_left (by simp; omega), List.getElem?_append_left (by simp; omega), List.getElem?_take, List.getElem?_take, if_pos h1, if_pos (by omega)]
    · rw [List.getElem?_append_right (by simp; omega), List.getElem?_append_right (by simp; omega), List.getElem?_replicate, List.getElem?_replicate]
      simp only [List.length_take]
      split <;> split <;> first | rfl | omega
theorem info_owner : (Try.prog.info? 30).map (fun i => (i.zero, i.size, i.bytes)) = some (some (.agg #[.int .i64 0, .bool false, .slice none 0 0, .slice none 0 0]), 4, 64) := by kernel_rfl
/-- Owners that were just made. -/
theorem made_owners {w : World} {lo n : Nat} {v : Value} {xs : List Value} (ds : List On) (hn : n = ds.length) (h : w.ownsRow lo 30 4 v n xs) (hx : ∀ j, j < n → xs[j * 4]? = some (.int .i64 0) ∧ xs[j * 4 + 1]? = some (.bool false) ∧ xs[j * 4 + 2]? = some (.slice none 0 0) ∧ xs[j * 4 + 3]? = some (.slice none 0 0)) : OwO lo w.heap.size v n (cpO ds n 0) w := by
  have hg (j : Nat) : (cpO ds n 0).getD j default = default := by
    unfold cpO
    simp only [List.take_zero, List.nil_append, List.getD, List.getElem?_replicate]
    split <;> rfl
  have hr (i : Nat) : rowO (cpO ds n 0) i = [] := by
    unfold rowO
    rw [hg]
    split <;> rfl
  refine ⟨(cpO_len ds n 0 hn (by omega)).symm, xs, List.replicate (n * 2) (.slice none 0 0), OwR.start h, by simp, ?_, ⟨fun j hj => ⟨none, 0, 0, ?_, ?_, ?_⟩, fun i j v u k _ h1 h2 hv => ?_⟩⟩
  · intro j hj
    rw [cpO_len ds n 0 hn (by omega)] at hj
    obtain ⟨a, b, c, d⟩ := hx j hj
    rw [hg]
    refine ⟨a, b, c.trans ?_, d.trans ?_⟩
    · rw [List.getElem?_replicate, if_pos (by omega)]
    · rw [List.getElem?_replicate, if_pos (by omega)]
  · simp at hj; rw [List.getElem?_replicate, if_pos hj]
  · rw [lenOfO, hr]; rfl
  · rw [rowOfO, hr]; exact OwR.nil _ _ _ _ _
  · rw [List.getElem?_replicate] at h1
    split at h1
    · cases h1; simp [Value.ownBlock] at hv
    · cases h1
end Go.Proofs.Ytkfglodjnnlbkaa

namespace Go.Proofs.Ytkfglodjnnlbkaa
set_option linter.unusedSimpArgs false
set_option linter.unusedVariables false
open Go.RowKit
/-- The four cells of a box. -/
structure Bx4 (b : Nat) (x y z t : Value) (w : World) : Prop where
  lt : b < w.heap.size
  c0 : w.cell? ⟨b, 0, none⟩ = some x
  c1 : w.cell? ⟨b, 1, none⟩ = some y
  c2 : w.cell? ⟨b, 2, none⟩ = some z
  c3 : w.cell? ⟨b, 3, none⟩ = some t
  f : ∀ j, w.frozen? ⟨b, j, none⟩ = false
theorem Bx4.step {b : Nat} {x y z t : Value} {w w' : World} {C : Nat} (h : Bx4 b x y z t w) (hb : Below C w w') (hC : b < C) : Bx4 b x y z t w' :=
  ⟨Nat.lt_of_lt_of_le h.lt hb.size, (hb.cell (p := ⟨b, 0, none⟩) hC).trans h.c0, (hb.cell (p := ⟨b, 1, none⟩) hC).trans h.c1, (hb.cell (p := ⟨b, 2, none⟩) hC).trans h.c2, (hb.cell (p := ⟨b, 3, none⟩) hC).trans h.c3, fun j => (hb.frozen (p := ⟨b, j, none⟩) hC).trans (h.f j)⟩
theorem Bx4.other {b g j : Nat} {x y z t u : Value} {w : World} (h : Bx4 b x y z t w) (hg : b ≠ g) : Bx4 b x y z t (w.setCell ⟨g, j, none⟩ u) := by
  have k (i : Nat) : (w.setCell ⟨g, j, none⟩ u).cell? ⟨b, i, none⟩ = w.cell? ⟨b, i, none⟩ := World.cell?_setCell_other _ _ _ _ (by intro e; cases e; exact hg rfl)
  exact ⟨by simpa [World.setCell] using h.lt, (k 0).trans h.c0, (k 1).trans h.c1, (k 2).trans h.c2, (k 3).trans h.c3, fun i => (World.frozen?_setCell _ _ _ _).trans (h.f i)⟩
theorem Bx4.alloc {b : Nat} {x y z t : Value} {w : World} (h : Bx4 b x y z t w) (o : Obj) : Bx4 b x y z t (w.alloc o) := h.step ((Below.refl w.heap.size w).alloc (Nat.le_refl _) o) h.lt
theorem box4_start (w : World) (x y z t : Value) (ty : TypeId) : Bx4 w.heap.size x y z t (w.alloc (.cells #[x, y, z, t] ty)) :=
  ⟨by simp, by go_simp, by go_simp, by go_simp, by go_simp, fun j => by go_simp⟩
theorem made4 (x y z t : Value) (n j : Nat) (hj : j < n) : ((madeCells (.agg #[x, y, z, t] : Value).cells (n * 4)).toList)[j * 4]? = some x ∧ ((madeCells (.agg #[x, y, z, t] : Value).cells (n * 4)).toList)[j * 4 + 1]? = some y ∧ ((madeCells (.agg #[x, y, z, t] : Value).cells (n * 4)).toList)[j * 4 + 2]? = some z ∧ ((madeCells (.agg #[x, y, z, t] : Value).cells (n * 4)).toList)[j * 4 + 3]? = some t := by
  have k (i : Nat) (hi : i < 4) : ((madeCells (.agg #[x, y, z, t] : Value).cells (n * 4)).toList)[j * 4 + i]? = #[x, y, z, t][i]? := by
    have e : (.agg #[x, y, z, t] : Value).cells = #[x, y, z, t] := by simp [Value.cells]
    rw [e]
    have h1 : j * 4 + i < n * 4 := by omega
    have h2 : (j * 4 + i) % 4 = i := by omega
    simp only [madeCells, Array.toList_map, List.getElem?_map, Array.getElem?_toList, Array.getElem?_range]
    rw [if_pos h1]
    show some (#[x, y, z, t][(j * 4 + i) % 4]!) = _
    rw [h2]
    match i, hi with
    | 0, _ => rfl
    | 1, _ => rfl
    | 2, _ => rfl
    | 3, _ => rfl
  exact ⟨k 0 (by omega), k 1 (by omega), k 2 (by omega), k 3 (by omega)⟩
end Go.Proofs.Ytkfglodjnnlbkaa

namespace Go.Proofs.Ytkfglodjnnlbkaa
set_option linter.unusedSimpArgs false
set_option linter.unusedVariables false
open Go.RowKit
set_option maxRecDepth 100000 in
set_option maxHeartbeats 3200000 in
theorem impl_copyOwners (A : Option Addr) (n c : Nat) (ds : List On) (w : World) (B : Nat) (hB : B ≤ w.heap.size) (hn : n = ds.length) (h : OS w B A ds) (hs : OB ds) :
    Calls Try.prog 55 #[.slice A n c] w fun e w' => e = .returned (.slice (some ⟨w.heap.size, 0, none⟩) n n) ∧ OwO w.heap.size w'.heap.size (.slice (some ⟨w.heap.size, 0, none⟩) n n) n ds w' ∧ Below w.heap.size w w' := by
  have hn1 : n ≤ 1048576 := by rw [hn]; exact hs.1
  obtain ⟨i0, hi, hz0, hz1, hz2⟩ := info_parts info_owner
  obtain ⟨w0, hmk, hown0, hgr0⟩ := run_make_full (P := Try.prog) w w.heap.size 23 30 i0 _ 4 Try.underlying23 hi hz0 hz1 .i64 .i64 n (by rw [hz2]; omega) (by unfold maxLen; omega) (Nat.le_refl _)
  have hgl : w.heap.size < w0.heap.size := (hown0.lt _ rfl).2
  have hb0 : Below w.heap.size w w0 := ⟨hgr0.os, hgr0.tape, hgr0.output, hgr0.size, fun k hk => hgr0.block k hk (by simp)⟩
  have HO0 := Lib.hid (made_owners ds hn hown0 (fun j hj => made4 _ _ _ _ n j hj))
  have H := Lib.hid h
  have HN := Lib.hid hn
  have HS := Lib.hid hs
  have HB0 := Lib.hid hb0
  clear hn h hs hown0 hgr0 hb0
  go_enter Try.func55, Try.ntmps55
  go_wp2
  clear hmk
  go_loopw [11] (fun i wr => ∃ k : Nat, k ≤ n ∧ i = .int .i64 k ∧ Hid (OwO w.heap.size wr.heap.size (.slice (some ⟨w.heap.size, 0, none⟩) n n) n (cpO ds n k) wr) ∧ Hid (Below w.heap.size w wr) ∧ w.heap.size < wr.heap.size) (fun i _ => n - (intOf i).toNat)
  case atStart => exact ⟨0, Nat.zero_le _, rfl, HO0.out, HB0.out, hgl⟩
  case round =>
    obtain ⟨k, hk, rfl, HO, HB, hwr⟩ := hrel
    by_cases hlt : k < n
    · obtain ⟨b, off, rfl, hbB, c0, c1, ⟨A1, n1, d1, c2, hn1', hp1⟩, A2, n2, d2, c3, hn2', hp2⟩ := H.out.at_ k (by have := HN.out; omega)
      have hx := HS.out.2.2 k
      have b0 := (HB.out.cell (p := ⟨b, off + k * 4, none⟩) (by simp; omega)).trans c0
      have b1 := (HB.out.cell (p := ⟨b, off + k * 4 + 1, none⟩) (by simp; omega)).trans c1
      have b2 := (HB.out.cell (p := ⟨b, off + k * 4 + 2, none⟩) (by simp; omega)).trans c2
      have b3 := (HB.out.cell (p := ⟨b, off + k * 4 + 3, none⟩) (by simp; omega)).trans c3
      have HP1 := Lib.hid (hp1.below HB.out hB)
      have HP2 := Lib.hid (hp2.below HB.out hB)
      have HSU := Lib.hid (cpO_succ ds n k HN.out hlt)
      generalize ds.getD k default = d at *
      obtain ⟨p, o, cl, cx⟩ := d
      dsimp only at *
      have HC1 := Lib.hid fun (w' : World) (hB : B ≤ w'.heap.size) (h : IS w' B A1 cl) => impl_copyOf A1 n1 d1 cl w' B hB hn1' h (by omega)
      have HC2 := Lib.hid fun (w' : World) (hB : B ≤ w'.heap.size) (h : IS w' B A2 cx) => impl_copyOf A2 n2 d2 cx w' B hB hn2' h (by omega)
      have HN1 := Lib.hid hn1'
      have HN2 := Lib.hid hn2'
      have hBw : B ≤ wr.heap.size := by omega
      have X1 := Lib.hid (box4_start wr (.int .i64 p) (.bool o) (.slice A1 n1 d1) (.slice A2 n2 d2) 30)
      have HBX : Hid (Below wr.heap.size wr (wr.alloc (.cells #[.int .i64 p, .bool o, .slice A1 n1 d1, .slice A2 n2 d2] 30))) := (Below.refl _ _).alloc (Nat.le_refl _) _
      have hkt : k ≤ 1048576 := by omega
      clear c0 c1 c2 c3 hn1' hn2' hp1 hp2 hx H
      go_upto_region 5 with fail
      generalize hW1 : wr.alloc (.cells #[.int .i64 p, .bool o, .slice A1 n1 d1, .slice A2 n2 d2] 30) = W1 at *
      have hs1 : wr.heap.size < W1.heap.size := X1.out.lt
      clear hW1 b0 b1 b2 b3
      have s0 := X1.out.c0
      have s1 := X1.out.c1
      have s2 := X1.out.c2
      have s3 := X1.out.c3
      have hBW1 : B ≤ W1.drew.heap.size := by show B ≤ W1.heap.size; omega
      have HI1 : Hid (IS W1.drew B A1 cl) := HP1.out.below HBX.out.drew hBw
      have HI2 : Hid (IS W1.drew B A2 cx) := HP2.out.below HBX.out.drew hBw
      clear HP1 HP2
      refine wp_region_held_drew (S := fun w' => w'.cell? ⟨wr.heap.size, 0, none⟩ = some (.int .i64 p) ∧ w'.cell? ⟨wr.heap.size, 1, none⟩ = some (.bool o) ∧ w'.cell? ⟨wr.heap.size, 2, none⟩ = some (.slice A1 n1 d1) ∧ w'.cell? ⟨wr.heap.size, 3, none⟩ = some (.slice A2 n2 d2)) (by kernel_rfl) ⟨s0, s1, s2, s3⟩ (fun hHeld => ?_)
      refine wpAnyH_take (i := 0) (oi := ⟨some 16, _, _, _, _, _⟩) (v := ?_) rfl (by kernel_rfl) (by kernel_rfl) (by kernel_rfl) (fun _ _ _ h => h) (Or.inl ⟨by rfl, ?_⟩) (by assumption) ?_; rotate_left; (focus (intro w hSw; (try dsimp only at hSw); go_simp; (try with_reducible rfl))); (try simp only [Act.put, List.setIfInBounds_toArray, List.set_cons_zero, List.set_cons_succ])
      refine wpAnyH_take (i := 1) (oi := ⟨some 17, _, _, _, _, _⟩) (v := ?_) rfl (by kernel_rfl) (by kernel_rfl) (by kernel_rfl) (fun _ _ _ h => h) (Or.inl ⟨by rfl, ?_⟩) (by assumption) ?_; rotate_left; (focus (intro w hSw; (try dsimp only at hSw); go_simp; (try with_reducible rfl))); (try simp only [Act.put, List.setIfInBounds_toArray, List.set_cons_zero, List.set_cons_succ])
      refine wpAnyH_take (i := 2) (oi := ⟨some 18, _, _, _, _, _⟩) (v := ?_) rfl (by kernel_rfl) (by kernel_rfl) (by kernel_rfl) (fun _ _ _ h => h) (Or.inl ⟨by rfl, ?_⟩) (by assumption) ?_; rotate_left; (focus (intro w hSw; (try dsimp only at hSw); go_simp; (try with_reducible rfl))); (try simp only [Act.put, List.setIfInBounds_toArray, List.set_cons_zero, List.set_cons_succ])
      refine wpAnyH_take (i := 3) (oi := ⟨some 19, _, _, _, _, _⟩) (v := ?_) rfl (by kernel_rfl) (by kernel_rfl) (by kernel_rfl) (fun _ _ _ h => h) (Or.inl ⟨by rfl, ?_⟩) (by assumption) ?_; rotate_left; (focus (intro w hSw; (try dsimp only at hSw); go_simp; (try with_reducible rfl))); (try simp only [Act.put, List.setIfInBounds_toArray, List.set_cons_zero, List.set_cons_succ])
      refine wpAnyH_take (i := 4) (oi := ⟨some 20, _, _, _, _, _⟩) (v := ?_) rfl (by kernel_rfl) (by kernel_rfl) (by kernel_rfl) (fun _ _ _ h => h) (Or.inl ⟨by rfl, ?_⟩) (by assumption) ?_; rotate_left; (focus (intro w hSw; (try dsimp only at hSw); go_simp; (try with_reducible rfl))); (try simp only [Act.put, List.setIfInBounds_toArray, List.set_cons_zero, List.set_cons_succ])
      refine wpAnyH_take (i := 5) (oi := ⟨some 21, _, _, _, _, _⟩) (v := ?_) rfl (by kernel_rfl) (by kernel_rfl) (by kernel_rfl) (fun _ _ _ h => h) (Or.inl ⟨by rfl, ?_⟩) (by assumption) ?_; rotate_left; (focus (intro w hSw; (try dsimp only at hSw); go_simp; (try with_reducible rfl))); (try simp only [Act.put, List.setIfInBounds_toArray, List.set_cons_zero, List.set_cons_succ])
      refine wpAnyH_take (i := 6) (oi := ⟨some 22, _, _, _, _, _⟩) (v := ?_) rfl (by kernel_rfl) (by kernel_rfl) (by kernel_rfl) (fun _ _ _ h => h) (Or.inl ⟨by rfl, ?_⟩) (by assumption) ?_; rotate_left; (focus (intro w hSw; (try dsimp only at hSw); go_simp; (try with_reducible rfl))); (try simp only [Act.put, List.setIfInBounds_toArray, List.set_cons_zero, List.set_cons_succ])
      refine wpAnyH_take (i := 7) (oi := ⟨some 23, _, _, _, _, _⟩) (v := ?_) rfl (by kernel_rfl) (by kernel_rfl) (by kernel_rfl) (fun _ _ _ h => h) (Or.inl ⟨by rfl, ?_⟩) (by assumption) ?_; rotate_left; (focus (intro w hSw; (try dsimp only at hSw); go_simp; (try with_reducible rfl))); (try simp only [Act.put, List.setIfInBounds_toArray, List.set_cons_zero, List.set_cons_succ])
      refine wpAnyH_take (i := 9) (oi := ⟨some 25, _, _, _, _, _⟩) (v := ?_) rfl (by kernel_rfl) (by kernel_rfl) (by kernel_rfl) (fun _ _ _ h => h) (Or.inl ⟨by rfl, ?_⟩) (by assumption) ?_; rotate_left; (focus (intro w hSw; (try dsimp only at hSw); go_simp; (try with_reducible rfl))); (try simp only [Act.put, List.setIfInBounds_toArray, List.set_cons_zero, List.set_cons_succ])
      refine wpAnyH_take (i := 10) (oi := ⟨some 26, _, _, _, _, _⟩) (v := ?_) rfl (by kernel_rfl) (by kernel_rfl) (by kernel_rfl) (fun _ _ _ h => h) (Or.inl ⟨by rfl, ?_⟩) (by assumption) ?_; rotate_left; (focus (intro w hSw; (try dsimp only at hSw); go_simp; (try with_reducible rfl))); (try simp only [Act.put, List.setIfInBounds_toArray, List.set_cons_zero, List.set_cons_succ])
      refine wpAnyH_ready (rs := [8]) (by kernel_rfl) (by simp) ?_; refine AllReadyH.cons (o := ⟨some 24, _, _, _, _, _⟩) rfl (fun K hK => ?_) AllReadyH.nil
      · go_simp
        go_at_call 72
        refine (HC1.out W1.drew hBW1 HI1.out).mono ?_
        rintro e w2 ⟨rfl, ho1, hb1'⟩
        have hb1 : Below W1.heap.size W1 w2 := below_of_drew hb1'
        have ho1' : w2.ownsRow W1.heap.size 3 1 (.slice (some ⟨W1.heap.size, 0, none⟩) n1 n1) n1 (cl.map (Value.int .i64)) := ho1
        have hs2 := hb1.size
        have hg1 : W1.heap.size < w2.heap.size := (ho1'.lt _ rfl).2
        have X2 := Lib.hid (X1.out.step hb1 hs1)
        have HR1 := Lib.hid ho1'
        have HI := Lib.hid (IS.below (w := W1) HI2.out hb1 (by show B ≤ W1.heap.size; omega))
        have HB2 := Lib.hid (HBX.out.trans (hb1.mono (by omega)))
        have hBW2 : B ≤ w2.heap.size := by omega
        have s0 := X2.out.c0
        have s1 := X2.out.c1
        have s2 := X2.out.c2
        have s3 := X2.out.c3
        clear ho1 ho1' hb1 hb1' X1 HI1 HI2 HBX
        refine hK.out _ _ ⟨s0, s1, s2, s3⟩ (fun hHeld => ?_); clear hK K; (try simp only [Act.put, List.setIfInBounds_toArray, List.set_cons_zero, List.set_cons_succ])
        refine wpAnyH_ready (rs := [11]) (by kernel_rfl) (by simp) ?_; refine AllReadyH.cons (o := ⟨some 27, _, _, _, _, _⟩) rfl (fun K hK => ?_) AllReadyH.nil; go_simp
        go_at_call 72
        refine (HC2.out w2 hBW2 HI.out).mono ?_
        rintro e w4 ⟨rfl, ho2, hb2⟩
        have hs4 := hb2.size
        have hg2 : w2.heap.size < w4.heap.size := (ho2.lt _ rfl).2
        have X4 := Lib.hid (X2.out.step hb2 (by omega))
        have HR2 := Lib.hid (own_below HR1.out hb2)
        have HR3 := Lib.hid ho2
        have HB4 := Lib.hid (HB2.out.trans (hb2.mono (by omega)))
        have s0 := X4.out.c0
        have s1 := X4.out.c1
        have s2 := X4.out.c2
        have s3 := X4.out.c3
        have HW1 := Lib.hid (HO.out.step HB4.out (Nat.le_refl _))
        obtain ⟨-, xs, us, hr, -⟩ := HW1.out
        have hxl : xs.length = n * 4 := hr.1.1
        have u0 := hr.1.cellAt (k * 4) (by omega)
        have u1 := hr.1.cellAt (k * 4 + 1) (by omega)
        have u2 := hr.1.cellAt (k * 4 + 2) (by omega)
        have u3 := hr.1.cellAt (k * 4 + 3) (by omega)
        rw [List.getElem?_eq_getElem (by omega)] at u0 u1 u2 u3
        have f0 := hr.1.frozenAt (k * 4)
        have f1 := hr.1.frozenAt (k * 4 + 1)
        have f2 := hr.1.frozenAt (k * 4 + 2)
        have f3 := hr.1.frozenAt (k * 4 + 3)
        generalize xs[k * 4]'(by omega) = v0 at u0
        generalize xs[k * 4 + 1]'(by omega) = v1 at u1
        generalize xs[k * 4 + 2]'(by omega) = v2 at u2
        generalize xs[k * 4 + 3]'(by omega) = v3 at u3
        have HNEW := Lib.hid (HW1.out.put (d := ⟨p, o, cl, cx⟩) (mid := w2.heap.size) (top := w4.heap.size) hlt HN1.out HN2.out ⟨own_mono HR2.out (by omega), fun q hq => by cases hq; exact hg1⟩ ⟨HR3.out, fun q hq => by cases hq; exact hg2⟩ (by omega) (by omega) (by omega))
        have HB5 := Lib.hid (put4_below (HB.out.trans (HB4.out.mono HB.out.size)) (Nat.le_refl w.heap.size) (k * 4) (.int .i64 p) (.bool o) (.slice (some ⟨W1.heap.size, 0, none⟩) n1 n1) (.slice (some ⟨w2.heap.size, 0, none⟩) n2 n2))
        have X5 : Hid (Bx4 wr.heap.size (.int .i64 p) (.bool o) (.slice A1 n1 d1) (.slice A2 n2 d2) (put4 w4 w.heap.size (k * 4) (.int .i64 p) (.bool o) (.slice (some ⟨W1.heap.size, 0, none⟩) n1 n1) (.slice (some ⟨w2.heap.size, 0, none⟩) n2 n2))) := (((X4.out.other (by omega)).other (by omega)).other (by omega)).other (by omega)
        clear hr hxl ho2 hb2 X2 HR1 HR2 HR3 HI HW1 HB2 HC1 HC2
        refine hK.out _ _ ⟨s0, s1, s2, s3⟩ (fun hHeld => ?_); clear hK K; (try simp only [Act.put, List.setIfInBounds_toArray, List.set_cons_zero, List.set_cons_succ])
        refine wpAnyH_take (i := 12) (oi := ⟨some 28, _, _, _, _, _⟩) (v := ?_) rfl (by kernel_rfl) (by kernel_rfl) (by kernel_rfl) (fun _ _ _ h => h) (Or.inl ⟨by rfl, ?_⟩) (by assumption) ?_; rotate_left; (focus (intro w hSw; (try dsimp only at hSw); go_simp; (try with_reducible rfl))); (try simp only [Act.put, List.setIfInBounds_toArray, List.set_cons_zero, List.set_cons_succ])
        refine wpAnyH_take (i := 13) (oi := ⟨some 29, _, _, _, _, _⟩) (v := ?_) rfl (by kernel_rfl) (by kernel_rfl) (by kernel_rfl) (fun _ _ _ h => h) (Or.inl ⟨by rfl, ?_⟩) (by assumption) ?_; rotate_left; (focus (intro w hSw; (try dsimp only at hSw); go_simp; (try with_reducible rfl))); (try simp only [Act.put, List.setIfInBounds_toArray, List.set_cons_zero, List.set_cons_succ])
        refine wpAnyH_ready (rs := [14]) (by kernel_rfl) (by simp) ?_; refine AllReadyH.cons (o := ⟨none, _, _, _, _, _⟩) rfl (fun K hK => ?_) AllReadyH.nil; go_simp
        obtain ⟨W5, hW5⟩ : ∃ W : World, W = put4 w4 w.heap.size (k * 4) (.int .i64 p) (.bool o) (.slice (some ⟨W1.heap.size, 0, none⟩) n1 n1) (.slice (some ⟨w2.heap.size, 0, none⟩) n2 n2) := ⟨_, rfl⟩
        have hsz : W5.heap.size = w4.heap.size := by rw [hW5, put4_size]
        have HNEW2 : Hid (OwO w.heap.size W5.heap.size (.slice (some ⟨w.heap.size, 0, none⟩) n n) n (cpO ds n (k + 1)) W5) := by
          have h1 := HNEW.out; rw [HSU.out, ← hW5] at h1; rw [hsz]; exact h1
        have HB6 : Hid (Below w.heap.size w W5) := by rw [hW5]; exact HB5.out
        have hw5 : w.heap.size < W5.heap.size := by omega
        rw [← hW5] at X5
        have s0 := X5.out.c0
        have s1 := X5.out.c1
        have s2 := X5.out.c2
        have s3 := X5.out.c3
        unfold put4 at hW5
        rw [← hW5]
        clear hW5 hsz HNEW HB5 u0 u1 u2 u3 f0 f1 f2 f3 HB4 X4
        refine hK.out _ _ ⟨s0, s1, s2, s3⟩ (fun hHeld => ?_); clear hK K; (try simp only [Act.put, List.setIfInBounds_toArray, List.set_cons_zero, List.set_cons_succ])
        refine wpAnyH_done (by kernel_rfl) ?_ _
        go_wp2
        go_roundw
        case rel => exact ⟨k + 1, by omega, by go_num, HNEW2.out, HB6.out, hw5⟩
        case measure => simp [intOf]; omega
    · go_wp2
      go_ret
      have hkn : k = n := by omega
      subst hkn
      have h1 := HO.out
      rw [cpO_all ds k HN.out] at h1
      exact ⟨by simp, h1, HB.out⟩
end Go.Proofs.Ytkfglodjnnlbkaa

namespace Go.Proofs.Ytkfglodjnnlbkaa
set_option linter.unusedSimpArgs false
set_option linter.unusedVariables false
open Go.RowKit
theorem shut_len (ds : List On) (b : Nat) : (shut ds b).length = ds.length := by unfold shut; simp
theorem shut_get (ds : List On) (b i : Nat) : (shut ds b).getD i default = if i = b ∧ b < ds.length then ⟨(ds.getD b default).p, false, (ds.getD b default).cl, (ds.getD b default).cx⟩ else ds.getD i default := by
  unfold shut
  by_cases hb : b < ds.length
  · rw [getD_set ds b i _ hb]
    by_cases h : i = b
    · rw [if_pos h, if_pos ⟨h, hb⟩]
    · rw [if_neg h, if_neg (fun e => h e.1)]
  · rw [if_neg (fun e => hb e.2), List.set_eq_of_length_le (by omega)]
/-- What clearing keeps: how many there are, parents and contexts; and none has more to clean up. -/
structure SameP (ds es : List On) : Prop where
  len : es.length = ds.length
  par : ∀ i, (es.getD i default).p = (ds.getD i default).p
  cxs : ∀ i, (es.getD i default).cx = (ds.getD i default).cx
  cls : ∀ i, (es.getD i default).cl.length ≤ (ds.getD i default).cl.length
theorem SameP.refl (ds : List On) : SameP ds ds := ⟨rfl, fun _ => rfl, fun _ => rfl, fun _ => Nat.le_refl _⟩
theorem SameP.trans {a b c : List On} (h : SameP a b) (k : SameP b c) : SameP a c :=
  ⟨k.len.trans h.len, fun i => (k.par i).trans (h.par i), fun i => (k.cxs i).trans (h.cxs i), fun i => Nat.le_trans (k.cls i) (h.cls i)⟩
theorem SameP.shut (ds : List On) (b : Nat) : SameP ds (shut ds b) := by
  refine ⟨shut_len _ _, fun i => ?_, fun i => ?_, fun i => ?_⟩ <;> rw [shut_get] <;> by_cases h : i = b ∧ b < ds.length
  all_goals first | (rw [if_neg h]; done) | (rw [if_neg h]; exact Nat.le_refl _) | (obtain ⟨rfl, _⟩ := h; rw [if_pos ⟨rfl, by assumption⟩]; done) | (obtain ⟨rfl, h2⟩ := h; rw [if_pos ⟨rfl, h2⟩]; exact Nat.le_refl _)
end Go.Proofs.Ytkfglodjnnlbkaa

namespace Go.Proofs.Ytkfglodjnnlbkaa
set_option linter.unusedSimpArgs false
set_option linter.unusedVariables false
open Go.RowKit
theorem rowsO_same (ds : List On) (k : Nat) (d : On) (hk : k < ds.length) (h1 : d.cl = (ds.getD k default).cl) (h2 : d.cx = (ds.getD k default).cx) : rowsO (ds.set k d) = rowsO ds := by
  apply List.ext_getElem?
  intro i
  have hl : (rowsO (ds.set k d)).length = (rowsO ds).length := by rw [rowsO_len, rowsO_len, List.length_set]
  by_cases hi : i < (rowsO ds).length
  · have e : ∀ (l : List (List Int)) (i : Nat), i < l.length → l[i]? = some (l.getD i []) := fun l i h => by simp [List.getD, h]
    rw [e _ i (by omega), e _ i hi, rowsO_getD, rowsO_getD]
    unfold rowO
    rw [getD_set ds k _ d hk]
    by_cases hx : i / 2 = k
    · rw [if_pos hx, hx, h1, h2]
    · rw [if_neg hx]
  · rw [List.getElem?_eq_none (by omega), List.getElem?_eq_none (by omega)]
/-- The parent of an owner, or whether it is open, was written. -/
theorem OwO.setHead {lo hi n cap g k e : Nat} {ds : List On} {w : World} {d : On} {x : Value} (h : OwO lo hi (.slice (some ⟨g, 0, none⟩) n cap) n ds w) (hk : k < n) (he : e < 2) (h1 : d.cl = (ds.getD k default).cl) (h2 : d.cx = (ds.getD k default).cx)
    (hx : (e = 0 ∧ x = .int .i64 d.p ∧ d.o = (ds.getD k default).o) ∨ (e = 1 ∧ x = .bool d.o ∧ d.p = (ds.getD k default).p)) :
    OwO lo hi (.slice (some ⟨g, 0, none⟩) n cap) n (ds.set k d) (w.setCell ⟨g, k * 4 + e, none⟩ x) := by
  obtain ⟨hn, xs, us, hr, hu, hf, hs⟩ := h
  have hxl : xs.length = n * 4 := hr.1.1
  have hst := hr.1.stored (k * 4 + e) x
  have hkl : k < ds.length := by omega
  refine ⟨by rw [List.length_set]; exact hn, _, us, ⟨hst.1, hr.2⟩, hu, fun j hj => ?_, by rw [rowsO_same ds k d hkl h1 h2]; exact hs.grown hst.2 (hs.ne hr.1 owner_ne_int.symm)⟩
  rw [List.length_set] at hj
  obtain ⟨f0, f1, f2, f3⟩ := hf j hj
  rw [getD_set ds k j d hkl]
  refine ⟨?_, ?_, ?_, ?_⟩
  · rw [List.getElem?_set]
    by_cases ej : j = k
    · subst ej
      rw [if_pos rfl]
      rcases hx with ⟨rfl, rfl, hd⟩ | ⟨rfl, rfl, hd⟩
      · rw [if_pos (show j * 4 + 0 = j * 4 by omega), if_pos (by omega)]
      · rw [if_neg (by omega), hd]; exact f0
    · rw [if_neg (by omega), if_neg ej]; exact f0
  · rw [List.getElem?_set]
    by_cases ej : j = k
    · subst ej
      rw [if_pos rfl]
      rcases hx with ⟨rfl, rfl, hd⟩ | ⟨rfl, rfl, hd⟩
      · rw [if_neg (by omega), hd]; exact f1
      · rw [if_pos rfl, if_pos (by omega)]
    · rw [if_neg (by omega), if_neg ej]; exact f1
  · rw [List.getElem?_set, if_neg (by omega)]; exact f2
  · rw [List.getElem?_set, if_neg (by omega)]; exact f3
end Go.Proofs.Ytkfglodjnnlbkaa
