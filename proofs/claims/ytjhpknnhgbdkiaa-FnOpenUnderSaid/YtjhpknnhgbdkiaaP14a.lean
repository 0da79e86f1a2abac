/- Words and contracts for memory that the texts behind use. -/
import Derived.Test.YtjhpknnhgbdkiaaP0a
import Derived.Test.YtjhpknnhgbdkiaaP1a
import Derived.Test.YtjhpknnhgbdkiaaP2a
import Derived.Test.YtjhpknnhgbdkiaaP3a
import Derived.Test.YtjhpknnhgbdkiaaP4a
import Derived.Test.YtjhpknnhgbdkiaaP5a
import Derived.Test.YtjhpknnhgbdkiaaP6a
import Derived.Test.YtjhpknnhgbdkiaaP7a
import Derived.Test.YtjhpknnhgbdkiaaP8a
import Derived.Test.YtjhpknnhgbdkiaaP9a
import Derived.Test.YtjhpknnhgbdkiaaP10a
import Derived.Test.YtjhpknnhgbdkiaaP11a
import Derived.Test.YtjhpknnhgbdkiaaP12b
import Derived.Test.YtjhpknnhgbdkiaaP12c
import Derived.Test.YtjhpknnhgbdkiaaP13b
import Derived.WalkKit
import Derived.Laws.OwnMore
import Derived.Deep.Draws
import Derived.Test.YtjhpknnhgbdkiaaProg
import Derived.WalkSpells
import Derived.WalkLawsBesides
import Derived.Outline
import Derived.Lib.Hide
import Derived.BigQuiet
import Derived.Deep.QuietTactic
import Derived.StillTailTactics
import Derived.Deep.LoopGhost
import Derived.Laws.MakeOwn
import Derived.WalkSmall
import Derived.RegionTactic
import Derived.BigRegion
import Derived.Deep.RegionWith
import Derived.Deep.RegionHeld3
import Derived.Maps.AppendAt
import Derived.Laws.CopyOwn
import Derived.Deep.Cut
import Derived.Laws.Entries
import Derived.Laws.Bits64
import Derived.IntWalk
import Derived.Deep.RegionLaw
import Derived.Deep.AppendLies
import Derived.Deep.DeepCutAuto
import Derived.ArgAppend

namespace Go.Proofs.Ytjhpknnhgbdkiaa
set_option linter.unusedSimpArgs false
set_option linter.unusedVariables false
open Go.RowKit
set_option maxRecDepth 100000 in
set_option maxHeartbeats 800000 in
theorem bits_Mul64 (w : World) : Calls Try.prog 66 #[.int .u64 1, .int .u64 3] w fun e w' => e = .returned (.tuple #[.int .u64 0, .int .u64 3]) ∧ w = w' := by
  go_enter Try.func66, Try.ntmps66
  go_wp2
  go_ret2
  exact ⟨rfl, rfl⟩
set_option maxRecDepth 100000 in
set_option maxHeartbeats 800000 in
theorem bits_Mul (w : World) : Calls Try.prog 58 #[.int .u64 1, .int .u64 3] w fun e w' => e = .returned (.tuple #[.int .u64 0, .int .u64 3]) ∧ w = w' := by
  go_enter Try.func58, Try.ntmps58
  go_wp2_with (go_at_call 66; refine (bits_Mul64 _).mono ?_; rintro e w' ⟨rfl, rfl⟩)
  go_ret2
  exact ⟨rfl, rfl⟩
def repC (cur : List Value) (k : Nat) : List Value := List.replicate k (.int .i64 (-1)) ++ cur.drop k
set_option maxRecDepth 100000 in
set_option maxHeartbeats 1600000 in
theorem slices_Repeat (b : Nat) (w : World) (hb : b < w.heap.size) (hc : w.cell? ⟨b, 0, none⟩ = some (.int .i64 (-1))) :
    Calls Try.prog 49 #[.slice (some ⟨b, 0, none⟩) 1 1, .int .i64 3] w fun e w' => e = .returned (.slice (some ⟨w.heap.size, 0, none⟩) 3 3) ∧ w'.ownsRow w.heap.size 3 1 (.slice (some ⟨w.heap.size, 0, none⟩) 3 3) 3 (noCtx.map (Value.int .i64)) ∧ Below w.heap.size w w' := by
  obtain ⟨i0, hi, hz0, hz1, hz2⟩ := info_parts info_int
  obtain ⟨w0, hmk, hown0, hgr0⟩ := run_make_full (P := Try.prog) w w.heap.size 26 3 i0 _ 1 Try.underlying26 hi hz0 hz1 .i64 .i64 3 (by rw [hz2]; omega) (by unfold maxLen; omega) (Nat.le_refl _)
  obtain ⟨cur, hcur, hcl, _⟩ := own_heap hown0
  have hb0 : Below w.heap.size w w0 := ⟨hgr0.os, hgr0.tape, hgr0.output, hgr0.size, fun k hk => hgr0.block k hk (by simp)⟩
  have hsz : (Try.prog.info? 3).map (·.size) = some 1 := by kernel_rfl
  have c0 := (hb0.cell (p := ⟨b, 0, none⟩) hb).trans hc
  have hm3 : (((3 : Nat) : Int)) = 3 := rfl
  rw [hm3] at hmk
  have hsrc : 0 < [Value.int .i64 (-1)].length → some (⟨w.heap.size, 0, none⟩ : Addr) = some ⟨w.heap.size, 0, none⟩ ∧ ∃ ad, some (⟨b, 0, none⟩ : Addr) = some ad ∧ ∀ j v, [Value.int .i64 (-1)][j]? = some v → w0.cell? (ad.add j) = some v := by
    intro _
    refine ⟨rfl, _, rfl, fun j v hv => ?_⟩
    match j, hv with
    | 0, hv => cases hv; simpa [Addr.add] using c0
  have h1 : ∀ v ∈ [Value.int .i64 (-1)], v.oneCell' = true := by intro v hv; simp at hv; subst hv; rfl
  have HCUR := Lib.hid hcur
  have HCL := Lib.hid hcl
  have HSRC := Lib.hid hsrc
  have HONE := Lib.hid h1
  have HB0 := Lib.hid hb0
  have HSZ := Lib.hid hsz
  clear hcur hcl hsrc h1 hb0 hsz hown0 hgr0 hm3
  go_enter Try.func49, Try.ntmps49
  go_wp2_with (first
    | (go_at_call 58; refine (bits_Mul _).mono ?_; rintro e w' ⟨rfl, rfl⟩)
    | (with_reducible refine wpList_copy_splice rfl (.tmp 31) (.tmp 32) 26 26 rfl 3 Try.underlying26 HSZ.out _ _ _ _ _ _ rfl rfl w.heap.size 0 cur 3 HCUR.out [.int .i64 (-1)] ?c1 (fun h => ⟨rfl, (HSRC.out h).2⟩) ?c2 HONE.out w.heap.size w HB0.out (Nat.le_refl _) ?_))
  case c1 => rfl
  case c2 => have := HCL.out; simp; omega
  intro w2 HG2 hB2
  have HG3 : Hid (w2.heap[w.heap.size]? = some (.cells (repC cur 1).toArray 3 (0, 0))) := by
    have := HG2.out
    unfold splice at this
    simpa [repC, Hid] using this
  have HB2 := Lib.hid hB2
  clear HG2 hB2 hmk c0 HCUR HSRC HB0
  go_wp2
  go_loopw [8] (fun u wr => ∃ k : Nat, 1 ≤ k ∧ k ≤ 3 ∧ u = .int .i64 k ∧ Hid (wr.heap[w.heap.size]? = some (.cells (repC cur k).toArray 3 (0, 0))) ∧ Hid (Below w.heap.size w wr)) (fun u _ => 3 - (intOf u).toNat)
  case atStart => exact ⟨1, Nat.le_refl _, by omega, rfl, HG3.out, HB2.out⟩
  case round =>
    obtain ⟨k, hk1, hk3, rfl, HG, HB⟩ := hrel
    by_cases hlt : k < 3
    · rcases (show k = 1 ∨ k = 2 by omega) with rfl | rfl
      · have hmin : [Value.int .i64 (-1)].length = Nat.min 1 (3 - 1) := by
          rfl
        have hcell : wr.cell? ⟨w.heap.size, 0, none⟩ = some (.int .i64 (-1)) := by
          have h0 : (repC cur 1)[0]? = some (.int .i64 (-1)) := rfl
          simp only [World.cell?, HG.out]
          simpa using h0
        have hsrc : 0 < [Value.int .i64 (-1)].length → some (⟨w.heap.size, 1, none⟩ : Addr) = some ⟨w.heap.size, 1, none⟩ ∧ ∃ ad, some (⟨w.heap.size, 0, none⟩ : Addr) = some ad ∧ ∀ j v, [Value.int .i64 (-1)][j]? = some v → wr.drew.cell? (ad.add j) = some v := by
          intro _
          refine ⟨rfl, _, rfl, fun j v hv => ?_⟩
          match j, hv with
          | 0, hv => cases hv; simpa [Addr.add] using hcell
        have hfit : 1 + [Value.int .i64 (-1)].length ≤ (repC cur 1).length := by unfold repC; have := HCL.out; simp; omega
        have hspl : splice (repC cur 1) 1 [Value.int .i64 (-1)] = repC cur 2 := by
          unfold splice repC
          have e1 : (List.replicate 1 (Value.int IntKind.i64 (-1)) ++ cur.drop 1).take 1 = List.replicate 1 (.int .i64 (-1)) := by simp
          have e2 : (List.replicate 1 (Value.int IntKind.i64 (-1)) ++ cur.drop 1).drop 2 = cur.drop 2 := by
            rw [List.drop_append]; simp [List.drop_drop]
          simp only [List.length_singleton]
          rw [e1, e2]
          simp [List.replicate_succ]
        have HSR := Lib.hid hsrc
        have HFIT := Lib.hid hfit
        have HSPL := Lib.hid hspl
        have HMIN := Lib.hid hmin
        clear hsrc hfit hspl hmin hcell
        go_upto_region 9 with fail
        refine wp_region_held_drew (S := fun _ => True) (by kernel_rfl) trivial (fun hHeld => ?_)
        refine wpAnyH_take (i := 0) (oi := ⟨some 38, _, _, _, _, _⟩) (v := ?_) rfl (by kernel_rfl) (by kernel_rfl) (by kernel_rfl) (fun _ _ _ h => h) (Or.inl ⟨by rfl, ?_⟩) (by assumption) ?_; rotate_left; (focus (intro w hSw; (try dsimp only at hSw); go_simp; (try with_reducible rfl))); (try simp only [Act.put, List.setIfInBounds_toArray, List.set_cons_zero, List.set_cons_succ])
        refine wpAnyH_take (i := 1) (oi := ⟨some 39, _, _, _, _, _⟩) (v := ?_) rfl (by kernel_rfl) (by kernel_rfl) (by kernel_rfl) (fun _ _ _ h => h) (Or.inl ⟨by rfl, ?_⟩) (by assumption) ?_; rotate_left; (focus (intro w hSw; (try dsimp only at hSw); go_simp; (try with_reducible rfl))); (try simp only [Act.put, List.setIfInBounds_toArray, List.set_cons_zero, List.set_cons_succ])
        refine wpAnyH_take (i := 2) (oi := ⟨some 40, _, _, _, _, _⟩) (v := ?_) rfl (by kernel_rfl) (by kernel_rfl) (by kernel_rfl) (fun _ _ _ h => h) (Or.inl ⟨by rfl, ?_⟩) (by assumption) ?_; rotate_left; (focus (intro w hSw; (try dsimp only at hSw); go_simp; (try with_reducible rfl))); (try simp only [Act.put, List.setIfInBounds_toArray, List.set_cons_zero, List.set_cons_succ])
        refine wpAnyH_take (i := 3) (oi := ⟨some 41, _, _, _, _, _⟩) (v := ?_) rfl (by kernel_rfl) (by kernel_rfl) (by kernel_rfl) (fun _ _ _ h => h) (Or.inl ⟨by rfl, ?_⟩) (by assumption) ?_; rotate_left; (focus (intro w hSw; (try dsimp only at hSw); go_simp; (try with_reducible rfl))); (try simp only [Act.put, List.setIfInBounds_toArray, List.set_cons_zero, List.set_cons_succ])
        refine wpAnyH_take (i := 4) (oi := ⟨some 42, _, _, _, _, _⟩) (v := ?_) rfl (by kernel_rfl) (by kernel_rfl) (by kernel_rfl) (fun _ _ _ h => h) (Or.inl ⟨by rfl, ?_⟩) (by assumption) ?_; rotate_left; (focus (intro w hSw; (try dsimp only at hSw); go_simp; (try with_reducible rfl))); (try simp only [Act.put, List.setIfInBounds_toArray, List.set_cons_zero, List.set_cons_succ])
        refine wpAnyH_take (i := 5) (oi := ⟨some 43, _, _, _, _, _⟩) (v := ?_) rfl (by kernel_rfl) (by kernel_rfl) (by kernel_rfl) (fun _ _ _ h => h) (Or.inl ⟨by rfl, ?_⟩) (by assumption) ?_; rotate_left; (focus (intro w hSw; (try dsimp only at hSw); go_simp; (try with_reducible rfl))); (try simp only [Act.put, List.setIfInBounds_toArray, List.set_cons_zero, List.set_cons_succ])
        refine wpAnyH_take (i := 6) (oi := ⟨some 44, _, _, _, _, _⟩) (v := ?_) rfl (by kernel_rfl) (by kernel_rfl) (by kernel_rfl) (fun _ _ _ h => h) (Or.inl ⟨by rfl, ?_⟩) (by assumption) ?_; rotate_left; (focus (intro w hSw; (try dsimp only at hSw); go_simp; (try with_reducible rfl))); (try simp only [Act.put, List.setIfInBounds_toArray, List.set_cons_zero, List.set_cons_succ])
        refine wpAnyH_ready (rs := [7]) (by kernel_rfl) (by simp) ?_; refine AllReadyH.cons (o := ⟨some 45, _, _, _, _, _⟩) rfl (fun K hK => ?_) AllReadyH.nil
        refine step_copy_splice rfl (.tmp 41) (.tmp 44) 26 26 rfl 3 Try.underlying26 HSZ.out _ _ _ _ _ _ (by rfl) (by rfl) w.heap.size 1 (repC cur 1) 3 HG.out [.int .i64 (-1)] HMIN.out (fun h => ⟨rfl, (HSR.out h).2⟩) HFIT.out HONE.out w.heap.size w HB.out.drew (Nat.le_refl _) ?_
        intro w4 HG4 hB4
        have HG5 : Hid (w4.heap[w.heap.size]? = some (.cells (repC cur 2).toArray 3 (0, 0))) := by have := HG4.out; rwa [HSPL.out] at this
        have HB5 := Lib.hid hB4
        clear HG4 hB4 HSR HFIT HSPL HMIN HG HB
        refine hK.out _ _ trivial (fun hHeld => ?_); clear hK K; (try simp only [Act.put, List.setIfInBounds_toArray, List.set_cons_zero, List.set_cons_succ])
        refine wpAnyH_take (i := 8) (oi := ⟨some 46, _, _, _, _, _⟩) (v := ?_) rfl (by kernel_rfl) (by kernel_rfl) (by kernel_rfl) (fun _ _ _ h => h) (Or.inl ⟨by rfl, ?_⟩) (by assumption) ?_; rotate_left; (focus (intro w hSw; (try dsimp only at hSw); go_simp; (try with_reducible rfl))); (try simp only [Act.put, List.setIfInBounds_toArray, List.set_cons_zero, List.set_cons_succ])
        refine wpAnyH_take (i := 9) (oi := ⟨some 8, _, _, _, _, _⟩) (v := ?_) rfl (by kernel_rfl) (by kernel_rfl) (by kernel_rfl) (fun _ _ _ h => h) (Or.inl ⟨by rfl, ?_⟩) (by assumption) ?_; rotate_left; (focus (intro w hSw; (try dsimp only at hSw); go_simp; (try with_reducible rfl))); (try simp only [Act.put, List.setIfInBounds_toArray, List.set_cons_zero, List.set_cons_succ])
        refine wpAnyH_done (by kernel_rfl) ?_ _
        go_wp2
        go_roundw
        case rel => exact ⟨2, by omega, by omega, by go_num, HG5.out, HB5.out⟩
        case measure =>
          have e2 : IntKind.i64.wrap 2 = 2 := by decide
          have e3 : IntKind.i64.wrap 3 = 3 := by decide
          simp [intOf, e2, e3]
      · have hmin : [Value.int .i64 (-1)].length = Nat.min 2 (3 - 2) := by
          rfl
        have hcell : wr.cell? ⟨w.heap.size, 0, none⟩ = some (.int .i64 (-1)) := by
          have h0 : (repC cur 2)[0]? = some (.int .i64 (-1)) := rfl
          simp only [World.cell?, HG.out]
          simpa using h0
        have hsrc : 0 < [Value.int .i64 (-1)].length → some (⟨w.heap.size, 2, none⟩ : Addr) = some ⟨w.heap.size, 2, none⟩ ∧ ∃ ad, some (⟨w.heap.size, 0, none⟩ : Addr) = some ad ∧ ∀ j v, [Value.int .i64 (-1)][j]? = some v → wr.drew.cell? (ad.add j) = some v := by
          intro _
          refine ⟨rfl, _, rfl, fun j v hv => ?_⟩
          match j, hv with
          | 0, hv => cases hv; simpa [Addr.add] using hcell
        have hfit : 2 + [Value.int .i64 (-1)].length ≤ (repC cur 2).length := by unfold repC; have := HCL.out; simp; omega
        have hspl : splice (repC cur 2) 2 [Value.int .i64 (-1)] = repC cur 3 := by
          unfold splice repC
          have e1 : (List.replicate 2 (Value.int IntKind.i64 (-1)) ++ cur.drop 2).take 2 = List.replicate 2 (.int .i64 (-1)) := by simp
          have e2 : (List.replicate 2 (Value.int IntKind.i64 (-1)) ++ cur.drop 2).drop 3 = cur.drop 3 := by
            rw [List.drop_append]; simp [List.drop_drop]
          simp only [List.length_singleton]
          rw [e1, e2]
          simp [List.replicate_succ]
        have HSR := Lib.hid hsrc
        have HFIT := Lib.hid hfit
        have HSPL := Lib.hid hspl
        have HMIN := Lib.hid hmin
        clear hsrc hfit hspl hmin hcell
        go_upto_region 9 with fail
        refine wp_region_held_drew (S := fun _ => True) (by kernel_rfl) trivial (fun hHeld => ?_)
        refine wpAnyH_take (i := 0) (oi := ⟨some 38, _, _, _, _, _⟩) (v := ?_) rfl (by kernel_rfl) (by kernel_rfl) (by kernel_rfl) (fun _ _ _ h => h) (Or.inl ⟨by rfl, ?_⟩) (by assumption) ?_; rotate_left; (focus (intro w hSw; (try dsimp only at hSw); go_simp; (try with_reducible rfl))); (try simp only [Act.put, List.setIfInBounds_toArray, List.set_cons_zero, List.set_cons_succ])
        refine wpAnyH_take (i := 1) (oi := ⟨some 39, _, _, _, _, _⟩) (v := ?_) rfl (by kernel_rfl) (by kernel_rfl) (by kernel_rfl) (fun _ _ _ h => h) (Or.inl ⟨by rfl, ?_⟩) (by assumption) ?_; rotate_left; (focus (intro w hSw; (try dsimp only at hSw); go_simp; (try with_reducible rfl))); (try simp only [Act.put, List.setIfInBounds_toArray, List.set_cons_zero, List.set_cons_succ])
        refine wpAnyH_take (i := 2) (oi := ⟨some 40, _, _, _, _, _⟩) (v := ?_) rfl (by kernel_rfl) (by kernel_rfl) (by kernel_rfl) (fun _ _ _ h => h) (Or.inl ⟨by rfl, ?_⟩) (by assumption) ?_; rotate_left; (focus (intro w hSw; (try dsimp only at hSw); go_simp; (try with_reducible rfl))); (try simp only [Act.put, List.setIfInBounds_toArray, List.set_cons_zero, List.set_cons_succ])
        refine wpAnyH_take (i := 3) (oi := ⟨some 41, _, _, _, _, _⟩) (v := ?_) rfl (by kernel_rfl) (by kernel_rfl) (by kernel_rfl) (fun _ _ _ h => h) (Or.inl ⟨by rfl, ?_⟩) (by assumption) ?_; rotate_left; (focus (intro w hSw; (try dsimp only at hSw); go_simp; (try with_reducible rfl))); (try simp only [Act.put, List.setIfInBounds_toArray, List.set_cons_zero, List.set_cons_succ])
        refine wpAnyH_take (i := 4) (oi := ⟨some 42, _, _, _, _, _⟩) (v := ?_) rfl (by kernel_rfl) (by kernel_rfl) (by kernel_rfl) (fun _ _ _ h => h) (Or.inl ⟨by rfl, ?_⟩) (by assumption) ?_; rotate_left; (focus (intro w hSw; (try dsimp only at hSw); go_simp; (try with_reducible rfl))); (try simp only [Act.put, List.setIfInBounds_toArray, List.set_cons_zero, List.set_cons_succ])
        refine wpAnyH_take (i := 5) (oi := ⟨some 43, _, _, _, _, _⟩) (v := ?_) rfl (by kernel_rfl) (by kernel_rfl) (by kernel_rfl) (fun _ _ _ h => h) (Or.inl ⟨by rfl, ?_⟩) (by assumption) ?_; rotate_left; (focus (intro w hSw; (try dsimp only at hSw); go_simp; (try with_reducible rfl))); (try simp only [Act.put, List.setIfInBounds_toArray, List.set_cons_zero, List.set_cons_succ])
        refine wpAnyH_take (i := 6) (oi := ⟨some 44, _, _, _, _, _⟩) (v := ?_) rfl (by kernel_rfl) (by kernel_rfl) (by kernel_rfl) (fun _ _ _ h => h) (Or.inl ⟨by rfl, ?_⟩) (by assumption) ?_; rotate_left; (focus (intro w hSw; (try dsimp only at hSw); go_simp; (try with_reducible rfl))); (try simp only [Act.put, List.setIfInBounds_toArray, List.set_cons_zero, List.set_cons_succ])
        refine wpAnyH_ready (rs := [7]) (by kernel_rfl) (by simp) ?_; refine AllReadyH.cons (o := ⟨some 45, _, _, _, _, _⟩) rfl (fun K hK => ?_) AllReadyH.nil
        refine step_copy_splice rfl (.tmp 41) (.tmp 44) 26 26 rfl 3 Try.underlying26 HSZ.out _ _ _ _ _ _ (by rfl) (by rfl) w.heap.size 2 (repC cur 2) 3 HG.out [.int .i64 (-1)] HMIN.out (fun h => ⟨rfl, (HSR.out h).2⟩) HFIT.out HONE.out w.heap.size w HB.out.drew (Nat.le_refl _) ?_
        intro w4 HG4 hB4
        have HG5 : Hid (w4.heap[w.heap.size]? = some (.cells (repC cur 3).toArray 3 (0, 0))) := by have := HG4.out; rwa [HSPL.out] at this
        have HB5 := Lib.hid hB4
        clear HG4 hB4 HSR HFIT HSPL HMIN HG HB
        refine hK.out _ _ trivial (fun hHeld => ?_); clear hK K; (try simp only [Act.put, List.setIfInBounds_toArray, List.set_cons_zero, List.set_cons_succ])
        refine wpAnyH_take (i := 8) (oi := ⟨some 46, _, _, _, _, _⟩) (v := ?_) rfl (by kernel_rfl) (by kernel_rfl) (by kernel_rfl) (fun _ _ _ h => h) (Or.inl ⟨by rfl, ?_⟩) (by assumption) ?_; rotate_left; (focus (intro w hSw; (try dsimp only at hSw); go_simp; (try with_reducible rfl))); (try simp only [Act.put, List.setIfInBounds_toArray, List.set_cons_zero, List.set_cons_succ])
        refine wpAnyH_take (i := 9) (oi := ⟨some 8, _, _, _, _, _⟩) (v := ?_) rfl (by kernel_rfl) (by kernel_rfl) (by kernel_rfl) (fun _ _ _ h => h) (Or.inl ⟨by rfl, ?_⟩) (by assumption) ?_; rotate_left; (focus (intro w hSw; (try dsimp only at hSw); go_simp; (try with_reducible rfl))); (try simp only [Act.put, List.setIfInBounds_toArray, List.set_cons_zero, List.set_cons_succ])
        refine wpAnyH_done (by kernel_rfl) ?_ _
        go_wp2
        go_roundw
        case rel => exact ⟨3, by omega, by omega, by go_num, HG5.out, HB5.out⟩
        case measure =>
          have e2 : IntKind.i64.wrap 2 = 2 := by decide
          have e3 : IntKind.i64.wrap 3 = 3 := by decide
          simp [intOf, e2, e3]
    · obtain rfl : k = 3 := by omega
      go_wp2
      go_ret
      refine ⟨by simp, ⟨rfl, .inr ⟨w.heap.size, 3, (noCtx.map (Value.int .i64)).toArray, rfl, Nat.le_refl _, ?_, Nat.le_refl _, by unfold maxLen; omega, rfl, rfl⟩⟩, HB.out⟩
      have hd : cur.drop 3 = [] := List.drop_of_length_le (by have := HCL.out; omega)
      have := HG.out
      unfold repC at this
      rw [hd] at this
      simpa [noCtx] using this
end Go.Proofs.Ytjhpknnhgbdkiaa

namespace Go.Proofs.Ytjhpknnhgbdkiaa
set_option linter.unusedSimpArgs false
set_option linter.unusedVariables false
open Go.RowKit
theorem SSk.putLow {lo hi a b : Nat} {vs vs' : List Value} {lens lens' : Nat → Nat} {cont cont' : Nat → List Value} {w : World} {A : Option Addr} {m c : Nat} (h : SSk lo hi vs lens cont w) (k : Nat) (hk : vs'[k]? = some (.slice A m c)) (hl : ∀ j, j ≠ k → vs'[j]? = vs[j]?)
    (hlen : ∀ j, j < vs'.length → j ≠ k → j < vs.length) (hm : m = lens' k) (hc : ∀ j, j ≠ k → lens' j = lens j ∧ cont' j = cont j) (hr : OwR a b 3 1 (.slice A m c) m (cont' k) w) (h1 : b ≤ lo) (h2 : a ≤ lo) (h3 : lo ≤ hi) : SSk a hi vs' lens' cont' w := by
  refine ⟨fun j hj => ?_, fun i j v u q hij hi' hj' hv hu => ?_⟩
  · by_cases e : j = k
    · subst e
      exact ⟨A, m, c, hk, hm, hr.mono (Nat.le_refl _) (by omega)⟩
    · obtain ⟨A', m', c', e1, e2, e3⟩ := h.row j (hlen j hj e)
      obtain ⟨e4, e5⟩ := hc j e
      exact ⟨A', m', c', by rw [hl j e]; exact e1, by rw [e4]; exact e2, by rw [e5]; exact e3.mono h2 (Nat.le_refl _)⟩
  · by_cases e : i = k
    · subst e
      rw [hk] at hi'
      cases hi'
      have a1 := hr.2 q hv
      rw [hl j (fun e => hij e.symm)] at hj'
      have a2 := (h.lt j u q hj' hu).1
      omega
    · by_cases e' : j = k
      · subst e'
        rw [hk] at hj'
        cases hj'
        have a1 := hr.2 q hu
        rw [hl i e] at hi'
        have a2 := (h.lt i v q hi' hv).1
        omega
      · rw [hl i e] at hi'
        rw [hl j e'] at hj'
        exact h.apart i j v u q hij hi' hj' hv hu
theorem OwO.snocLow {a b lo hi mid k : Nat} {v v' : Value} {ds : List On} {w w' : World} {d : On} {A A' : Option Addr} {m c m' c' : Nat} {xs us : List Value}
    (h0 : k = ds.length) (hx : OwR lo hi 32 4 v k xs w) (hul : us.length = k * 2) (hf : OwF xs us ds) (hs : SSk lo hi us (lenOf (rowsO ds)) (rowOf (rowsO ds)) w)
    (h1 : OwR hi mid 3 1 (.slice A m c) m (d.cl.map (Value.int .i64)) w) (hm : m = d.cl.length) (h2 : OwR a b 3 1 (.slice A' m' c') m' (d.cx.map (Value.int .i64)) w) (hm' : m' = d.cx.length) (hab : b ≤ lo) (hal : a ≤ lo) (hlo : lo ≤ hi) (hmid : hi ≤ mid) (hsz : mid ≤ w.heap.size)
    (hg : w.grownBy w' v.ownBlock) (hv : w'.ownsRow lo 32 4 v' (k + 1) (xs ++ [.int .i64 d.p, .bool d.o, .slice A m c, .slice A' m' c'])) : OwO a w'.heap.size v' (k + 1) (ds ++ [d]) w' := by
  have hxl : xs.length = k * 4 := hx.1.1
  have hw' := hg.size
  have hs1 := hs.grown hg (hs.ne hx.1 owner_ne_int.symm)
  have r1 := h1.1.kept hg (blocks_ne h1.1 hx.1 owner_ne_int.symm)
  have r2 := h2.1.kept hg (blocks_ne h2.1 hx.1 owner_ne_int.symm)
  have hrow (i : Nat) : rowO (ds ++ [d]) i = if i = k * 2 then d.cl else if i = k * 2 + 1 then d.cx else rowO ds i := by
    unfold rowO
    rw [getD_snoc ds d (i / 2), ← h0]
    by_cases e1 : i / 2 = k
    · rw [if_pos e1]
      by_cases e2 : i % 2 = 0
      · rw [if_pos e2, if_pos (by omega)]
      · rw [if_neg e2, if_neg (by omega), if_pos (by omega)]
    · have e3 : ¬ i = k * 2 := by omega
      have e4 : ¬ i = k * 2 + 1 := by omega
      simp only [if_neg e1, if_neg e3, if_neg e4]
  refine ⟨by simp [h0], _, (us ++ [.slice A m c]) ++ [.slice A' m' c'], ⟨own_mono hv hal, fun q hq => (hv.lt q hq).2⟩, by simp [hul]; omega, ?_, ?_⟩
  · intro j hj
    rw [getD_snoc ds d j, ← h0]
    by_cases e : j = k
    · subst e
      rw [if_pos rfl]
      refine ⟨?_, ?_, ?_, ?_⟩
      · rw [List.getElem?_append_right (by omega), hxl]; simp
      · rw [List.getElem?_append_right (by omega), hxl, show j * 4 + 1 - j * 4 = 1 by omega]; rfl
      · rw [List.getElem?_append_right (by omega), hxl, show j * 4 + 2 - j * 4 = 2 by omega, List.getElem?_append_left (by simp; omega), List.getElem?_append_right (by omega), hul]; simp
      · rw [List.getElem?_append_right (by omega), hxl, show j * 4 + 3 - j * 4 = 3 by omega, List.getElem?_append_right (by simp; omega)]; simp [hul]
    · rw [if_neg e]
      have hjk : j < k := by simp at hj; omega
      obtain ⟨f0, f1, f2, f3⟩ := hf j (by omega)
      refine ⟨?_, ?_, ?_, ?_⟩
      · rw [List.getElem?_append_left (by omega)]; exact f0
      · rw [List.getElem?_append_left (by omega)]; exact f1
      · rw [List.getElem?_append_left (by omega), List.getElem?_append_left (by simp; omega), List.getElem?_append_left (by omega)]; exact f2
      · rw [List.getElem?_append_left (by omega), List.getElem?_append_left (by simp; omega), List.getElem?_append_left (by omega)]; exact f3
  · have p1 : SSk lo mid (us ++ [.slice A m c]) (fun i => if i = k * 2 then d.cl.length else lenOf (rowsO ds) i) (fun i => if i = k * 2 then d.cl.map (Value.int .i64) else rowOf (rowsO ds) i) w' :=
      hs1.put (A := A) (m := m) (c := c) (k * 2) (by rw [List.getElem?_append_right (by omega), hul]; simp) (fun j hj => by
        rcases Nat.lt_or_ge j (k * 2) with h | h
        · rw [List.getElem?_append_left (by omega)]
        · rw [List.getElem?_eq_none (by simp; omega), List.getElem?_eq_none (by omega)]) (fun j hj h => by simp at hj; omega) (by simpa using hm) (fun j hj => by simp [hj]) (by simpa using ⟨r1, h1.2⟩) hlo hmid
    have p2 := p1.putLow (a := a) (b := b) (k := k * 2 + 1) (vs' := (us ++ [.slice A m c]) ++ [.slice A' m' c']) (lens' := lenOf (rowsO (ds ++ [d]))) (cont' := rowOf (rowsO (ds ++ [d]))) (A := A') (m := m') (c := c') (by rw [List.getElem?_append_right (by simp; omega)]; simp [hul]) (fun j hj => by
        rcases Nat.lt_or_ge j (k * 2 + 1) with h | h
        · rw [List.getElem?_append_left (by simp; omega)]
        · rw [List.getElem?_eq_none (by simp; omega), List.getElem?_eq_none (by simp; omega)]) (fun j hj h => by simp at hj ⊢; omega) ?_ (fun j hj => ?_) ?_ hab hal (by omega)
    · exact p2.mono (Nat.le_refl _) (by omega)
    · rw [lenOfO, hrow, if_neg (by omega), if_pos rfl]; exact hm'
    · rw [lenOfO, rowOfO, hrow]
      by_cases e : j = k * 2
      · simp [e]
      · rw [if_neg e, if_neg hj, if_neg e, if_neg e, ← lenOfO, ← rowOfO]; exact ⟨rfl, rfl⟩
    · rw [rowOfO, hrow, if_neg (by omega), if_pos rfl]; exact ⟨r2, h2.2⟩
set_option maxRecDepth 100000 in
set_option maxHeartbeats 3200000 in
theorem top_impl_OpenUnder (ds : List On) (o : Int) (hO : OB ds) : ∀ (A : Option Addr) (n c : Nat) (w : World), n = ds.length → n ≤ c → OS w w.heap.size A ds →
    Calls Try.prog 27 #[.slice A n c, .int .i64 o] w fun e w' => RetOB w (openF ds o) (openB ds o) e w' := by
  intro A n c w hn hnc h
  obtain ⟨i1, hi1, hy0, hy1, hy2⟩ := info_parts info_owner
  have hnb : n ≤ 1048576 := by rw [hn]; exact hO.1
  have HS := Lib.hid h
  have HC := Lib.hid (impl_hasOpenOwner A n c ds o w w.heap.size (Nat.le_refl _) hn hnc h hO)
  cases hv : hasOpO ds o
  · rw [hv] at HC
    have hf : openB ds o = false := by unfold openB; rw [hv]; rfl
    unfold openF
    rw [hf]
    clear hf hn h hO hv
    simp only [Bool.false_eq_true, if_false]
    go_enter Try.func27, Try.ntmps27
    go_wp2_with fail
    refine HC.out.mono ?_
    rintro e w1 ⟨rfl, hb⟩
    go_wp2
    go_ret2
    exact RetOB.nil hb
  rw [hv] at HC
  by_cases h12 : n = 12
  · have h12' : ((n : Int) == 12) = true := by simp; omega
    have hf : openB ds o = false := by unfold openB; rw [← hn, decide_eq_true h12]; simp
    unfold openF
    rw [hf]
    clear hf hn h hO h12 hv
    simp only [Bool.false_eq_true, if_false]
    go_enter Try.func27, Try.ntmps27
    go_wp2_with fail
    refine HC.out.mono ?_
    rintro e w1 ⟨rfl, hb⟩
    go_wp2
    go_ret2
    exact RetOB.nil hb
  have h12' : ((n : Int) == 12) = false := by simp; omega
  have hf : openB ds o = true := by unfold openB; rw [hv, ← hn, decide_eq_false h12]; rfl
  have hce : openF ds o = ds ++ [newD o] := by unfold openF; rw [hf]; simp
  rw [hf, hce]
  have HCP := Lib.hid fun (w' : World) (hB : w.heap.size ≤ w'.heap.size) (h : OS w' w.heap.size A ds) => impl_copyOwners A n c ds w' w.heap.size hB hn h hO
  have HN := Lib.hid hn
  clear hf hce hn h hO h12 hv
  go_enter Try.func27, Try.ntmps27
  go_wp2_with fail
  refine HC.out.mono ?_
  rintro e w1 ⟨rfl, hb⟩
  have HB1 := Lib.hid hb
  have hs1 := hb.size
  have HS1 := Lib.hid (HS.out.below hb (Nat.le_refl _))
  clear hb HC HS
  go_wp2_with fail
  refine (slices_Repeat w1.heap.size _ (by simp) (by go_simp)).mono ?_
  rintro e w2 ⟨rfl, hoc, hbc⟩
  simp only [World.size_alloc] at hoc
  have hs2 : w1.heap.size + 1 ≤ w2.heap.size := by have := hbc.size; simpa using this
  have hlc := (hoc.lt _ rfl).2
  have HB2 := Lib.hid (((Below.refl w1.heap.size w1).alloc (Nat.le_refl _) (.cells #[.int .i64 (-1)] 3)).trans (hbc.mono (by simp)))
  have HOC := Lib.hid hoc
  clear hoc hbc
  go_wp2_with fail
  refine (HCP.out w2 (by omega) (HS1.out.below HB2.out (by omega))).mono ?_
  rintro e w3 ⟨rfl, ho, hb3⟩
  have hs3 := hb3.size
  obtain ⟨-, xs, us, hr2', hul, hfl, hss⟩ := ho
  have HR := Lib.hid hr2'
  have HUL := Lib.hid hul
  have HFL := Lib.hid hfl
  have HSS := Lib.hid hss
  have HC3 := Lib.hid (own_below HOC.out hb3)
  have HB3 := Lib.hid (HB1.out.trans ((HB2.out.trans (hb3.mono (by omega))).mono hs1))
  clear hr2' hul hfl hss hb3 HCP HS1 HOC HB2
  go_wp2_with (at_builtin; refine wpList_append_own _ rfl _ _ 23 rfl w2.heap.size 32 i1 _ 4 64 Try.underlying23 hi1 hy0 hy1 hy2 rfl (by decide) _ _ _ rfl (HR.out.1.alloc _) ⟨_, 0, none⟩ 1 1 [.int .i64 o, .bool true, .slice none 0 0, .slice (some ⟨w1.heap.size + 1, 0, none⟩) 3 3] rfl rfl (cells_new _ _ _ _ rfl) ?c2 ?c3 ?c4 ?c5 ?_)
  case c2 => first | rfl | (intro u hu; simp at hu; rcases hu with rfl | rfl | rfl | rfl <;> rfl)
  case c3 => unfold maxLen; omega
  case c4 => omega
  case c5 => first | omega | (simp; omega)
  intro v' w6 hown' hgrow _
  have HSN : Hid (OwO w1.heap.size w6.heap.size v' (n + 1) (ds ++ [newD o]) w6) :=
    OwO.snocLow (d := newD o) (a := w1.heap.size) (b := w2.heap.size) (lo := w2.heap.size) (hi := w3.heap.size) (mid := w3.heap.size) HN.out (HR.out.keep (w' := w3.alloc (.cells #[.int .i64 o, .bool true, .slice none 0 0, .slice (some ⟨w1.heap.size + 1, 0, none⟩) 3 3] 32)) (fun q _ hq => ((Below.refl w3.heap.size w3).alloc (Nat.le_refl _) _).block q (by omega))) HUL.out HFL.out (HSS.out.keep (fun q _ hq => ((Below.refl w3.heap.size w3).alloc (Nat.le_refl _) _).block q (by omega))) (OwR.nil _ _ _ _ _) rfl ⟨own_mono (HC3.out.alloc _) (by omega), fun q hq => by cases hq; exact hlc⟩ rfl (Nat.le_refl _) (by omega) hs3 (Nat.le_refl _) (by simp) hgrow hown'
  have hpos := (HR.out.1.alloc (.cells #[.int .i64 o, .bool true, .slice none 0 0, .slice (some ⟨w1.heap.size + 1, 0, none⟩) 3 3] 32)).lt
  have HB6 := Lib.hid ((HB3.out.alloc HB3.out.size (.cells #[.int .i64 o, .bool true, .slice none 0 0, .slice (some ⟨w1.heap.size + 1, 0, none⟩) 3 3] 32)).grown hgrow (by simp; omega) (fun q hq => by have := (hpos q hq).1; omega))
  clear hown' hgrow hpos
  go_wp2
  go_ret2
  refine ⟨_, rfl, ?_, HB6.out⟩
  rw [List.length_append, ← HN.out]
  exact HSN.out.mono (by omega) (Nat.le_refl _)
end Go.Proofs.Ytjhpknnhgbdkiaa
