/- Owners: empty contexts on both sides (slices.Repeat; a loop); the standing contracts of OpenUnder. -/
import Derived.Test.YtdcfmoaomlfijaaV14
import Derived.Deep.RegionHeld3
import Derived.Laws.CopyOwn
import Derived.Deep.Cut

namespace Go.Proofs.Ytdcfmoaomlfijaa
set_option linter.unusedSimpArgs false
set_option linter.unusedVariables false
open Go.RowKit

set_option maxRecDepth 100000 in
set_option maxHeartbeats 800000 in
theorem bits_Mul64 (w : World) : Calls Try.prog 67 #[.int .u64 1, .int .u64 3] w fun e w' => e = .returned (.tuple #[.int .u64 0, .int .u64 3]) ∧ w = w' := by
  go_enter Try.func67, Try.ntmps67
  go_wp2
  go_ret2
  exact ⟨rfl, rfl⟩

set_option maxRecDepth 100000 in
set_option maxHeartbeats 800000 in
theorem bits_Mul (w : World) : Calls Try.prog 65 #[.int .u64 1, .int .u64 3] w fun e w' => e = .returned (.tuple #[.int .u64 0, .int .u64 3]) ∧ w = w' := by
  go_enter Try.func65, Try.ntmps65
  go_wp2_with (go_at_call 67; refine (bits_Mul64 _).mono ?_; rintro e w' ⟨rfl, rfl⟩)
  go_ret2
  exact ⟨rfl, rfl⟩

def noCtx : List Int := [-1, -1, -1]
def repC (cur : List Value) (k : Nat) : List Value := List.replicate k (.int .i64 (-1)) ++ cur.drop k

set_option maxRecDepth 100000 in
set_option maxHeartbeats 1600000 in
theorem slices_Repeat (b : Nat) (w : World) (hb : b < w.heap.size) (hc : w.cell? ⟨b, 0, none⟩ = some (.int .i64 (-1))) :
    Calls Try.prog 53 #[.slice (some ⟨b, 0, none⟩) 1 1, .int .i64 3] w fun e w' => e = .returned (.slice (some ⟨w.heap.size, 0, none⟩) 3 3) ∧ w'.ownsRow w.heap.size 3 1 (.slice (some ⟨w.heap.size, 0, none⟩) 3 3) 3 (noCtx.map (Value.int .i64)) ∧ Below w.heap.size w w' := by
  obtain ⟨i0, hi, hz0, hz1, hz2⟩ := info_parts info_int
  obtain ⟨w0, hmk, hown0, hgr0⟩ := run_make_full (P := Try.prog) w w.heap.size 29 3 i0 _ 1 Try.underlying29 hi hz0 hz1 .i64 .i64 3 (by rw [hz2]; omega) (by unfold maxLen; omega) (Nat.le_refl _)
  obtain ⟨cur, hcur, hcl, _⟩ := own_heap hown0
  have hb0 : Below w.heap.size w w0 := ⟨hgr0.os, hgr0.tape, hgr0.output, hgr0.size, fun k hk => hgr0.block k hk (by simp)⟩
  have hsz : (Try.prog.info? 3).map (·.size) = some 1 := by kernel_rfl
  have c0 := (hb0.cell (p := ⟨b, 0, none⟩) hb).trans hc
  have hm3 : (((3 : Nat) : Int)) = 3 := rfl
  rw [hm3] at hmk
  have hsrc : 0 < [Value.int .i64 (-1)].length → some (⟨w.heap.size, 0, none⟩ : Addr) = some ⟨w.heap.size, 0, none⟩ ∧ ∃ ad, some (⟨b, 0, none⟩ : Addr) = some ad ∧ ∀ j v, [Value.int .i64 (-1)][j]? = some v → w0.cell? (ad.add j) = some v := by
    intro _
    refine ⟨rfl, _, rfl, fun j v hv => ?_⟩
    match j, hv with
    | 0, hv => cases hv; simpa [Addr.add] using c0
  have h1 : ∀ v ∈ [Value.int .i64 (-1)], v.oneCell' = true := by intro v hv; simp at hv; subst hv; rfl
  have HCUR := Lib.hid hcur
  have HCL := Lib.hid hcl
  have HSRC := Lib.hid hsrc
  have HONE := Lib.hid h1
  have HB0 := Lib.hid hb0
  have HSZ := Lib.hid hsz
  clear hcur hcl hsrc h1 hb0 hsz hown0 hgr0 hm3
  go_enter Try.func53, Try.ntmps53
  go_wp2_with (first
    | (go_at_call 65; refine (bits_Mul _).mono ?_; rintro e w' ⟨rfl, rfl⟩)
    | (with_reducible refine wpList_copy_splice rfl (.tmp 31) (.tmp 32) 29 29 rfl 3 Try.underlying29 HSZ.out _ _ _ _ _ _ rfl rfl w.heap.size 0 cur 3 HCUR.out [.int .i64 (-1)] ?c1 (fun h => ⟨rfl, (HSRC.out h).2⟩) ?c2 HONE.out w.heap.size w HB0.out (Nat.le_refl _) ?_))
  case c1 => rfl
  case c2 => have := HCL.out; simp; omega
  intro w2 HG2 hB2
  have HG3 : Hid (w2.heap[w.heap.size]? = some (.cells (repC cur 1).toArray 3 (0, 0))) := by
    have := HG2.out
    unfold splice at this
    simpa [repC, Hid] using this
  have HB2 := Lib.hid hB2
  clear HG2 hB2 hmk c0 HCUR HSRC HB0
  go_wp2
  go_loopw [8] (fun u wr => ∃ k : Nat, 1 ≤ k ∧ k ≤ 3 ∧ u = .int .i64 k ∧ Hid (wr.heap[w.heap.size]? = some (.cells (repC cur k).toArray 3 (0, 0))) ∧ Hid (Below w.heap.size w wr)) (fun u _ => 3 - (intOf u).toNat)
  case atStart => exact ⟨1, Nat.le_refl _, by omega, rfl, HG3.out, HB2.out⟩
  case round =>
    obtain ⟨k, hk1, hk3, rfl, HG, HB⟩ := hrel
    by_cases hlt : k < 3
    · rcases (show k = 1 ∨ k = 2 by omega) with rfl | rfl
      · have hmin : [Value.int .i64 (-1)].length = Nat.min 1 (3 - 1) := by
          rfl
        have hcell : wr.cell? ⟨w.heap.size, 0, none⟩ = some (.int .i64 (-1)) := by
          have h0 : (repC cur 1)[0]? = some (.int .i64 (-1)) := rfl
          simp only [World.cell?, HG.out]
          simpa using h0
        have hsrc : 0 < [Value.int .i64 (-1)].length → some (⟨w.heap.size, 1, none⟩ : Addr) = some ⟨w.heap.size, 1, none⟩ ∧ ∃ ad, some (⟨w.heap.size, 0, none⟩ : Addr) = some ad ∧ ∀ j v, [Value.int .i64 (-1)][j]? = some v → wr.drew.cell? (ad.add j) = some v := by
          intro _
          refine ⟨rfl, _, rfl, fun j v hv => ?_⟩
          match j, hv with
          | 0, hv => cases hv; simpa [Addr.add] using hcell
        have hfit : 1 + [Value.int .i64 (-1)].length ≤ (repC cur 1).length := by unfold repC; have := HCL.out; simp; omega
        have hspl : splice (repC cur 1) 1 [Value.int .i64 (-1)] = repC cur 2 := by
          unfold splice repC
          have e1 : (List.replicate 1 (Value.int IntKind.i64 (-1)) ++ cur.drop 1).take 1 = List.replicate 1 (.int .i64 (-1)) := by simp
          have e2 : (List.replicate 1 (Value.int IntKind.i64 (-1)) ++ cur.drop 1).drop 2 = cur.drop 2 := by
            rw [List.drop_append]; simp [List.drop_drop]
          simp only [List.length_singleton]
          rw [e1, e2]
          simp [List.replicate_succ]
        have HSR := Lib.hid hsrc
        have HFIT := Lib.hid hfit
        have HSPL := Lib.hid hspl
        have HMIN := Lib.hid hmin
        clear hsrc hfit hspl hmin hcell
        go_upto_region 9 with fail
        refine wp_region_held_drew (S := fun _ => True) (by kernel_rfl) trivial (fun hHeld => ?_)
        refine wpAnyH_take (i := 0) (oi := ⟨some 38, _, _, _, _, _⟩) (v := ?_) rfl (by kernel_rfl) (by kernel_rfl) (by kernel_rfl) (fun _ _ _ h => h) (Or.inl ⟨by rfl, ?_⟩) (by assumption) ?_; rotate_left; (focus (intro w hSw; (try dsimp only at hSw); go_simp; (try with_reducible rfl))); (try simp only [Act.put, List.setIfInBounds_toArray, List.set_cons_zero, List.set_cons_succ])
        refine wpAnyH_take (i := 1) (oi := ⟨some 39, _, _, _, _, _⟩) (v := ?_) rfl (by kernel_rfl) (by kernel_rfl) (by kernel_rfl) (fun _ _ _ h => h) (Or.inl ⟨by rfl, ?_⟩) (by assumption) ?_; rotate_left; (focus (intro w hSw; (try dsimp only at hSw); go_simp; (try with_reducible rfl))); (try simp only [Act.put, List.setIfInBounds_toArray, List.set_cons_zero, List.set_cons_succ])
        refine wpAnyH_take (i := 2) (oi := ⟨some 40, _, _, _, _, _⟩) (v := ?_) rfl (by kernel_rfl) (by kernel_rfl) (by kernel_rfl) (fun _ _ _ h => h) (Or.inl ⟨by rfl, ?_⟩) (by assumption) ?_; rotate_left; (focus (intro w hSw; (try dsimp only at hSw); go_simp; (try with_reducible rfl))); (try simp only [Act.put, List.setIfInBounds_toArray, List.set_cons_zero, List.set_cons_succ])
        refine wpAnyH_take (i := 3) (oi := ⟨some 41, _, _, _, _, _⟩) (v := ?_) rfl (by kernel_rfl) (by kernel_rfl) (by kernel_rfl) (fun _ _ _ h => h) (Or.inl ⟨by rfl, ?_⟩) (by assumption) ?_; rotate_left; (focus (intro w hSw; (try dsimp only at hSw); go_simp; (try with_reducible rfl))); (try simp only [Act.put, List.setIfInBounds_toArray, List.set_cons_zero, List.set_cons_succ])
        refine wpAnyH_take (i := 4) (oi := ⟨some 42, _, _, _, _, _⟩) (v := ?_) rfl (by kernel_rfl) (by kernel_rfl) (by kernel_rfl) (fun _ _ _ h => h) (Or.inl ⟨by rfl, ?_⟩) (by assumption) ?_; rotate_left; (focus (intro w hSw; (try dsimp only at hSw); go_simp; (try with_reducible rfl))); (try simp only [Act.put, List.setIfInBounds_toArray, List.set_cons_zero, List.set_cons_succ])
        refine wpAnyH_take (i := 5) (oi := ⟨some 43, _, _, _, _, _⟩) (v := ?_) rfl (by kernel_rfl) (by kernel_rfl) (by kernel_rfl) (fun _ _ _ h => h) (Or.inl ⟨by rfl, ?_⟩) (by assumption) ?_; rotate_left; (focus (intro w hSw; (try dsimp only at hSw); go_simp; (try with_reducible rfl))); (try simp only [Act.put, List.setIfInBounds_toArray, List.set_cons_zero, List.set_cons_succ])
        refine wpAnyH_take (i := 6) (oi := ⟨some 44, _, _, _, _, _⟩) (v := ?_) rfl (by kernel_rfl) (by kernel_rfl) (by kernel_rfl) (fun _ _ _ h => h) (Or.inl ⟨by rfl, ?_⟩) (by assumption) ?_; rotate_left; (focus (intro w hSw; (try dsimp only at hSw); go_simp; (try with_reducible rfl))); (try simp only [Act.put, List.setIfInBounds_toArray, List.set_cons_zero, List.set_cons_succ])
        refine wpAnyH_ready (rs := [7]) (by kernel_rfl) (by simp) ?_; refine AllReadyH.cons (o := ⟨some 45, _, _, _, _, _⟩) rfl (fun K hK => ?_) AllReadyH.nil
        refine step_copy_splice rfl (.tmp 41) (.tmp 44) 29 29 rfl 3 Try.underlying29 HSZ.out _ _ _ _ _ _ (by rfl) (by rfl) w.heap.size 1 (repC cur 1) 3 HG.out [.int .i64 (-1)] HMIN.out (fun h => ⟨rfl, (HSR.out h).2⟩) HFIT.out HONE.out w.heap.size w HB.out.drew (Nat.le_refl _) ?_
        intro w4 HG4 hB4
        have HG5 : Hid (w4.heap[w.heap.size]? = some (.cells (repC cur 2).toArray 3 (0, 0))) := by have := HG4.out; rwa [HSPL.out] at this
        have HB5 := Lib.hid hB4
        clear HG4 hB4 HSR HFIT HSPL HMIN HG HB
        refine hK.out _ _ trivial (fun hHeld => ?_); clear hK K; (try simp only [Act.put, List.setIfInBounds_toArray, List.set_cons_zero, List.set_cons_succ])
        refine wpAnyH_take (i := 8) (oi := ⟨some 46, _, _, _, _, _⟩) (v := ?_) rfl (by kernel_rfl) (by kernel_rfl) (by kernel_rfl) (fun _ _ _ h => h) (Or.inl ⟨by rfl, ?_⟩) (by assumption) ?_; rotate_left; (focus (intro w hSw; (try dsimp only at hSw); go_simp; (try with_reducible rfl))); (try simp only [Act.put, List.setIfInBounds_toArray, List.set_cons_zero, List.set_cons_succ])
        refine wpAnyH_take (i := 9) (oi := ⟨some 8, _, _, _, _, _⟩) (v := ?_) rfl (by kernel_rfl) (by kernel_rfl) (by kernel_rfl) (fun _ _ _ h => h) (Or.inl ⟨by rfl, ?_⟩) (by assumption) ?_; rotate_left; (focus (intro w hSw; (try dsimp only at hSw); go_simp; (try with_reducible rfl))); (try simp only [Act.put, List.setIfInBounds_toArray, List.set_cons_zero, List.set_cons_succ])
        refine wpAnyH_done (by kernel_rfl) ?_ _
        go_wp2
        go_roundw
        case rel => exact ⟨2, by omega, by omega, by go_num, HG5.out, HB5.out⟩
        case measure =>
          have e2 : IntKind.i64.wrap 2 = 2 := by decide
          have e3 : IntKind.i64.wrap 3 = 3 := by decide
          simp [intOf, e2, e3]
      · have hmin : [Value.int .i64 (-1)].length = Nat.min 2 (3 - 2) := by
          rfl
        have hcell : wr.cell? ⟨w.heap.size, 0, none⟩ = some (.int .i64 (-1)) := by
          have h0 : (repC cur 2)[0]? = some (.int .i64 (-1)) := rfl
          simp only [World.cell?, HG.out]
          simpa using h0
        have hsrc : 0 < [Value.int .i64 (-1)].length → some (⟨w.heap.size, 2, none⟩ : Addr) = some ⟨w.heap.size, 2, none⟩ ∧ ∃ ad, some (⟨w.heap.size, 0, none⟩ : Addr) = some ad ∧ ∀ j v, [Value.int .i64 (-1)][j]? = some v → wr.drew.cell? (ad.add j) = some v := by
          intro _
          refine ⟨rfl, _, rfl, fun j v hv => ?_⟩
          match j, hv with
          | 0, hv => cases hv; simpa [Addr.add] using hcell
        have hfit : 2 + [Value.int .i64 (-1)].length ≤ (repC cur 2).length := by unfold repC; have := HCL.out; simp; omega
        have hspl : splice (repC cur 2) 2 [Value.int .i64 (-1)] = repC cur 3 := by
          unfold splice repC
          have e1 : (List.replicate 2 (Value.int IntKind.i64 (-1)) ++ cur.drop 2).take 2 = List.replicate 2 (.int .i64 (-1)) := by simp
          have e2 : (List.replicate 2 (Value.int IntKind.i64 (-1)) ++ cur.drop 2).drop 3 = cur.drop 3 := by
            rw [List.drop_append]; simp [List.drop_drop]
          simp only [List.length_singleton]
          rw [e1, e2]
          simp [List.replicate_succ]
        have HSR := Lib.hid hsrc
        have HFIT := Lib.hid hfit
        have HSPL := Lib.hid hspl
        have HMIN := Lib.hid hmin
        clear hsrc hfit hspl hmin hcell
        go_upto_region 9 with fail
        refine wp_region_held_drew (S := fun _ => True) (by kernel_rfl) trivial (fun hHeld => ?_)
        refine wpAnyH_take (i := 0) (oi := ⟨some 38, _, _, _, _, _⟩) (v := ?_) rfl (by kernel_rfl) (by kernel_rfl) (by kernel_rfl) (fun _ _ _ h => h) (Or.inl ⟨by rfl, ?_⟩) (by assumption) ?_; rotate_left; (focus (intro w hSw; (try dsimp only at hSw); go_simp; (try with_reducible rfl))); (try simp only [Act.put, List.setIfInBounds_toArray, List.set_cons_zero, List.set_cons_succ])
        refine wpAnyH_take (i := 1) (oi := ⟨some 39, _, _, _, _, _⟩) (v := ?_) rfl (by kernel_rfl) (by kernel_rfl) (by kernel_rfl) (fun _ _ _ h => h) (Or.inl ⟨by rfl, ?_⟩) (by assumption) ?_; rotate_left; (focus (intro w hSw; (try dsimp only at hSw); go_simp; (try with_reducible rfl))); (try simp only [Act.put, List.setIfInBounds_toArray, List.set_cons_zero, List.set_cons_succ])
        refine wpAnyH_take (i := 2) (oi := ⟨some 40, _, _, _, _, _⟩) (v := ?_) rfl (by kernel_rfl) (by kernel_rfl) (by kernel_rfl) (fun _ _ _ h => h) (Or.inl ⟨by rfl, ?_⟩) (by assumption) ?_; rotate_left; (focus (intro w hSw; (try dsimp only at hSw); go_simp; (try with_reducible rfl))); (try simp only [Act.put, List.setIfInBounds_toArray, List.set_cons_zero, List.set_cons_succ])
        refine wpAnyH_take (i := 3) (oi := ⟨some 41, _, _, _, _, _⟩) (v := ?_) rfl (by kernel_rfl) (by kernel_rfl) (by kernel_rfl) (fun _ _ _ h => h) (Or.inl ⟨by rfl, ?_⟩) (by assumption) ?_; rotate_left; (focus (intro w hSw; (try dsimp only at hSw); go_simp; (try with_reducible rfl))); (try simp only [Act.put, List.setIfInBounds_toArray, List.set_cons_zero, List.set_cons_succ])
        refine wpAnyH_take (i := 4) (oi := ⟨some 42, _, _, _, _, _⟩) (v := ?_) rfl (by kernel_rfl) (by kernel_rfl) (by kernel_rfl) (fun _ _ _ h => h) (Or.inl ⟨by rfl, ?_⟩) (by assumption) ?_; rotate_left; (focus (intro w hSw; (try dsimp only at hSw); go_simp; (try with_reducible rfl))); (try simp only [Act.put, List.setIfInBounds_toArray, List.set_cons_zero, List.set_cons_succ])
        refine wpAnyH_take (i := 5) (oi := ⟨some 43, _, _, _, _, _⟩) (v := ?_) rfl (by kernel_rfl) (by kernel_rfl) (by kernel_rfl) (fun _ _ _ h => h) (Or.inl ⟨by rfl, ?_⟩) (by assumption) ?_; rotate_left; (focus (intro w hSw; (try dsimp only at hSw); go_simp; (try with_reducible rfl))); (try simp only [Act.put, List.setIfInBounds_toArray, List.set_cons_zero, List.set_cons_succ])
        refine wpAnyH_take (i := 6) (oi := ⟨some 44, _, _, _, _, _⟩) (v := ?_) rfl (by kernel_rfl) (by kernel_rfl) (by kernel_rfl) (fun _ _ _ h => h) (Or.inl ⟨by rfl, ?_⟩) (by assumption) ?_; rotate_left; (focus (intro w hSw; (try dsimp only at hSw); go_simp; (try with_reducible rfl))); (try simp only [Act.put, List.setIfInBounds_toArray, List.set_cons_zero, List.set_cons_succ])
        refine wpAnyH_ready (rs := [7]) (by kernel_rfl) (by simp) ?_; refine AllReadyH.cons (o := ⟨some 45, _, _, _, _, _⟩) rfl (fun K hK => ?_) AllReadyH.nil
        refine step_copy_splice rfl (.tmp 41) (.tmp 44) 29 29 rfl 3 Try.underlying29 HSZ.out _ _ _ _ _ _ (by rfl) (by rfl) w.heap.size 2 (repC cur 2) 3 HG.out [.int .i64 (-1)] HMIN.out (fun h => ⟨rfl, (HSR.out h).2⟩) HFIT.out HONE.out w.heap.size w HB.out.drew (Nat.le_refl _) ?_
        intro w4 HG4 hB4
        have HG5 : Hid (w4.heap[w.heap.size]? = some (.cells (repC cur 3).toArray 3 (0, 0))) := by have := HG4.out; rwa [HSPL.out] at this
        have HB5 := Lib.hid hB4
        clear HG4 hB4 HSR HFIT HSPL HMIN HG HB
        refine hK.out _ _ trivial (fun hHeld => ?_); clear hK K; (try simp only [Act.put, List.setIfInBounds_toArray, List.set_cons_zero, List.set_cons_succ])
        refine wpAnyH_take (i := 8) (oi := ⟨some 46, _, _, _, _, _⟩) (v := ?_) rfl (by kernel_rfl) (by kernel_rfl) (by kernel_rfl) (fun _ _ _ h => h) (Or.inl ⟨by rfl, ?_⟩) (by assumption) ?_; rotate_left; (focus (intro w hSw; (try dsimp only at hSw); go_simp; (try with_reducible rfl))); (try simp only [Act.put, List.setIfInBounds_toArray, List.set_cons_zero, List.set_cons_succ])
        refine wpAnyH_take (i := 9) (oi := ⟨some 8, _, _, _, _, _⟩) (v := ?_) rfl (by kernel_rfl) (by kernel_rfl) (by kernel_rfl) (fun _ _ _ h => h) (Or.inl ⟨by rfl, ?_⟩) (by assumption) ?_; rotate_left; (focus (intro w hSw; (try dsimp only at hSw); go_simp; (try with_reducible rfl))); (try simp only [Act.put, List.setIfInBounds_toArray, List.set_cons_zero, List.set_cons_succ])
        refine wpAnyH_done (by kernel_rfl) ?_ _
        go_wp2
        go_roundw
        case rel => exact ⟨3, by omega, by omega, by go_num, HG5.out, HB5.out⟩
        case measure =>
          have e2 : IntKind.i64.wrap 2 = 2 := by decide
          have e3 : IntKind.i64.wrap 3 = 3 := by decide
          simp [intOf, e2, e3]
    · obtain rfl : k = 3 := by omega
      go_wp2
      go_ret
      refine ⟨by simp, ⟨rfl, .inr ⟨w.heap.size, 3, (noCtx.map (Value.int .i64)).toArray, rfl, Nat.le_refl _, ?_, Nat.le_refl _, by unfold maxLen; omega, rfl, rfl⟩⟩, HB.out⟩
      have hd : cur.drop 3 = [] := List.drop_of_length_le (by have := HCL.out; omega)
      have := HG.out
      unfold repC at this
      rw [hd] at this
      simpa [noCtx] using this
end Go.Proofs.Ytdcfmoaomlfijaa
