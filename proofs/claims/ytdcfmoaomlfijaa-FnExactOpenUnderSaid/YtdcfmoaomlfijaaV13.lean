/- Owners: impl.copyOwners. -/
import Derived.Test.YtdcfmoaomlfijaaV12
import Derived.Deep.RegionHeld3
import Derived.Deep.Cut

namespace Go.Proofs.Ytdcfmoaomlfijaa
set_option linter.unusedSimpArgs false
set_option linter.unusedVariables false
open Go.RowKit

set_option maxRecDepth 100000 in
set_option maxHeartbeats 3200000 in
theorem impl_copyOwners (A : Option Addr) (n c : Nat) (ds : List On) (w : World) (B : Nat) (hB : B ≤ w.heap.size) (hn : n = ds.length) (h : OS w B A ds) (hs : OB ds) :
    Calls Try.prog 54 #[.slice A n c] w fun e w' => e = .returned (.slice (some ⟨w.heap.size, 0, none⟩) n n) ∧ OwO w.heap.size w'.heap.size (.slice (some ⟨w.heap.size, 0, none⟩) n n) n ds w' ∧ Below w.heap.size w w' := by
  have hn1 : n ≤ 1048576 := by rw [hn]; exact hs.1
  obtain ⟨i0, hi, hz0, hz1, hz2⟩ := info_parts info_owner
  obtain ⟨w0, hmk, hown0, hgr0⟩ := run_make_full (P := Try.prog) w w.heap.size 25 50 i0 _ 4 Try.underlying25 hi hz0 hz1 .i64 .i64 n (by rw [hz2]; omega) (by unfold maxLen; omega) (Nat.le_refl _)
  have hgl : w.heap.size < w0.heap.size := (hown0.lt _ rfl).2
  have hb0 : Below w.heap.size w w0 := ⟨hgr0.os, hgr0.tape, hgr0.output, hgr0.size, fun k hk => hgr0.block k hk (by simp)⟩
  have HO0 := Lib.hid (made_owners ds hn hown0 (fun j hj => made4 _ _ _ _ n j hj))
  have H := Lib.hid h
  have HN := Lib.hid hn
  have HS := Lib.hid hs
  have HB0 := Lib.hid hb0
  clear hn h hs hown0 hgr0 hb0
  go_enter Try.func54, Try.ntmps54
  go_wp2
  clear hmk
  go_loopw [11] (fun i wr => ∃ k : Nat, k ≤ n ∧ i = .int .i64 k ∧ Hid (OwO w.heap.size wr.heap.size (.slice (some ⟨w.heap.size, 0, none⟩) n n) n (cpO ds n k) wr) ∧ Hid (Below w.heap.size w wr) ∧ w.heap.size < wr.heap.size) (fun i _ => n - (intOf i).toNat)
  case atStart => exact ⟨0, Nat.zero_le _, rfl, HO0.out, HB0.out, hgl⟩
  case round =>
    obtain ⟨k, hk, rfl, HO, HB, hwr⟩ := hrel
    by_cases hlt : k < n
    · obtain ⟨b, off, rfl, hbB, c0, c1, ⟨A1, n1, d1, c2, hn1', hp1⟩, A2, n2, d2, c3, hn2', hp2⟩ := H.out.at_ k (by have := HN.out; omega)
      have hx := HS.out.2.2 k
      have b0 := (HB.out.cell (p := ⟨b, off + k * 4, none⟩) (by simp; omega)).trans c0
      have b1 := (HB.out.cell (p := ⟨b, off + k * 4 + 1, none⟩) (by simp; omega)).trans c1
      have b2 := (HB.out.cell (p := ⟨b, off + k * 4 + 2, none⟩) (by simp; omega)).trans c2
      have b3 := (HB.out.cell (p := ⟨b, off + k * 4 + 3, none⟩) (by simp; omega)).trans c3
      have HP1 := Lib.hid (hp1.below HB.out hB)
      have HP2 := Lib.hid (hp2.below HB.out hB)
      have HSU := Lib.hid (cpO_succ ds n k HN.out hlt)
      generalize ds.getD k default = d at *
      obtain ⟨p, o, cl, cx⟩ := d
      dsimp only at *
      have HC1 := Lib.hid fun (w' : World) (hB : B ≤ w'.heap.size) (h : IS w' B A1 cl) => impl_copyOf A1 n1 d1 cl w' B hB hn1' h (by omega)
      have HC2 := Lib.hid fun (w' : World) (hB : B ≤ w'.heap.size) (h : IS w' B A2 cx) => impl_copyOf A2 n2 d2 cx w' B hB hn2' h (by omega)
      have HN1 := Lib.hid hn1'
      have HN2 := Lib.hid hn2'
      have hBw : B ≤ wr.heap.size := by omega
      have X1 := Lib.hid (box4_start wr (.int .i64 p) (.bool o) (.slice A1 n1 d1) (.slice A2 n2 d2) 50)
      have HBX : Hid (Below wr.heap.size wr (wr.alloc (.cells #[.int .i64 p, .bool o, .slice A1 n1 d1, .slice A2 n2 d2] 50))) := (Below.refl _ _).alloc (Nat.le_refl _) _
      have hkt : k ≤ 1048576 := by omega
      clear c0 c1 c2 c3 hn1' hn2' hp1 hp2 hx H
      go_upto_region 5 with fail
      generalize hW1 : wr.alloc (.cells #[.int .i64 p, .bool o, .slice A1 n1 d1, .slice A2 n2 d2] 50) = W1 at *
      have hs1 : wr.heap.size < W1.heap.size := X1.out.lt
      clear hW1 b0 b1 b2 b3
      have s0 := X1.out.c0
      have s1 := X1.out.c1
      have s2 := X1.out.c2
      have s3 := X1.out.c3
      have hBW1 : B ≤ W1.drew.heap.size := by show B ≤ W1.heap.size; omega
      have HI1 : Hid (IS W1.drew B A1 cl) := HP1.out.below HBX.out.drew hBw
      have HI2 : Hid (IS W1.drew B A2 cx) := HP2.out.below HBX.out.drew hBw
      clear HP1 HP2
      refine wp_region_held_drew (S := fun w' => w'.cell? ⟨wr.heap.size, 0, none⟩ = some (.int .i64 p) ∧ w'.cell? ⟨wr.heap.size, 1, none⟩ = some (.bool o) ∧ w'.cell? ⟨wr.heap.size, 2, none⟩ = some (.slice A1 n1 d1) ∧ w'.cell? ⟨wr.heap.size, 3, none⟩ = some (.slice A2 n2 d2)) (by kernel_rfl) ⟨s0, s1, s2, s3⟩ (fun hHeld => ?_)
      refine wpAnyH_take (i := 0) (oi := ⟨some 16, _, _, _, _, _⟩) (v := ?_) rfl (by kernel_rfl) (by kernel_rfl) (by kernel_rfl) (fun _ _ _ h => h) (Or.inl ⟨by rfl, ?_⟩) (by assumption) ?_; rotate_left; (focus (intro w hSw; (try dsimp only at hSw); go_simp; (try with_reducible rfl))); (try simp only [Act.put, List.setIfInBounds_toArray, List.set_cons_zero, List.set_cons_succ])
      refine wpAnyH_take (i := 1) (oi := ⟨some 17, _, _, _, _, _⟩) (v := ?_) rfl (by kernel_rfl) (by kernel_rfl) (by kernel_rfl) (fun _ _ _ h => h) (Or.inl ⟨by rfl, ?_⟩) (by assumption) ?_; rotate_left; (focus (intro w hSw; (try dsimp only at hSw); go_simp; (try with_reducible rfl))); (try simp only [Act.put, List.setIfInBounds_toArray, List.set_cons_zero, List.set_cons_succ])
      refine wpAnyH_take (i := 2) (oi := ⟨some 18, _, _, _, _, _⟩) (v := ?_) rfl (by kernel_rfl) (by kernel_rfl) (by kernel_rfl) (fun _ _ _ h => h) (Or.inl ⟨by rfl, ?_⟩) (by assumption) ?_; rotate_left; (focus (intro w hSw; (try dsimp only at hSw); go_simp; (try with_reducible rfl))); (try simp only [Act.put, List.setIfInBounds_toArray, List.set_cons_zero, List.set_cons_succ])
      refine wpAnyH_take (i := 3) (oi := ⟨some 19, _, _, _, _, _⟩) (v := ?_) rfl (by kernel_rfl) (by kernel_rfl) (by kernel_rfl) (fun _ _ _ h => h) (Or.inl ⟨by rfl, ?_⟩) (by assumption) ?_; rotate_left; (focus (intro w hSw; (try dsimp only at hSw); go_simp; (try with_reducible rfl))); (try simp only [Act.put, List.setIfInBounds_toArray, List.set_cons_zero, List.set_cons_succ])
      refine wpAnyH_take (i := 4) (oi := ⟨some 20, _, _, _, _, _⟩) (v := ?_) rfl (by kernel_rfl) (by kernel_rfl) (by kernel_rfl) (fun _ _ _ h => h) (Or.inl ⟨by rfl, ?_⟩) (by assumption) ?_; rotate_left; (focus (intro w hSw; (try dsimp only at hSw); go_simp; (try with_reducible rfl))); (try simp only [Act.put, List.setIfInBounds_toArray, List.set_cons_zero, List.set_cons_succ])
      refine wpAnyH_take (i := 5) (oi := ⟨some 21, _, _, _, _, _⟩) (v := ?_) rfl (by kernel_rfl) (by kernel_rfl) (by kernel_rfl) (fun _ _ _ h => h) (Or.inl ⟨by rfl, ?_⟩) (by assumption) ?_; rotate_left; (focus (intro w hSw; (try dsimp only at hSw); go_simp; (try with_reducible rfl))); (try simp only [Act.put, List.setIfInBounds_toArray, List.set_cons_zero, List.set_cons_succ])
      refine wpAnyH_take (i := 6) (oi := ⟨some 22, _, _, _, _, _⟩) (v := ?_) rfl (by kernel_rfl) (by kernel_rfl) (by kernel_rfl) (fun _ _ _ h => h) (Or.inl ⟨by rfl, ?_⟩) (by assumption) ?_; rotate_left; (focus (intro w hSw; (try dsimp only at hSw); go_simp; (try with_reducible rfl))); (try simp only [Act.put, List.setIfInBounds_toArray, List.set_cons_zero, List.set_cons_succ])
      refine wpAnyH_take (i := 7) (oi := ⟨some 23, _, _, _, _, _⟩) (v := ?_) rfl (by kernel_rfl) (by kernel_rfl) (by kernel_rfl) (fun _ _ _ h => h) (Or.inl ⟨by rfl, ?_⟩) (by assumption) ?_; rotate_left; (focus (intro w hSw; (try dsimp only at hSw); go_simp; (try with_reducible rfl))); (try simp only [Act.put, List.setIfInBounds_toArray, List.set_cons_zero, List.set_cons_succ])
      refine wpAnyH_take (i := 9) (oi := ⟨some 25, _, _, _, _, _⟩) (v := ?_) rfl (by kernel_rfl) (by kernel_rfl) (by kernel_rfl) (fun _ _ _ h => h) (Or.inl ⟨by rfl, ?_⟩) (by assumption) ?_; rotate_left; (focus (intro w hSw; (try dsimp only at hSw); go_simp; (try with_reducible rfl))); (try simp only [Act.put, List.setIfInBounds_toArray, List.set_cons_zero, List.set_cons_succ])
      refine wpAnyH_take (i := 10) (oi := ⟨some 26, _, _, _, _, _⟩) (v := ?_) rfl (by kernel_rfl) (by kernel_rfl) (by kernel_rfl) (fun _ _ _ h => h) (Or.inl ⟨by rfl, ?_⟩) (by assumption) ?_; rotate_left; (focus (intro w hSw; (try dsimp only at hSw); go_simp; (try with_reducible rfl))); (try simp only [Act.put, List.setIfInBounds_toArray, List.set_cons_zero, List.set_cons_succ])
      refine wpAnyH_ready (rs := [8]) (by kernel_rfl) (by simp) ?_; refine AllReadyH.cons (o := ⟨some 24, _, _, _, _, _⟩) rfl (fun K hK => ?_) AllReadyH.nil
      · go_simp
        go_at_call 48
        refine (HC1.out W1.drew hBW1 HI1.out).mono ?_
        rintro e w2 ⟨rfl, ho1, hb1'⟩
        have hb1 : Below W1.heap.size W1 w2 := below_of_drew hb1'
        have ho1' : w2.ownsRow W1.heap.size 3 1 (.slice (some ⟨W1.heap.size, 0, none⟩) n1 n1) n1 (cl.map (Value.int .i64)) := ho1
        have hs2 := hb1.size
        have hg1 : W1.heap.size < w2.heap.size := (ho1'.lt _ rfl).2
        have X2 := Lib.hid (X1.out.step hb1 hs1)
        have HR1 := Lib.hid ho1'
        have HI := Lib.hid (IS.below (w := W1) HI2.out hb1 (by show B ≤ W1.heap.size; omega))
        have HB2 := Lib.hid (HBX.out.trans (hb1.mono (by omega)))
        have hBW2 : B ≤ w2.heap.size := by omega
        have s0 := X2.out.c0
        have s1 := X2.out.c1
        have s2 := X2.out.c2
        have s3 := X2.out.c3
        clear ho1 ho1' hb1 hb1' X1 HI1 HI2 HBX
        refine hK.out _ _ ⟨s0, s1, s2, s3⟩ (fun hHeld => ?_); clear hK K; (try simp only [Act.put, List.setIfInBounds_toArray, List.set_cons_zero, List.set_cons_succ])
        refine wpAnyH_ready (rs := [11]) (by kernel_rfl) (by simp) ?_; refine AllReadyH.cons (o := ⟨some 27, _, _, _, _, _⟩) rfl (fun K hK => ?_) AllReadyH.nil; go_simp
        go_at_call 48
        refine (HC2.out w2 hBW2 HI.out).mono ?_
        rintro e w4 ⟨rfl, ho2, hb2⟩
        have hs4 := hb2.size
        have hg2 : w2.heap.size < w4.heap.size := (ho2.lt _ rfl).2
        have X4 := Lib.hid (X2.out.step hb2 (by omega))
        have HR2 := Lib.hid (own_below HR1.out hb2)
        have HR3 := Lib.hid ho2
        have HB4 := Lib.hid (HB2.out.trans (hb2.mono (by omega)))
        have s0 := X4.out.c0
        have s1 := X4.out.c1
        have s2 := X4.out.c2
        have s3 := X4.out.c3
        have HW1 := Lib.hid (HO.out.step HB4.out (Nat.le_refl _))
        obtain ⟨-, xs, us, hr, -⟩ := HW1.out
        have hxl : xs.length = n * 4 := hr.1.1
        have u0 := hr.1.cellAt (k * 4) (by omega)
        have u1 := hr.1.cellAt (k * 4 + 1) (by omega)
        have u2 := hr.1.cellAt (k * 4 + 2) (by omega)
        have u3 := hr.1.cellAt (k * 4 + 3) (by omega)
        rw [List.getElem?_eq_getElem (by omega)] at u0 u1 u2 u3
        have f0 := hr.1.frozenAt (k * 4)
        have f1 := hr.1.frozenAt (k * 4 + 1)
        have f2 := hr.1.frozenAt (k * 4 + 2)
        have f3 := hr.1.frozenAt (k * 4 + 3)
        generalize xs[k * 4]'(by omega) = v0 at u0
        generalize xs[k * 4 + 1]'(by omega) = v1 at u1
        generalize xs[k * 4 + 2]'(by omega) = v2 at u2
        generalize xs[k * 4 + 3]'(by omega) = v3 at u3
        have HNEW := Lib.hid (HW1.out.put (d := ⟨p, o, cl, cx⟩) (mid := w2.heap.size) (top := w4.heap.size) hlt HN1.out HN2.out ⟨own_mono HR2.out (by omega), fun q hq => by cases hq; exact hg1⟩ ⟨HR3.out, fun q hq => by cases hq; exact hg2⟩ (by omega) (by omega) (by omega))
        have HB5 := Lib.hid (put4_below (HB.out.trans (HB4.out.mono HB.out.size)) (Nat.le_refl w.heap.size) (k * 4) (.int .i64 p) (.bool o) (.slice (some ⟨W1.heap.size, 0, none⟩) n1 n1) (.slice (some ⟨w2.heap.size, 0, none⟩) n2 n2))
        have X5 : Hid (Bx4 wr.heap.size (.int .i64 p) (.bool o) (.slice A1 n1 d1) (.slice A2 n2 d2) (put4 w4 w.heap.size (k * 4) (.int .i64 p) (.bool o) (.slice (some ⟨W1.heap.size, 0, none⟩) n1 n1) (.slice (some ⟨w2.heap.size, 0, none⟩) n2 n2))) := (((X4.out.other (by omega)).other (by omega)).other (by omega)).other (by omega)
        clear hr hxl ho2 hb2 X2 HR1 HR2 HR3 HI HW1 HB2 HC1 HC2
        refine hK.out _ _ ⟨s0, s1, s2, s3⟩ (fun hHeld => ?_); clear hK K; (try simp only [Act.put, List.setIfInBounds_toArray, List.set_cons_zero, List.set_cons_succ])
        refine wpAnyH_take (i := 12) (oi := ⟨some 28, _, _, _, _, _⟩) (v := ?_) rfl (by kernel_rfl) (by kernel_rfl) (by kernel_rfl) (fun _ _ _ h => h) (Or.inl ⟨by rfl, ?_⟩) (by assumption) ?_; rotate_left; (focus (intro w hSw; (try dsimp only at hSw); go_simp; (try with_reducible rfl))); (try simp only [Act.put, List.setIfInBounds_toArray, List.set_cons_zero, List.set_cons_succ])
        refine wpAnyH_take (i := 13) (oi := ⟨some 29, _, _, _, _, _⟩) (v := ?_) rfl (by kernel_rfl) (by kernel_rfl) (by kernel_rfl) (fun _ _ _ h => h) (Or.inl ⟨by rfl, ?_⟩) (by assumption) ?_; rotate_left; (focus (intro w hSw; (try dsimp only at hSw); go_simp; (try with_reducible rfl))); (try simp only [Act.put, List.setIfInBounds_toArray, List.set_cons_zero, List.set_cons_succ])
        refine wpAnyH_ready (rs := [14]) (by kernel_rfl) (by simp) ?_; refine AllReadyH.cons (o := ⟨none, _, _, _, _, _⟩) rfl (fun K hK => ?_) AllReadyH.nil; go_simp
        obtain ⟨W5, hW5⟩ : ∃ W : World, W = put4 w4 w.heap.size (k * 4) (.int .i64 p) (.bool o) (.slice (some ⟨W1.heap.size, 0, none⟩) n1 n1) (.slice (some ⟨w2.heap.size, 0, none⟩) n2 n2) := ⟨_, rfl⟩
        have hsz : W5.heap.size = w4.heap.size := by rw [hW5, put4_size]
        have HNEW2 : Hid (OwO w.heap.size W5.heap.size (.slice (some ⟨w.heap.size, 0, none⟩) n n) n (cpO ds n (k + 1)) W5) := by
          have h1 := HNEW.out; rw [HSU.out, ← hW5] at h1; rw [hsz]; exact h1
        have HB6 : Hid (Below w.heap.size w W5) := by rw [hW5]; exact HB5.out
        have hw5 : w.heap.size < W5.heap.size := by omega
        rw [← hW5] at X5
        have s0 := X5.out.c0
        have s1 := X5.out.c1
        have s2 := X5.out.c2
        have s3 := X5.out.c3
        unfold put4 at hW5
        rw [← hW5]
        clear hW5 hsz HNEW HB5 u0 u1 u2 u3 f0 f1 f2 f3 HB4 X4
        refine hK.out _ _ ⟨s0, s1, s2, s3⟩ (fun hHeld => ?_); clear hK K; (try simp only [Act.put, List.setIfInBounds_toArray, List.set_cons_zero, List.set_cons_succ])
        refine wpAnyH_done (by kernel_rfl) ?_ _
        go_wp2
        go_roundw
        case rel => exact ⟨k + 1, by omega, by go_num, HNEW2.out, HB6.out, hw5⟩
        case measure => simp [intOf]; omega
    · go_wp2
      go_ret
      have hkn : k = n := by omega
      subst hkn
      have h1 := HO.out
      rw [cpO_all ds k HN.out] at h1
      exact ⟨by simp, h1, HB.out⟩
end Go.Proofs.Ytdcfmoaomlfijaa
