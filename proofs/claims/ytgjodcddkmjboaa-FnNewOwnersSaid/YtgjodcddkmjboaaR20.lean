/- What the law of NewOwners draws; plain facts on one owner; laws.equalOwners. -/
import Derived.Test.YtgjodcddkmjboaaV10
import Derived.Test.YtgjodcddkmjboaaV12
import Derived.Test.YtgjodcddkmjboaaS20
import Derived.Deep.RegionHeld3
import Derived.Deep.Cut

namespace Go.Proofs.Ytgjodcddkmjboaa
set_option linter.unusedSimpArgs false
set_option linter.unusedVariables false
open Go.RowKit

theorem newF_ok {xs : List Int} (h : ctxOK xs = true) : newF xs = [⟨-1, true, [], xs⟩] := by unfold newF; rw [h]; rfl
theorem new_valid {xs : List Int} (h : ctxOK xs = true) : validO (newF xs) = true := by
  rw [newF_ok h]
  have e : okO [⟨-1, true, [], xs⟩] 0 = true := by
    unfold okO okD parOK clOK
    simp [h, allR]
  unfold validO
  have e2 : (List.range [(⟨-1, true, [], xs⟩ : On)].length).all (okO [⟨-1, true, [], xs⟩]) = true := by
    rw [List.all_eq_true]
    intro i hi
    have : i = 0 := by simpa using hi
    rw [this]; exact e
  rw [e2]
  rfl
theorem new_above {xs : List Int} (h : ctxOK xs = true) : aboveF (newF xs) 0 = [0] := by
  unfold aboveF hasO
  rw [new_valid h, newF_ok h]
  rfl
theorem new_look {xs : List Int} (h : ctxOK xs = true) (k : Nat) (hk : k < 3) : lookO (newF xs) 0 k = if 0 ≤ xs.getD k 0 then some (xs.getD k 0) else none := by
  have hr : rng (k : Int) 0 2 = true := by rw [rng_iff]; omega
  have hc : ctxV (newF xs) k 0 = xs.getD k 0 := by unfold ctxV; rw [newF_ok h]; rfl
  unfold lookO
  rw [hr, new_above h]
  simp only [if_true, Int.toNat_natCast, lookG, hc]
theorem new_live {xs : List Int} (h : ctxOK xs = true) : liveF (newF xs) = [0] := by
  unfold liveF
  rw [new_valid h, newF_ok h]
  rfl

/-- Returns a list of at most three numbers. -/
def DrI3 (w : World) (e : Ending) (w' : World) : Prop :=
  ∃ (A : Option Addr) (n c : Nat) (xs : List Int), e = .returned (.slice A n c) ∧ n = xs.length ∧ n ≤ 3 ∧ IS w' w'.heap.size A xs ∧ Below w.heap.size w w'

theorem is_three (w : World) (b : Nat) (x y z : Int) (hb : b < w.heap.size) (h0 : w.cell? ⟨b, 0, none⟩ = some (.int .i64 x)) (h1 : w.cell? ⟨b, 1, none⟩ = some (.int .i64 y)) (h2 : w.cell? ⟨b, 2, none⟩ = some (.int .i64 z)) : IS w w.heap.size (some ⟨b, 0, none⟩) [x, y, z] := by
  intro _
  refine ⟨b, 0, rfl, hb, fun j hj => ?_⟩
  match j, hj with
  | 0, _ => exact h0
  | 1, _ => exact h1
  | 2, _ => exact h2
theorem is_two (w : World) (b : Nat) (y z : Int) (hb : b < w.heap.size) (h1 : w.cell? ⟨b, 1, none⟩ = some (.int .i64 y)) (h2 : w.cell? ⟨b, 2, none⟩ = some (.int .i64 z)) : IS w w.heap.size (some ⟨b, 1, none⟩) [y, z] := by
  intro _
  refine ⟨b, 1, rfl, hb, fun j hj => ?_⟩
  match j, hj with
  | 0, _ => exact h1
  | 1, _ => exact h2

set_option maxRecDepth 100000 in
set_option maxHeartbeats 3200000 in
theorem spec_DrawNewOwners (A : Option Addr) (n c : Nat) (bs : List Int) (w : World) (B : Nat) (hB : B ≤ w.heap.size) (hn : n = bs.length) (hnc : n ≤ c) (h : BS w B A bs) (hy : BY bs) (hs : n ≤ 1048576) :
    Calls Try.prog 4 #[.slice A n c] w fun e w' => DrI3 w e w' := by
  have HC := Lib.hid (spec_newReader A n c bs w B hB hn hnc h hy hs)
  clear hn hnc h hy hs
  go_enter Try.func4, Try.ntmps4
  go_wp2_with fail
  refine HC.out.mono ?_
  rintro e w1 ⟨g, A1, n1, c1, ds, rfl, hn1, hn2, hy1, hr, hg, hb⟩
  have HR1 := Lib.hid hr
  have HN1 := Lib.hid hn1
  have HB1 := Lib.hid hb
  have hgl := hr.lt
  clear hr hn1 hb HC
  go_wp2_with fail
  refine (pick_any g A1 n1 c1 ds 0 52 _ HR1.out HN1.out hy1 hn2 (by omega) (by omega)).mono ?_
  rintro e w2 ⟨x, rfl, hx, _, hr2, ht2⟩
  have hx52 : (x : Int) < 52 := hx (by omega)
  have HR2 := Lib.hid hr2
  have HB2 := Lib.hid (HB1.out.trans (ht2.below (B := w.heap.size) (by omega) (by have := HB1.out.size; omega)))
  have hs2 := ht2.size
  clear hx hr2 ht2 HR1 HB1
  go_wp2_with fail
  refine (pick_any g A1 n1 c1 ds 1 52 _ HR2.out HN1.out hy1 hn2 (by omega) (by omega)).mono ?_
  rintro e w3 ⟨y, rfl, hy', _, hr3, ht3⟩
  have hy52 : (y : Int) < 52 := hy' (by omega)
  have hs3 := ht3.size
  have HB3 := Lib.hid (HB2.out.trans (ht3.below (B := w.heap.size) (by omega) (by have := HB2.out.size; omega)))
  obtain ⟨X, hX⟩ : ∃ X : Int, X = (x : Int) - 1 := ⟨_, rfl⟩
  obtain ⟨Y, hY⟩ : ∃ Y : Int, Y = (y : Int) - 1 := ⟨_, rfl⟩
  have HR3 := Lib.hid hr3
  clear hy' hr3 ht3 HR2 HB2
  go_upto_region 3 with fail
  obtain ⟨w4, hw4⟩ : ∃ W : World, W = w3.alloc (.cells #[.int .i64 X, .int .i64 (-1), .int .i64 Y] 3) := ⟨_, rfl⟩
  have HR4 := Lib.hid (show Rdr g A1 n1 c1 ds 2 w4 from by rw [hw4]; exact HR3.out.alloc _)
  have q0 : w4.cell? ⟨w3.heap.size, 0, none⟩ = some (.int .i64 X) := by rw [hw4]; go_simp
  have q1 : w4.cell? ⟨w3.heap.size, 1, none⟩ = some (.int .i64 (-1)) := by rw [hw4]; go_simp
  have q2 : w4.cell? ⟨w3.heap.size, 2, none⟩ = some (.int .i64 Y) := by rw [hw4]; go_simp
  have f0 : w4.frozen? ⟨w3.heap.size, 0, none⟩ = false := by rw [hw4]; go_simp
  have hs4 : w3.heap.size < w4.heap.size := by rw [hw4]; simp
  have HB4 : Hid (Below w.heap.size w w4) := by rw [hw4]; exact HB3.out.alloc HB3.out.size _
  rw [← hX, ← hY, ← hw4]
  clear hX hY hw4 HR3 HB3 hx52 hy52
  have hg3 : g < w3.heap.size := by omega
  have hw3 : w.heap.size ≤ w3.heap.size := by have := HB4.out.size; omega
  go_wp2_with fail
  refine (pick_any g A1 n1 c1 ds 2 12 _ HR4.out HN1.out hy1 hn2 (by omega) (by omega)).mono ?_
  rintro e w5 ⟨z, rfl, hz, _, hr5, ht5⟩
  have hs5 := ht5.size
  have r0 := (World.cell?_of_block (a := ⟨w3.heap.size, 0, none⟩) (ht5.block w3.heap.size hs4 (.inr (by omega)))).trans q0
  have r1 := (World.cell?_of_block (a := ⟨w3.heap.size, 1, none⟩) (ht5.block w3.heap.size hs4 (.inr (by omega)))).trans q1
  have r2 := (World.cell?_of_block (a := ⟨w3.heap.size, 2, none⟩) (ht5.block w3.heap.size hs4 (.inr (by omega)))).trans q2
  have e0 := (World.frozen?_of_block (a := ⟨w3.heap.size, 0, none⟩) (ht5.block w3.heap.size hs4 (.inr (by omega)))).trans f0
  have HR5 := Lib.hid hr5
  have HB5 := Lib.hid (HB4.out.trans (ht5.below (B := w.heap.size) (by omega) (by omega)))
  have hlt5 : w3.heap.size < w5.heap.size := by omega
  clear hr5 ht5 q0 q1 q2 f0 HR4 HB4
  by_cases hz0 : z = 0
  · have hz0' : ((z : Int) == 0) = true := by simp [hz0]
    clear hz0 hz
    go_wp2
    go_ret
    exact ⟨_, _, _, [-1, Y], rfl, rfl, by omega, is_two w5 w3.heap.size (-1) Y hlt5 r1 r2, HB5.out⟩
  have hz0' : ((z : Int) == 0) = false := by simp; omega
  by_cases hz1 : z = 1
  case neg =>
    have hz1' : ((z : Int) == 1) = false := by simp; omega
    clear hz0 hz1 hz
    go_wp2
    go_ret
    exact ⟨_, _, _, [X, -1, Y], rfl, rfl, by omega, is_three w5 w3.heap.size X (-1) Y hlt5 r0 r1 r2, HB5.out⟩
  have hz1' : ((z : Int) == 1) = true := by simp [hz1]
  clear hz0 hz1 hz
  obtain ⟨w6, hw6⟩ : ∃ W : World, W = w5.alloc (.cells #[.int .i64 (-2), .int .i64 51] 3) := ⟨_, rfl⟩
  have HR6 := Lib.hid (show Rdr g A1 n1 c1 ds 3 w6 from by rw [hw6]; exact HR5.out.alloc _)
  have k0 : w6.cell? ⟨w5.heap.size, 0, none⟩ = some (.int .i64 (-2)) := by rw [hw6]; go_simp
  have k1 : w6.cell? ⟨w5.heap.size, 1, none⟩ = some (.int .i64 51) := by rw [hw6]; go_simp
  have hs6 : w5.heap.size < w6.heap.size := by rw [hw6]; simp
  have hb6 : Below w5.heap.size w5 w6 := by rw [hw6]; exact (Below.refl _ _).alloc (Nat.le_refl _) _
  have t0 := (hb6.cell (p := ⟨w3.heap.size, 0, none⟩) hlt5).trans r0
  have t1 := (hb6.cell (p := ⟨w3.heap.size, 1, none⟩) hlt5).trans r1
  have t2 := (hb6.cell (p := ⟨w3.heap.size, 2, none⟩) hlt5).trans r2
  have t3 := (hb6.frozen (p := ⟨w3.heap.size, 0, none⟩) hlt5).trans e0
  have HB6 := Lib.hid (HB5.out.trans (hb6.mono HB5.out.size))
  clear r0 r1 r2 e0 hb6 HR5 HB5
  go_wp2_with fail
  rw [← hw6]
  clear hw6
  refine (one_any g A1 n1 c1 ds 3 w5.heap.size 0 2 2 [-2, 51] w6 HR6.out HN1.out hy1 hn2 (by omega) rfl (by omega) (by omega) (fun j hj => by
    match j, hj with
    | 0, _ => exact k0
    | 1, _ => exact k1) (by omega) hs6).mono ?_
  rintro e w7 ⟨v, rfl, _, hr7, ht7⟩
  have hs7 := ht7.size
  have r0 := (World.cell?_of_block (a := ⟨w3.heap.size, 0, none⟩) (ht7.block w3.heap.size (by omega) (.inr (by omega)))).trans t0
  have r1 := (World.cell?_of_block (a := ⟨w3.heap.size, 1, none⟩) (ht7.block w3.heap.size (by omega) (.inr (by omega)))).trans t1
  have r2 := (World.cell?_of_block (a := ⟨w3.heap.size, 2, none⟩) (ht7.block w3.heap.size (by omega) (.inr (by omega)))).trans t2
  have e0 := (World.frozen?_of_block (a := ⟨w3.heap.size, 0, none⟩) (ht7.block w3.heap.size (by omega) (.inr (by omega)))).trans t3
  have HB7 := Lib.hid (HB6.out.trans (ht7.below (B := w.heap.size) (by omega) (by omega)))
  have hlt7 : w3.heap.size < w7.heap.size := by omega
  clear hr7 ht7 t0 t1 t2 t3 k0 k1 HR6 HB6
  go_wp2
  go_ret
  refine ⟨_, _, _, [v, -1, Y], rfl, rfl, by omega, is_three _ w3.heap.size v (-1) Y (by simpa [World.setCell] using hlt7) (World.cell?_setCell_same _ _ _ r0) ?_ ?_, HB7.out.setCell (by show w.heap.size ≤ w3.heap.size; omega) _⟩
  · rw [World.cell?_setCell_other _ _ _ _ (by simp)]; exact r1
  · rw [World.cell?_setCell_other _ _ _ _ (by simp)]; exact r2

set_option maxRecDepth 100000 in
set_option maxHeartbeats 3200000 in
theorem laws_equalOwners (A A' : Option Addr) (n c c' : Nat) (ds : List On) (w : World) (B : Nat) (hB : B ≤ w.heap.size) (hn : n = ds.length) (h : OS w B A ds) (h' : OS w B A' ds) (hb : OB ds) :
    Calls Try.prog 6 #[.slice A n c, .slice A' n c'] w fun e w' => e = .returned (.bool true) ∧ Below w.heap.size w w' := by
  have hnb : n ≤ 1048576 := by rw [hn]; exact hb.1
  have hne : ((n : Int) != (n : Int)) = false := by simp
  have H := Lib.hid h
  have H' := Lib.hid h'
  have HN := Lib.hid hn
  have HBD := Lib.hid hb
  clear hn h h' hb
  go_enter Try.func6, Try.ntmps6
  go_wp2
  go_loopw [5] (fun i wr => ∃ k : Nat, k ≤ n ∧ i = .int .i64 k ∧ Below w.heap.size w wr) (fun i _ => n - (intOf i).toNat)
  case atStart => exact ⟨0, Nat.zero_le _, rfl, Below.refl _ _⟩
  case round =>
    obtain ⟨k, hk, rfl, hb⟩ := hrel
    by_cases hlt : k < n
    · obtain ⟨b, off, rfl, hbB, c0, c1, ⟨A1, n1, d1, c2, hn1', hp1⟩, A2, n2, d2, c3, hn2', hp2⟩ := H.out.at_ k (by have := HN.out; omega)
      obtain ⟨b', off', rfl, hbB', e0, e1, ⟨A3, n3, d3, e2, hn3', hp3⟩, A4, n4, d4, e3, hn4', hp4⟩ := H'.out.at_ k (by have := HN.out; omega)
      have hx := HBD.out.2.2 k
      clear H H'
      have b0 := (hb.cell (p := ⟨b, off + k * 4, none⟩) (by simp; omega)).trans c0
      have b1 := (hb.cell (p := ⟨b, off + k * 4 + 1, none⟩) (by simp; omega)).trans c1
      have b2 := (hb.cell (p := ⟨b, off + k * 4 + 2, none⟩) (by simp; omega)).trans c2
      have b3 := (hb.cell (p := ⟨b, off + k * 4 + 3, none⟩) (by simp; omega)).trans c3
      have g0 := (hb.cell (p := ⟨b', off' + k * 4, none⟩) (by simp; omega)).trans e0
      have g1 := (hb.cell (p := ⟨b', off' + k * 4 + 1, none⟩) (by simp; omega)).trans e1
      have g2 := (hb.cell (p := ⟨b', off' + k * 4 + 2, none⟩) (by simp; omega)).trans e2
      have g3 := (hb.cell (p := ⟨b', off' + k * 4 + 3, none⟩) (by simp; omega)).trans e3
      have HP1 := Lib.hid (hp1.below hb hB)
      have HP2 := Lib.hid (hp2.below hb hB)
      have HP3 := Lib.hid (hp3.below hb hB)
      have HP4 := Lib.hid (hp4.below hb hB)
      generalize ds.getD k default = p at *
      obtain ⟨pp, po, pcl, pcx⟩ := p
      dsimp only at *
      have HE1 := Lib.hid fun (w' : World) (hB : B ≤ w'.heap.size) (a1 : IS w' B A1 pcl) (a3 : IS w' B A3 pcl) => laws_equalInts A1 A3 n1 n3 d1 d3 pcl pcl w' B hB hn1' hn3' a1 a3 (by omega) (by omega)
      have HE2 := Lib.hid fun (w' : World) (hB : B ≤ w'.heap.size) (a1 : IS w' B A2 pcx) (a3 : IS w' B A4 pcx) => laws_equalInts A2 A4 n2 n4 d2 d4 pcx pcx w' B hB hn2' hn4' a1 a3 (by omega) (by omega)
      have hd1 : decide (pcl = pcl) = true := by simp
      have hd2 : decide (pcx = pcx) = true := by simp
      rw [hd1] at HE1
      rw [hd2] at HE2
      have hbw : b < wr.heap.size := by have := hb.size; omega
      have hbw' : b' < wr.heap.size := by have := hb.size; omega
      have hBw : B ≤ wr.heap.size := by have := hb.size; omega
      have hpo : (po != po) = false := by simp
      have hpp : (pp != pp) = false := by simp
      clear c0 c1 c2 c3 e0 e1 e2 e3 hp1 hp2 hp3 hp4 hn1' hn2' hn3' hn4' hx hd1 hd2
      go_upto_region 6 with fail
      refine wp_region_held_drew (S := fun w' => w'.cell? ⟨b, off + k * 4, none⟩ = some (.int .i64 pp) ∧ w'.cell? ⟨b, off + k * 4 + 1, none⟩ = some (.bool po) ∧ w'.cell? ⟨b, off + k * 4 + 2, none⟩ = some (.slice A1 n1 d1) ∧ w'.cell? ⟨b, off + k * 4 + 3, none⟩ = some (.slice A2 n2 d2) ∧ w'.cell? ⟨b', off' + k * 4, none⟩ = some (.int .i64 pp) ∧ w'.cell? ⟨b', off' + k * 4 + 1, none⟩ = some (.bool po) ∧ w'.cell? ⟨b', off' + k * 4 + 2, none⟩ = some (.slice A3 n3 d3) ∧ w'.cell? ⟨b', off' + k * 4 + 3, none⟩ = some (.slice A4 n4 d4)) (by kernel_rfl) ⟨b0, b1, b2, b3, g0, g1, g2, g3⟩ (fun hHeld => ?_)
      refine wpAnyH_take (i := 0) (oi := ⟨some 17, _, _, _, _, _⟩) (v := ?_) rfl (by kernel_rfl) (by kernel_rfl) (by kernel_rfl) (fun _ _ _ h => h) (Or.inl ⟨by rfl, ?_⟩) (by assumption) ?_; rotate_left; (focus (intro w hSw; (try dsimp only at hSw); go_simp; (try with_reducible rfl))); (try simp only [Act.put, List.setIfInBounds_toArray, List.set_cons_zero, List.set_cons_succ])
      refine wpAnyH_take (i := 1) (oi := ⟨some 18, _, _, _, _, _⟩) (v := ?_) rfl (by kernel_rfl) (by kernel_rfl) (by kernel_rfl) (fun _ _ _ h => h) (Or.inl ⟨by rfl, ?_⟩) (by assumption) ?_; rotate_left; (focus (intro w hSw; (try dsimp only at hSw); go_simp; (try with_reducible rfl))); (try simp only [Act.put, List.setIfInBounds_toArray, List.set_cons_zero, List.set_cons_succ])
      refine wpAnyH_take (i := 2) (oi := ⟨some 19, _, _, _, _, _⟩) (v := ?_) rfl (by kernel_rfl) (by kernel_rfl) (by kernel_rfl) (fun _ _ _ h => h) (Or.inl ⟨by rfl, ?_⟩) (by assumption) ?_; rotate_left; (focus (intro w hSw; (try dsimp only at hSw); go_simp; (try with_reducible rfl))); (try simp only [Act.put, List.setIfInBounds_toArray, List.set_cons_zero, List.set_cons_succ])
      refine wpAnyH_take (i := 3) (oi := ⟨some 20, _, _, _, _, _⟩) (v := ?_) rfl (by kernel_rfl) (by kernel_rfl) (by kernel_rfl) (fun _ _ _ h => h) (Or.inl ⟨by rfl, ?_⟩) (by assumption) ?_; rotate_left; (focus (intro w hSw; (try dsimp only at hSw); go_simp; (try with_reducible rfl))); (try simp only [Act.put, List.setIfInBounds_toArray, List.set_cons_zero, List.set_cons_succ])
      refine wpAnyH_take (i := 4) (oi := ⟨some 21, _, _, _, _, _⟩) (v := ?_) rfl (by kernel_rfl) (by kernel_rfl) (by kernel_rfl) (fun _ _ _ h => h) (Or.inl ⟨by rfl, ?_⟩) (by assumption) ?_; rotate_left; (focus (intro w hSw; (try dsimp only at hSw); go_simp; (try with_reducible rfl))); (try simp only [Act.put, List.setIfInBounds_toArray, List.set_cons_zero, List.set_cons_succ])
      refine wpAnyH_take (i := 5) (oi := ⟨some 22, _, _, _, _, _⟩) (v := ?_) rfl (by kernel_rfl) (by kernel_rfl) (by kernel_rfl) (fun _ _ _ h => h) (Or.inl ⟨by rfl, ?_⟩) (by assumption) ?_; rotate_left; (focus (intro w hSw; (try dsimp only at hSw); go_simp; (try with_reducible rfl))); (try simp only [Act.put, List.setIfInBounds_toArray, List.set_cons_zero, List.set_cons_succ])
      refine wpAnyH_take (i := 6) (oi := ⟨some 23, _, _, _, _, _⟩) (v := ?_) rfl (by kernel_rfl) (by kernel_rfl) (by kernel_rfl) (fun _ _ _ h => h) (Or.inl ⟨by rfl, ?_⟩) (by assumption) ?_; rotate_left; (focus (intro w hSw; (try dsimp only at hSw); go_simp; (try with_reducible rfl))); (try simp only [Act.put, List.setIfInBounds_toArray, List.set_cons_zero, List.set_cons_succ])
      refine wpAnyH_take (i := 7) (oi := ⟨some 24, _, _, _, _, _⟩) (v := ?_) rfl (by kernel_rfl) (by kernel_rfl) (by kernel_rfl) (fun _ _ _ h => h) (Or.inl ⟨by rfl, ?_⟩) (by assumption) ?_; rotate_left; (focus (intro w hSw; (try dsimp only at hSw); go_simp; (try with_reducible rfl))); (try simp only [Act.put, List.setIfInBounds_toArray, List.set_cons_zero, List.set_cons_succ])
      refine wpAnyH_take (i := 8) (oi := ⟨some 25, _, _, _, _, _⟩) (v := ?_) rfl (by kernel_rfl) (by kernel_rfl) (by kernel_rfl) (fun _ _ _ h => h) (Or.inl ⟨by rfl, ?_⟩) (by assumption) ?_; rotate_left; (focus (intro w hSw; (try dsimp only at hSw); go_simp; (try with_reducible rfl))); (try simp only [Act.put, List.setIfInBounds_toArray, List.set_cons_zero, List.set_cons_succ])
      refine wpAnyH_take (i := 9) (oi := ⟨some 26, _, _, _, _, _⟩) (v := ?_) rfl (by kernel_rfl) (by kernel_rfl) (by kernel_rfl) (fun _ _ _ h => h) (Or.inl ⟨by rfl, ?_⟩) (by assumption) ?_; rotate_left; (focus (intro w hSw; (try dsimp only at hSw); go_simp; (try with_reducible rfl))); (try simp only [Act.put, List.setIfInBounds_toArray, List.set_cons_zero, List.set_cons_succ])
      refine wpAnyH_take (i := 10) (oi := ⟨some 27, _, _, _, _, _⟩) (v := ?_) rfl (by kernel_rfl) (by kernel_rfl) (by kernel_rfl) (fun _ _ _ h => h) (Or.inl ⟨by rfl, ?_⟩) (by assumption) ?_; rotate_left; (focus (intro w hSw; (try dsimp only at hSw); go_simp; (try with_reducible rfl))); (try simp only [Act.put, List.setIfInBounds_toArray, List.set_cons_zero, List.set_cons_succ])
      refine wpAnyH_take (i := 11) (oi := ⟨some 28, _, _, _, _, _⟩) (v := ?_) rfl (by kernel_rfl) (by kernel_rfl) (by kernel_rfl) (fun _ _ _ h => h) (Or.inl ⟨by rfl, ?_⟩) (by assumption) ?_; rotate_left; (focus (intro w hSw; (try dsimp only at hSw); go_simp; (try with_reducible rfl))); (try simp only [Act.put, List.setIfInBounds_toArray, List.set_cons_zero, List.set_cons_succ])
      refine wpAnyH_take (i := 12) (oi := ⟨some 29, _, _, _, _, _⟩) (v := ?_) rfl (by kernel_rfl) (by kernel_rfl) (by kernel_rfl) (fun _ _ _ h => h) (Or.inl ⟨by rfl, ?_⟩) (by assumption) ?_; rotate_left; (focus (intro w hSw; (try dsimp only at hSw); go_simp; (try with_reducible rfl))); (try simp only [Act.put, List.setIfInBounds_toArray, List.set_cons_zero, List.set_cons_succ])
      refine wpAnyH_take (i := 13) (oi := ⟨some 30, _, _, _, _, _⟩) (v := ?_) rfl (by kernel_rfl) (by kernel_rfl) (by kernel_rfl) (fun _ _ _ h => h) (Or.inl ⟨by rfl, ?_⟩) (by assumption) ?_; rotate_left; (focus (intro w hSw; (try dsimp only at hSw); go_simp; (try with_reducible rfl))); (try simp only [Act.put, List.setIfInBounds_toArray, List.set_cons_zero, List.set_cons_succ])
      refine wpAnyH_take (i := 14) (oi := ⟨some 31, _, _, _, _, _⟩) (v := ?_) rfl (by kernel_rfl) (by kernel_rfl) (by kernel_rfl) (fun _ _ _ h => h) (Or.inl ⟨by rfl, ?_⟩) (by assumption) ?_; rotate_left; (focus (intro w hSw; (try dsimp only at hSw); go_simp; (try with_reducible rfl))); (try simp only [Act.put, List.setIfInBounds_toArray, List.set_cons_zero, List.set_cons_succ])
      refine wpAnyH_take (i := 15) (oi := ⟨some 32, _, _, _, _, _⟩) (v := ?_) rfl (by kernel_rfl) (by kernel_rfl) (by kernel_rfl) (fun _ _ _ h => h) (Or.inl ⟨by rfl, ?_⟩) (by assumption) ?_; rotate_left; (focus (intro w hSw; (try dsimp only at hSw); go_simp; (try with_reducible rfl))); (try simp only [Act.put, List.setIfInBounds_toArray, List.set_cons_zero, List.set_cons_succ])
      refine wpAnyH_take (i := 16) (oi := ⟨some 33, _, _, _, _, _⟩) (v := ?_) rfl (by kernel_rfl) (by kernel_rfl) (by kernel_rfl) (fun _ _ _ h => h) (Or.inl ⟨by rfl, ?_⟩) (by assumption) ?_; rotate_left; (focus (intro w hSw; (try dsimp only at hSw); go_simp; (try with_reducible rfl))); (try simp only [Act.put, List.setIfInBounds_toArray, List.set_cons_zero, List.set_cons_succ])
      refine wpAnyH_take (i := 17) (oi := ⟨some 34, _, _, _, _, _⟩) (v := ?_) rfl (by kernel_rfl) (by kernel_rfl) (by kernel_rfl) (fun _ _ _ h => h) (Or.inl ⟨by rfl, ?_⟩) (by assumption) ?_; rotate_left; (focus (intro w hSw; (try dsimp only at hSw); go_simp; (try with_reducible rfl))); (try simp only [Act.put, List.setIfInBounds_toArray, List.set_cons_zero, List.set_cons_succ])
      refine wpAnyH_take (i := 18) (oi := ⟨some 35, _, _, _, _, _⟩) (v := ?_) rfl (by kernel_rfl) (by kernel_rfl) (by kernel_rfl) (fun _ _ _ h => h) (Or.inl ⟨by rfl, ?_⟩) (by assumption) ?_; rotate_left; (focus (intro w hSw; (try dsimp only at hSw); go_simp; (try with_reducible rfl))); (try simp only [Act.put, List.setIfInBounds_toArray, List.set_cons_zero, List.set_cons_succ])
      refine wpAnyH_take (i := 19) (oi := ⟨some 36, _, _, _, _, _⟩) (v := ?_) rfl (by kernel_rfl) (by kernel_rfl) (by kernel_rfl) (fun _ _ _ h => h) (Or.inl ⟨by rfl, ?_⟩) (by assumption) ?_; rotate_left; (focus (intro w hSw; (try dsimp only at hSw); go_simp; (try with_reducible rfl))); (try simp only [Act.put, List.setIfInBounds_toArray, List.set_cons_zero, List.set_cons_succ])
      refine wpAnyH_take (i := 20) (oi := ⟨some 37, _, _, _, _, _⟩) (v := ?_) rfl (by kernel_rfl) (by kernel_rfl) (by kernel_rfl) (fun _ _ _ h => h) (Or.inl ⟨by rfl, ?_⟩) (by assumption) ?_; rotate_left; (focus (intro w hSw; (try dsimp only at hSw); go_simp; (try with_reducible rfl))); (try simp only [Act.put, List.setIfInBounds_toArray, List.set_cons_zero, List.set_cons_succ])
      refine wpAnyH_take (i := 21) (oi := ⟨some 38, _, _, _, _, _⟩) (v := ?_) rfl (by kernel_rfl) (by kernel_rfl) (by kernel_rfl) (fun _ _ _ h => h) (Or.inl ⟨by rfl, ?_⟩) (by assumption) ?_; rotate_left; (focus (intro w hSw; (try dsimp only at hSw); go_simp; (try with_reducible rfl))); (try simp only [Act.put, List.setIfInBounds_toArray, List.set_cons_zero, List.set_cons_succ])
      refine wpAnyH_take (i := 22) (oi := ⟨some 39, _, _, _, _, _⟩) (v := ?_) rfl (by kernel_rfl) (by kernel_rfl) (by kernel_rfl) (fun _ _ _ h => h) (Or.inl ⟨by rfl, ?_⟩) (by assumption) ?_; rotate_left; (focus (intro w hSw; (try dsimp only at hSw); go_simp; (try with_reducible rfl))); (try simp only [Act.put, List.setIfInBounds_toArray, List.set_cons_zero, List.set_cons_succ])
      refine wpAnyH_take (i := 23) (oi := ⟨some 40, _, _, _, _, _⟩) (v := ?_) rfl (by kernel_rfl) (by kernel_rfl) (by kernel_rfl) (fun _ _ _ h => h) (Or.inl ⟨by rfl, ?_⟩) (by assumption) ?_; rotate_left; (focus (intro w hSw; (try dsimp only at hSw); go_simp; (try with_reducible rfl))); (try simp only [Act.put, List.setIfInBounds_toArray, List.set_cons_zero, List.set_cons_succ])
      refine wpAnyH_take (i := 24) (oi := ⟨some 41, _, _, _, _, _⟩) (v := ?_) rfl (by kernel_rfl) (by kernel_rfl) (by kernel_rfl) (fun _ _ _ h => h) (Or.inl ⟨by rfl, ?_⟩) (by assumption) ?_; rotate_left; (focus (intro w hSw; (try dsimp only at hSw); go_simp; (try with_reducible rfl))); (try simp only [Act.put, List.setIfInBounds_toArray, List.set_cons_zero, List.set_cons_succ])
      refine wpAnyH_take (i := 25) (oi := ⟨some 42, _, _, _, _, _⟩) (v := ?_) rfl (by kernel_rfl) (by kernel_rfl) (by kernel_rfl) (fun _ _ _ h => h) (Or.inl ⟨by rfl, ?_⟩) (by assumption) ?_; rotate_left; (focus (intro w hSw; (try dsimp only at hSw); go_simp; (try with_reducible rfl))); (try simp only [Act.put, List.setIfInBounds_toArray, List.set_cons_zero, List.set_cons_succ])
      refine wpAnyH_take (i := 26) (oi := ⟨some 43, _, _, _, _, _⟩) (v := ?_) rfl (by kernel_rfl) (by kernel_rfl) (by kernel_rfl) (fun _ _ _ h => h) (Or.inl ⟨by rfl, ?_⟩) (by assumption) ?_; rotate_left; (focus (intro w hSw; (try dsimp only at hSw); go_simp; (try with_reducible rfl))); (try simp only [Act.put, List.setIfInBounds_toArray, List.set_cons_zero, List.set_cons_succ])
      refine wpAnyH_take (i := 27) (oi := ⟨some 44, _, _, _, _, _⟩) (v := ?_) rfl (by kernel_rfl) (by kernel_rfl) (by kernel_rfl) (fun _ _ _ h => h) (Or.inl ⟨by rfl, ?_⟩) (by assumption) ?_; rotate_left; (focus (intro w hSw; (try dsimp only at hSw); go_simp; (try with_reducible rfl))); (try simp only [Act.put, List.setIfInBounds_toArray, List.set_cons_zero, List.set_cons_succ])
      refine wpAnyH_take (i := 28) (oi := ⟨some 45, _, _, _, _, _⟩) (v := ?_) rfl (by kernel_rfl) (by kernel_rfl) (by kernel_rfl) (fun _ _ _ h => h) (Or.inl ⟨by rfl, ?_⟩) (by assumption) ?_; rotate_left; (focus (intro w hSw; (try dsimp only at hSw); go_simp; (try with_reducible rfl))); (try simp only [Act.put, List.setIfInBounds_toArray, List.set_cons_zero, List.set_cons_succ])
      refine wpAnyH_take (i := 29) (oi := ⟨some 46, _, _, _, _, _⟩) (v := ?_) rfl (by kernel_rfl) (by kernel_rfl) (by kernel_rfl) (fun _ _ _ h => h) (Or.inl ⟨by rfl, ?_⟩) (by assumption) ?_; rotate_left; (focus (intro w hSw; (try dsimp only at hSw); go_simp; (try with_reducible rfl))); (try simp only [Act.put, List.setIfInBounds_toArray, List.set_cons_zero, List.set_cons_succ])
      refine wpAnyH_take (i := 30) (oi := ⟨some 47, _, _, _, _, _⟩) (v := ?_) rfl (by kernel_rfl) (by kernel_rfl) (by kernel_rfl) (fun _ _ _ h => h) (Or.inl ⟨by rfl, ?_⟩) (by assumption) ?_; rotate_left; (focus (intro w hSw; (try dsimp only at hSw); go_simp; (try with_reducible rfl))); (try simp only [Act.put, List.setIfInBounds_toArray, List.set_cons_zero, List.set_cons_succ])
      refine wpAnyH_take (i := 31) (oi := ⟨some 48, _, _, _, _, _⟩) (v := ?_) rfl (by kernel_rfl) (by kernel_rfl) (by kernel_rfl) (fun _ _ _ h => h) (Or.inl ⟨by rfl, ?_⟩) (by assumption) ?_; rotate_left; (focus (intro w hSw; (try dsimp only at hSw); go_simp; (try with_reducible rfl))); (try simp only [Act.put, List.setIfInBounds_toArray, List.set_cons_zero, List.set_cons_succ])
      refine wpAnyH_take (i := 32) (oi := ⟨some 49, _, _, _, _, _⟩) (v := ?_) rfl (by kernel_rfl) (by kernel_rfl) (by kernel_rfl) (fun _ _ _ h => h) (Or.inl ⟨by rfl, ?_⟩) (by assumption) ?_; rotate_left; (focus (intro w hSw; (try dsimp only at hSw); go_simp; (try with_reducible rfl))); (try simp only [Act.put, List.setIfInBounds_toArray, List.set_cons_zero, List.set_cons_succ])
      refine wpAnyH_take (i := 33) (oi := ⟨some 50, _, _, _, _, _⟩) (v := ?_) rfl (by kernel_rfl) (by kernel_rfl) (by kernel_rfl) (fun _ _ _ h => h) (Or.inl ⟨by rfl, ?_⟩) (by assumption) ?_; rotate_left; (focus (intro w hSw; (try dsimp only at hSw); go_simp; (try with_reducible rfl))); (try simp only [Act.put, List.setIfInBounds_toArray, List.set_cons_zero, List.set_cons_succ])
      refine wpAnyH_take (i := 34) (oi := ⟨some 51, _, _, _, _, _⟩) (v := ?_) rfl (by kernel_rfl) (by kernel_rfl) (by kernel_rfl) (fun _ _ _ h => h) (Or.inl ⟨by rfl, ?_⟩) (by assumption) ?_; rotate_left; (focus (intro w hSw; (try dsimp only at hSw); go_simp; (try with_reducible rfl))); (try simp only [Act.put, List.setIfInBounds_toArray, List.set_cons_zero, List.set_cons_succ])
      refine wpAnyH_ready (rs := [35]) (by kernel_rfl) (by simp) ?_; refine AllReadyH.cons (o := ⟨some 52, _, _, _, _, _⟩) rfl (fun K hK => ?_) AllReadyH.nil; go_simp
      go_at_call 10
      refine (HE1.out wr.drew hBw HP1.out HP3.out).mono ?_
      rintro e w2 ⟨rfl, hb2'⟩
      have hb2 : Below wr.heap.size wr w2 := below_of_drew hb2'
      have b0 := (hb2.cell (p := ⟨b, off + k * 4, none⟩) hbw).trans b0
      have b1 := (hb2.cell (p := ⟨b, off + k * 4 + 1, none⟩) hbw).trans b1
      have b2 := (hb2.cell (p := ⟨b, off + k * 4 + 2, none⟩) hbw).trans b2
      have b3 := (hb2.cell (p := ⟨b, off + k * 4 + 3, none⟩) hbw).trans b3
      have g0 := (hb2.cell (p := ⟨b', off' + k * 4, none⟩) hbw').trans g0
      have g1 := (hb2.cell (p := ⟨b', off' + k * 4 + 1, none⟩) hbw').trans g1
      have g2 := (hb2.cell (p := ⟨b', off' + k * 4 + 2, none⟩) hbw').trans g2
      have g3 := (hb2.cell (p := ⟨b', off' + k * 4 + 3, none⟩) hbw').trans g3
      have hs2 := hb2.size
      have HQ2 := Lib.hid (HP2.out.below hb2 hBw)
      have HQ4 := Lib.hid (HP4.out.below hb2 hBw)
      have HB2 := Lib.hid (hb.trans (hb2.mono hb.size))
      clear hb2 hb2' HP1 HP2 HP3 HP4 HE1
      refine hK.out _ _ ⟨b0, b1, b2, b3, g0, g1, g2, g3⟩ (fun hHeld => ?_); clear hK K; (try simp only [Act.put, List.setIfInBounds_toArray, List.set_cons_zero, List.set_cons_succ])
      refine wpAnyH_take (i := 36) (oi := ⟨some 53, _, _, _, _, _⟩) (v := ?_) rfl (by kernel_rfl) (by kernel_rfl) (by kernel_rfl) (fun _ _ _ h => h) (Or.inl ⟨by rfl, ?_⟩) (by assumption) ?_; rotate_left; (focus (intro w hSw; (try dsimp only at hSw); go_simp; (try with_reducible rfl))); (try simp only [Act.put, List.setIfInBounds_toArray, List.set_cons_zero, List.set_cons_succ])
      refine wpAnyH_take (i := 37) (oi := ⟨some 54, _, _, _, _, _⟩) (v := ?_) rfl (by kernel_rfl) (by kernel_rfl) (by kernel_rfl) (fun _ _ _ h => h) (Or.inl ⟨by rfl, ?_⟩) (by assumption) ?_; rotate_left; (focus (intro w hSw; (try dsimp only at hSw); go_simp; (try with_reducible rfl))); (try simp only [Act.put, List.setIfInBounds_toArray, List.set_cons_zero, List.set_cons_succ])
      refine wpAnyH_take (i := 38) (oi := ⟨some 55, _, _, _, _, _⟩) (v := ?_) rfl (by kernel_rfl) (by kernel_rfl) (by kernel_rfl) (fun _ _ _ h => h) (Or.inl ⟨by rfl, ?_⟩) (by assumption) ?_; rotate_left; (focus (intro w hSw; (try dsimp only at hSw); go_simp; (try with_reducible rfl))); (try simp only [Act.put, List.setIfInBounds_toArray, List.set_cons_zero, List.set_cons_succ])
      refine wpAnyH_take (i := 39) (oi := ⟨some 56, _, _, _, _, _⟩) (v := ?_) rfl (by kernel_rfl) (by kernel_rfl) (by kernel_rfl) (fun _ _ _ h => h) (Or.inl ⟨by rfl, ?_⟩) (by assumption) ?_; rotate_left; (focus (intro w hSw; (try dsimp only at hSw); go_simp; (try with_reducible rfl))); (try simp only [Act.put, List.setIfInBounds_toArray, List.set_cons_zero, List.set_cons_succ])
      refine wpAnyH_take (i := 40) (oi := ⟨some 57, _, _, _, _, _⟩) (v := ?_) rfl (by kernel_rfl) (by kernel_rfl) (by kernel_rfl) (fun _ _ _ h => h) (Or.inl ⟨by rfl, ?_⟩) (by assumption) ?_; rotate_left; (focus (intro w hSw; (try dsimp only at hSw); go_simp; (try with_reducible rfl))); (try simp only [Act.put, List.setIfInBounds_toArray, List.set_cons_zero, List.set_cons_succ])
      refine wpAnyH_take (i := 41) (oi := ⟨some 58, _, _, _, _, _⟩) (v := ?_) rfl (by kernel_rfl) (by kernel_rfl) (by kernel_rfl) (fun _ _ _ h => h) (Or.inl ⟨by rfl, ?_⟩) (by assumption) ?_; rotate_left; (focus (intro w hSw; (try dsimp only at hSw); go_simp; (try with_reducible rfl))); (try simp only [Act.put, List.setIfInBounds_toArray, List.set_cons_zero, List.set_cons_succ])
      refine wpAnyH_take (i := 42) (oi := ⟨some 59, _, _, _, _, _⟩) (v := ?_) rfl (by kernel_rfl) (by kernel_rfl) (by kernel_rfl) (fun _ _ _ h => h) (Or.inl ⟨by rfl, ?_⟩) (by assumption) ?_; rotate_left; (focus (intro w hSw; (try dsimp only at hSw); go_simp; (try with_reducible rfl))); (try simp only [Act.put, List.setIfInBounds_toArray, List.set_cons_zero, List.set_cons_succ])
      refine wpAnyH_take (i := 43) (oi := ⟨some 60, _, _, _, _, _⟩) (v := ?_) rfl (by kernel_rfl) (by kernel_rfl) (by kernel_rfl) (fun _ _ _ h => h) (Or.inl ⟨by rfl, ?_⟩) (by assumption) ?_; rotate_left; (focus (intro w hSw; (try dsimp only at hSw); go_simp; (try with_reducible rfl))); (try simp only [Act.put, List.setIfInBounds_toArray, List.set_cons_zero, List.set_cons_succ])
      refine wpAnyH_take (i := 44) (oi := ⟨some 61, _, _, _, _, _⟩) (v := ?_) rfl (by kernel_rfl) (by kernel_rfl) (by kernel_rfl) (fun _ _ _ h => h) (Or.inl ⟨by rfl, ?_⟩) (by assumption) ?_; rotate_left; (focus (intro w hSw; (try dsimp only at hSw); go_simp; (try with_reducible rfl))); (try simp only [Act.put, List.setIfInBounds_toArray, List.set_cons_zero, List.set_cons_succ])
      refine wpAnyH_take (i := 45) (oi := ⟨some 62, _, _, _, _, _⟩) (v := ?_) rfl (by kernel_rfl) (by kernel_rfl) (by kernel_rfl) (fun _ _ _ h => h) (Or.inl ⟨by rfl, ?_⟩) (by assumption) ?_; rotate_left; (focus (intro w hSw; (try dsimp only at hSw); go_simp; (try with_reducible rfl))); (try simp only [Act.put, List.setIfInBounds_toArray, List.set_cons_zero, List.set_cons_succ])
      refine wpAnyH_take (i := 46) (oi := ⟨some 63, _, _, _, _, _⟩) (v := ?_) rfl (by kernel_rfl) (by kernel_rfl) (by kernel_rfl) (fun _ _ _ h => h) (Or.inl ⟨by rfl, ?_⟩) (by assumption) ?_; rotate_left; (focus (intro w hSw; (try dsimp only at hSw); go_simp; (try with_reducible rfl))); (try simp only [Act.put, List.setIfInBounds_toArray, List.set_cons_zero, List.set_cons_succ])
      refine wpAnyH_take (i := 47) (oi := ⟨some 64, _, _, _, _, _⟩) (v := ?_) rfl (by kernel_rfl) (by kernel_rfl) (by kernel_rfl) (fun _ _ _ h => h) (Or.inl ⟨by rfl, ?_⟩) (by assumption) ?_; rotate_left; (focus (intro w hSw; (try dsimp only at hSw); go_simp; (try with_reducible rfl))); (try simp only [Act.put, List.setIfInBounds_toArray, List.set_cons_zero, List.set_cons_succ])
      refine wpAnyH_take (i := 48) (oi := ⟨some 65, _, _, _, _, _⟩) (v := ?_) rfl (by kernel_rfl) (by kernel_rfl) (by kernel_rfl) (fun _ _ _ h => h) (Or.inl ⟨by rfl, ?_⟩) (by assumption) ?_; rotate_left; (focus (intro w hSw; (try dsimp only at hSw); go_simp; (try with_reducible rfl))); (try simp only [Act.put, List.setIfInBounds_toArray, List.set_cons_zero, List.set_cons_succ])
      refine wpAnyH_ready (rs := [49]) (by kernel_rfl) (by simp) ?_; refine AllReadyH.cons (o := ⟨some 66, _, _, _, _, _⟩) rfl (fun K hK => ?_) AllReadyH.nil; go_simp
      go_at_call 10
      refine (HE2.out w2 (by omega) HQ2.out HQ4.out).mono ?_
      rintro e w3 ⟨rfl, hb3⟩
      have hbw2 : b < w2.heap.size := by omega
      have hbw2' : b' < w2.heap.size := by omega
      have b0 := (hb3.cell (p := ⟨b, off + k * 4, none⟩) hbw2).trans b0
      have b1 := (hb3.cell (p := ⟨b, off + k * 4 + 1, none⟩) hbw2).trans b1
      have b2 := (hb3.cell (p := ⟨b, off + k * 4 + 2, none⟩) hbw2).trans b2
      have b3 := (hb3.cell (p := ⟨b, off + k * 4 + 3, none⟩) hbw2).trans b3
      have g0 := (hb3.cell (p := ⟨b', off' + k * 4, none⟩) hbw2').trans g0
      have g1 := (hb3.cell (p := ⟨b', off' + k * 4 + 1, none⟩) hbw2').trans g1
      have g2 := (hb3.cell (p := ⟨b', off' + k * 4 + 2, none⟩) hbw2').trans g2
      have g3 := (hb3.cell (p := ⟨b', off' + k * 4 + 3, none⟩) hbw2').trans g3
      have HB3 := Lib.hid (HB2.out.trans (hb3.mono HB2.out.size))
      clear hb3 HQ2 HQ4 HE2
      refine hK.out _ _ ⟨b0, b1, b2, b3, g0, g1, g2, g3⟩ (fun hHeld => ?_); clear hK K; (try simp only [Act.put, List.setIfInBounds_toArray, List.set_cons_zero, List.set_cons_succ])
      refine wpAnyH_take (i := 50) (oi := ⟨some 67, _, _, _, _, _⟩) (v := ?_) rfl (by kernel_rfl) (by kernel_rfl) (by kernel_rfl) (fun _ _ _ h => h) (Or.inl ⟨by rfl, ?_⟩) (by assumption) ?_; rotate_left; (focus (intro w hSw; (try dsimp only at hSw); go_simp; (try with_reducible rfl))); (try simp only [Act.put, List.setIfInBounds_toArray, List.set_cons_zero, List.set_cons_succ])
      refine wpAnyH_take (i := 51) (oi := ⟨some 68, _, _, _, _, _⟩) (v := ?_) rfl (by kernel_rfl) (by kernel_rfl) (by kernel_rfl) (fun _ _ _ h => h) (Or.inl ⟨by rfl, ?_⟩) (by assumption) ?_; rotate_left; (focus (intro w hSw; (try dsimp only at hSw); go_simp; (try with_reducible rfl))); (try simp only [Act.put, List.setIfInBounds_toArray, List.set_cons_zero, List.set_cons_succ])
      refine wpAnyH_done (by kernel_rfl) ?_ _
      go_wp2
      go_roundw
      case rel => exact ⟨k + 1, by omega, by go_num, HB3.out⟩
      case measure => simp [intOf]; omega
    · go_wp2
      go_ret
      exact ⟨rfl, hb⟩
end Go.Proofs.Ytgjodcddkmjboaa
