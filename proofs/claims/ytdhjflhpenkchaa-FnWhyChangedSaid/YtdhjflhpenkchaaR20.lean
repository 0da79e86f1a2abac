/- What the law on the ways of changes draws: a graph, two lists of cells, a number. (Made by r20.py.) -/
import Derived.Test.YtdhjflhpenkchaaH15
import Derived.Test.YtdhjflhpenkchaaD13
import Derived.Test.YtdhjflhpenkchaaR8
import Derived.Test.YtdhjflhpenkchaaD17

namespace Go.Proofs.Ytdhjflhpenkchaa
set_option linter.unusedSimpArgs false
set_option linter.unusedVariables false
open Go.RowKit

/-- Returns a graph and two lists of cells that lie in memory, and a number. -/
def DrGCCI (w : World) (e : Ending) (w' : World) : Prop :=
  ∃ (A : Option Addr) (n c : Nat) (gs : List Nd) (E : Option Addr) (m d : Nat) (xs : List Int) (E' : Option Addr) (m' d' : Nat) (ys : List Int) (x : Int), e = .returned (.tuple #[.agg #[.slice A n c], .slice E m d, .slice E' m' d', .int .i64 x]) ∧ n = gs.length ∧ 2 ≤ n ∧ n ≤ 10 ∧ n ≤ c ∧ (∀ j, (gs.getD j default).ps.length ≤ 40) ∧ m = xs.length ∧ n ≤ m ∧ m ≤ n + 1 ∧ m' = ys.length ∧ n ≤ m' ∧ m' ≤ n + 1 ∧ -1 ≤ x ∧ x ≤ 10 ∧ GS w' w'.heap.size A gs ∧ IS w' w'.heap.size E xs ∧ IS w' w'.heap.size E' ys ∧ Below w.heap.size w w'

set_option maxRecDepth 100000 in
set_option maxHeartbeats 3200000 in
theorem spec_DrawWhyChanged (A : Option Addr) (n c : Nat) (bs : List Int) (w : World) (hn : n = bs.length) (hnc : n ≤ c) (h : BS w w.heap.size A bs) (hy : BY bs) (hs : n ≤ 1048576) :
    Calls Try.prog 50 #[.slice A n c] w fun e w' => DrGCCI w e w' := by
  have h1 : BS (w.alloc (.cells #[.slice none 0 0] 25)) w.heap.size A bs := h.keep fun p hp => World.cell?_alloc_lt w _ p (by omega)
  have HC := Lib.hid (spec_newReader A n c bs _ w.heap.size (by simp) hn hnc h1 hy hs)
  clear hn hnc h h1 hy hs
  go_enter Try.func50, Try.ntmps50
  go_wp2_with fail
  refine HC.out.mono ?_
  rintro e w1 ⟨g, A1, n1, c1, ds, rfl, hn1, hn2, hy1, hr, hg, hb⟩
  have q0 : w1.cell? ⟨w.heap.size, 0, none⟩ = some (.slice none 0 0) := (hb.cell (p := ⟨w.heap.size, 0, none⟩) (by simp)).trans (by go_simp)
  have f0 : w1.frozen? ⟨w.heap.size, 0, none⟩ = false := (hb.frozen (p := ⟨w.heap.size, 0, none⟩) (by simp)).trans (by go_simp)
  have hl1 : w.heap.size < w1.heap.size := by have := hb.size; simp at this; omega
  have hgw : w.heap.size < g := by simp at hg; omega
  have HB1 := Lib.hid (((Below.refl w.heap.size w).alloc (Nat.le_refl _) (.cells #[.slice none 0 0] 25)).trans (hb.mono (by simp)))
  have HS := Lib.hid (twoCells_any g A1 n1 c1 ds 0 w1 hr hn1 hy1 hn2 (by omega))
  have HNN := Lib.hid hn1
  have hby := hy1
  have hg0 := hr.lt
  clear hn1 hr hb HC hy1
  go_wp2_with fail
  refine HS.out.mono ?_
  rintro e w2 ⟨V, k, gs, E5, l5, c5, xs, E6, l6, c6, ys, rfl, hk2, hk10, hsm, hl5, hx1, hx2, hl6, hy1', hy2', ho, ho3, ho4, hr2, ht⟩
  obtain ⟨gn, cg, rfl⟩ := ho.pos (by omega)
  have hKL := ho.1
  have HKL := Lib.hid hKL
  clear hKL
  have hz2 := ht.size
  have HO2 : Hid (As w1.heap.size w2.heap.size (OwG w1.heap.size w2.heap.size (.slice (some ⟨gn, 0, none⟩) k cg) k gs) w2) := graph_start ho
  have HC2 : Hid (As w1.heap.size w2.heap.size (OwR w1.heap.size w2.heap.size 3 1 (.slice E5 l5 c5) l5 (xs.map (Value.int .i64))) w2) := row_start ho3
  have HD2 : Hid (As w1.heap.size w2.heap.size (OwR w1.heap.size w2.heap.size 3 1 (.slice E6 l6 c6) l6 (ys.map (Value.int .i64))) w2) := row_start ho4
  have HB1' : Hid (As w.heap.size (w.heap.size + 1) (fun w' => w'.cell? ⟨w.heap.size, 0, none⟩ = some (.slice none 0 0) ∧ w'.frozen? ⟨w.heap.size, 0, none⟩ = false) w1) := ⟨⟨q0, f0⟩, by omega, fun w w' h hk => ⟨(World.cell?_of_block (a := ⟨_, 0, none⟩) (hk _ (Nat.le_refl _) (Nat.lt_succ_self _))).trans h.1, (World.frozen?_of_block (a := ⟨_, 0, none⟩) (hk _ (Nat.le_refl _) (Nat.lt_succ_self _))).trans h.2⟩⟩
  have HB2' := Lib.hid (HB1'.out.turn ht (.inr (by omega)))
  have HL2x := Lib.hid (HB1.out.trans (ht.below (B := w.heap.size) (by omega) (by omega)))
  have HL5 := Lib.hid hl5
  have HL6 := Lib.hid hl6
  have HR2 := Lib.hid hr2
  clear ho ht q0 f0 ho3 ho4 hl5 hl6 HB1 HB1' hr2
  go_wp2
  obtain ⟨w3, hw3⟩ : ∃ W, W = w2.alloc (.cells #[.slice (some ⟨gn, 0, none⟩) k cg] 25) := ⟨_, rfl⟩
  rw [← hw3]
  have hb3 : Below w2.heap.size w2 w3 := by rw [hw3]; exact (Below.refl _ _).alloc (Nat.le_refl _) _
  have hz3 : w3.heap.size = w2.heap.size + 1 := by rw [hw3]; simp
  have HGn := box_new w2 (.slice (some ⟨gn, 0, none⟩) k cg) 25
  rw [← hw3] at HGn
  have HG3 := Lib.hid HGn
  have HO3 := Lib.hid (HO2.out.step hb3)
  have HC3 := Lib.hid (HC2.out.step hb3)
  have HD3 := Lib.hid (HD2.out.step hb3)
  have HB3 := Lib.hid (HB2'.out.step hb3)
  have HR3 := Lib.hid (HR2.out.step hb3)
  have HL3x := Lib.hid (HL2x.out.trans (hb3.mono (by omega)))
  clear HGn hb3 HO2 HC2 HD2 HB2' HR2 HL2x hw3
  have q3 := HG3.out.it
  have hwk : IntKind.i64.wrap ((k : Int) - 1) = (k : Int) - 1 := by rw [IntKind.wrap_i64]; omega
  refine wp_region_held_drew (S := fun w' => w'.cell? ⟨w2.heap.size, 0, none⟩ = some (.slice (some ⟨gn, 0, none⟩) k cg)) (by kernel_rfl) q3 (fun hHeld => ?_)
  refine wpAnyH_take (i := 0) (oi := ⟨some 18, _, _, _, _, _⟩) (v := ?_) rfl (by kernel_rfl) (by kernel_rfl) (by kernel_rfl) (fun _ _ _ h => h) (Or.inl ⟨by rfl, ?_⟩) (by assumption) ?_; rotate_left; (focus (intro w hSw; (try dsimp only at hSw); go_simp; (try with_reducible rfl))); (try simp only [Act.put, List.setIfInBounds_toArray, List.set_cons_zero, List.set_cons_succ])
  refine wpAnyH_take (i := 1) (oi := ⟨some 19, _, _, _, _, _⟩) (v := ?_) rfl (by kernel_rfl) (by kernel_rfl) (by kernel_rfl) (fun _ _ _ h => h) (Or.inl ⟨by rfl, ?_⟩) (by assumption) ?_; rotate_left; (focus (intro w hSw; (try dsimp only at hSw); go_simp; (try with_reducible rfl))); (try simp only [Act.put, List.setIfInBounds_toArray, List.set_cons_zero, List.set_cons_succ])
  refine wpAnyH_take (i := 2) (oi := ⟨some 20, _, _, _, _, _⟩) (v := ?_) rfl (by kernel_rfl) (by kernel_rfl) (by kernel_rfl) (fun _ _ _ h => h) (Or.inl ⟨by rfl, ?_⟩) (by assumption) ?_; rotate_left; (focus (intro w hSw; (try dsimp only at hSw); go_simp; (try with_reducible rfl))); (try simp only [Act.put, List.setIfInBounds_toArray, List.set_cons_zero, List.set_cons_succ])
  refine wpAnyH_take (i := 3) (oi := ⟨some 21, _, _, _, _, _⟩) (v := ?_) rfl (by kernel_rfl) (by kernel_rfl) (by kernel_rfl) (fun _ _ _ h => h) (Or.inl ⟨by rfl, ?_⟩) (by assumption) ?_; rotate_left; (focus (intro w hSw; (try dsimp only at hSw); go_simp; (try with_reducible rfl))); (try simp only [Act.put, List.setIfInBounds_toArray, List.set_cons_zero, List.set_cons_succ])
  refine wpAnyH_take (i := 4) (oi := ⟨some 22, _, _, _, _, _⟩) (v := ?_) rfl (by kernel_rfl) (by kernel_rfl) (by kernel_rfl) (fun _ _ _ h => h) (Or.inl ⟨by rfl, ?_⟩) (by assumption) ?_; rotate_left; (focus (intro w hSw; (try dsimp only at hSw); go_simp; (try with_reducible rfl))); (try simp only [Act.put, List.setIfInBounds_toArray, List.set_cons_zero, List.set_cons_succ])
  refine wpAnyH_take (i := 5) (oi := ⟨some 23, _, _, _, _, _⟩) (v := ?_) rfl (by kernel_rfl) (by kernel_rfl) (by kernel_rfl) (fun _ _ _ h => h) (Or.inl ⟨by rfl, ?_⟩) (by assumption) ?_; rotate_left; (focus (intro w hSw; (try dsimp only at hSw); go_simp; (try with_reducible rfl))); (try simp only [Act.put, List.setIfInBounds_toArray, List.set_cons_zero, List.set_cons_succ])
  refine wpAnyH_take (i := 6) (oi := ⟨some 24, _, _, _, _, _⟩) (v := ?_) rfl (by kernel_rfl) (by kernel_rfl) (by kernel_rfl) (fun _ _ _ h => h) (Or.inl ⟨by rfl, ?_⟩) (by assumption) ?_; rotate_left; (focus (intro w hSw; (try dsimp only at hSw); go_simp; (try with_reducible rfl))); (try simp only [Act.put, List.setIfInBounds_toArray, List.set_cons_zero, List.set_cons_succ])
  refine wpAnyH_take (i := 7) (oi := ⟨some 25, _, _, _, _, _⟩) (v := ?_) rfl (by kernel_rfl) (by kernel_rfl) (by kernel_rfl) (fun _ _ _ h => h) (Or.inl ⟨by rfl, ?_⟩) (by assumption) ?_; rotate_left; (focus (intro w hSw; (try dsimp only at hSw); go_simp; (try with_reducible rfl))); (try simp only [Act.put, List.setIfInBounds_toArray, List.set_cons_zero, List.set_cons_succ])
  refine wpAnyH_take (i := 8) (oi := ⟨some 26, _, _, _, _, _⟩) (v := ?_) rfl (by kernel_rfl) (by kernel_rfl) (by kernel_rfl) (fun _ _ _ h => h) (Or.inl ⟨by rfl, ?_⟩) (by assumption) ?_; rotate_left; (focus (intro w hSw; (try dsimp only at hSw); go_simp; (try with_reducible rfl))); (try simp only [Act.put, List.setIfInBounds_toArray, List.set_cons_zero, List.set_cons_succ])
  refine wpAnyH_take (i := 9) (oi := ⟨some 27, _, _, _, _, _⟩) (v := ?_) rfl (by kernel_rfl) (by kernel_rfl) (by kernel_rfl) (fun _ _ _ h => h) (Or.inl ⟨by rfl, ?_⟩) (by assumption) ?_; rotate_left; (focus (intro w hSw; (try dsimp only at hSw); go_simp; (try with_reducible rfl))); (try simp only [Act.put, List.setIfInBounds_toArray, List.set_cons_zero, List.set_cons_succ])
  refine wpAnyH_take (i := 10) (oi := ⟨some 28, _, _, _, _, _⟩) (v := ?_) rfl (by kernel_rfl) (by kernel_rfl) (by kernel_rfl) (fun _ _ _ h => h) (Or.inl ⟨by rfl, ?_⟩) (by assumption) ?_; rotate_left; (focus (intro w hSw; (try dsimp only at hSw); go_simp; (try with_reducible rfl))); (try simp only [Act.put, List.setIfInBounds_toArray, List.set_cons_zero, List.set_cons_succ])
  refine wpAnyH_take (i := 11) (oi := ⟨some 29, _, _, _, _, _⟩) (v := ?_) rfl (by kernel_rfl) (by kernel_rfl) (by kernel_rfl) (fun _ _ _ h => h) (Or.inl ⟨by rfl, ?_⟩) (by assumption) ?_; rotate_left; (focus (intro w hSw; (try dsimp only at hSw); go_simp; (try with_reducible rfl))); (try simp only [Act.put, List.setIfInBounds_toArray, List.set_cons_zero, List.set_cons_succ])
  refine wpAnyH_take (i := 13) (oi := ⟨some 31, _, _, _, _, _⟩) (v := ?_) rfl (by kernel_rfl) (by kernel_rfl) (by kernel_rfl) (fun _ _ _ h => h) (Or.inl ⟨by rfl, ?_⟩) (by assumption) ?_; rotate_left; (focus (intro w hSw; (try dsimp only at hSw); go_simp; (try with_reducible rfl))); (try simp only [Act.put, List.setIfInBounds_toArray, List.set_cons_zero, List.set_cons_succ])
  refine wpAnyH_take (i := 14) (oi := ⟨some 32, _, _, _, _, _⟩) (v := ?_) rfl (by kernel_rfl) (by kernel_rfl) (by kernel_rfl) (fun _ _ _ h => h) (Or.inl ⟨by rfl, ?_⟩) (by assumption) ?_; rotate_left; (focus (intro w hSw; (try dsimp only at hSw); go_simp; (try with_reducible rfl))); (try simp only [Act.put, List.setIfInBounds_toArray, List.set_cons_zero, List.set_cons_succ])
  refine wpAnyH_take (i := 15) (oi := ⟨some 33, _, _, _, _, _⟩) (v := ?_) rfl (by kernel_rfl) (by kernel_rfl) (by kernel_rfl) (fun _ _ _ h => h) (Or.inl ⟨by rfl, ?_⟩) (by assumption) ?_; rotate_left; (focus (intro w hSw; (try dsimp only at hSw); go_simp; (try with_reducible rfl))); (try simp only [Act.put, List.setIfInBounds_toArray, List.set_cons_zero, List.set_cons_succ])
  refine wpAnyH_take (i := 16) (oi := ⟨some 34, _, _, _, _, _⟩) (v := ?_) rfl (by kernel_rfl) (by kernel_rfl) (by kernel_rfl) (fun _ _ _ h => h) (Or.inl ⟨by rfl, ?_⟩) (by assumption) ?_; rotate_left; (focus (intro w hSw; (try dsimp only at hSw); go_simp; (try with_reducible rfl))); (try simp only [Act.put, List.setIfInBounds_toArray, List.set_cons_zero, List.set_cons_succ])
  refine wpAnyH_ready (rs := [12]) (by kernel_rfl) (by simp) ?_; refine AllReadyH.cons (o := ⟨some 30, _, _, _, _, _⟩) rfl (fun K hK => ?_) AllReadyH.nil; go_simp
  go_at_call 93
  refine (pick_any g A1 n1 c1 ds _ k _ HR3.out.drew HNN.out hby hn2 (by omega) (by omega)).mono ?_
  rintro e w4 ⟨p1, rfl, hp1, _, hr4, ht4'⟩
  have ht4 : Tch g (g + 1) w3 w4 := ⟨ht4'.os, ht4'.tape, ht4'.output, ht4'.size, ht4'.block⟩
  have hz4 := ht4.size
  have HO4 := Lib.hid (HO3.out.turn ht4 (.inl (by omega)))
  have HC4 := Lib.hid (HC3.out.turn ht4 (.inl (by omega)))
  have HD4 := Lib.hid (HD3.out.turn ht4 (.inl (by omega)))
  have HG4 := Lib.hid (HG3.out.turn ht4 (.inl (by omega)))
  have HB4 := Lib.hid (HB3.out.turn ht4 (.inr (by omega)))
  have HL4x := Lib.hid (HL3x.out.trans (ht4.below (B := w.heap.size) (by omega) (by omega)))
  have HR4 := Lib.hid hr4
  have q4 := HG4.out.it
  clear hr4 ht4 ht4'
  clear HO3 HC3 HD3 HG3 HB3 HL3x HR3
  refine hK.out _ _ q4 (fun hHeld => ?_); clear hK K; (try simp only [Act.put, List.setIfInBounds_toArray, List.set_cons_zero, List.set_cons_succ])
  refine wpAnyH_ready (rs := [17]) (by kernel_rfl) (by simp) ?_; refine AllReadyH.cons (o := ⟨some 35, _, _, _, _, _⟩) rfl (fun K hK => ?_) AllReadyH.nil; go_simp
  go_at_call 93
  refine (pick_any g A1 n1 c1 ds _ k _ HR4.out HNN.out hby hn2 (by omega) (by omega)).mono ?_
  rintro e w5 ⟨p2, rfl, hp2, _, hr5, ht5⟩
  have hz5 := ht5.size
  have HO5 := Lib.hid (HO4.out.turn ht5 (.inl (by omega)))
  have HC5 := Lib.hid (HC4.out.turn ht5 (.inl (by omega)))
  have HD5 := Lib.hid (HD4.out.turn ht5 (.inl (by omega)))
  have HG5 := Lib.hid (HG4.out.turn ht5 (.inl (by omega)))
  have HB5 := Lib.hid (HB4.out.turn ht5 (.inr (by omega)))
  have HL5x := Lib.hid (HL4x.out.trans (ht5.below (B := w.heap.size) (by omega) (by omega)))
  have HR5 := Lib.hid hr5
  have q5 := HG5.out.it
  clear hr5 ht5
  clear HO4 HC4 HD4 HG4 HB4 HL4x HR4
  refine hK.out _ _ q5 (fun hHeld => ?_); clear hK K; (try simp only [Act.put, List.setIfInBounds_toArray, List.set_cons_zero, List.set_cons_succ])
  refine wpAnyH_ready (rs := [18]) (by kernel_rfl) (by simp) ?_; refine AllReadyH.cons (o := ⟨some 36, _, _, _, _, _⟩) rfl (fun K hK => ?_) AllReadyH.nil; go_simp
  obtain ⟨w6, hw6⟩ : ∃ w6, w6 = w5.alloc (.cells #[.int .i64 ((k : Int) - 1), .int .i64 p1, .int .i64 p2, .int .i64 (-1)] 3) := ⟨_, rfl⟩
  rw [← hw6]
  have hb6 : Below w5.heap.size w5 w6 := by rw [hw6]; exact (Below.refl _ _).alloc (Nat.le_refl _) _
  have hz6 : w6.heap.size = w5.heap.size + 1 := by rw [hw6]; simp
  have hl6 : ∀ j, j < 4 → w6.cell? ⟨w5.heap.size, 0 + j, none⟩ = some (.int .i64 (([(k : Int) - 1, (p1 : Int), (p2 : Int), -1] : List Int).getD j 0)) := by
      intro j hj
      have : j = 0 ∨ j = 1 ∨ j = 2 ∨ j = 3 := by omega
      rw [hw6]
      rcases this with rfl | rfl | rfl | rfl <;> go_simp
  have HO6 := Lib.hid (HO5.out.step hb6)
  have HC6 := Lib.hid (HC5.out.step hb6)
  have HD6 := Lib.hid (HD5.out.step hb6)
  have HG6 := Lib.hid (HG5.out.step hb6)
  have HB6 := Lib.hid (HB5.out.step hb6)
  have HR6 := Lib.hid (HR5.out.step hb6)
  have HL6x := Lib.hid (HL5x.out.trans (hb6.mono (by omega)))
  have HLL6 := Lib.hid hl6
  have q6 := HG6.out.it
  have hgw5 := HR5.out.lt
  have HZ6 := Lib.hid hz6
  clear hw6 hb6 hl6 hz6
  clear HO5 HC5 HD5 HG5 HB5 HL5x HR5
  refine hK.out _ _ q6 (fun hHeld => ?_); clear hK K; (try simp only [Act.put, List.setIfInBounds_toArray, List.set_cons_zero, List.set_cons_succ])
  refine wpAnyH_ready (rs := [19]) (by kernel_rfl) (by simp) ?_; refine AllReadyH.cons (o := ⟨some 37, _, _, _, _, _⟩) rfl (fun K hK => ?_) AllReadyH.nil; go_simp
  go_at_call 92
  refine (one_any g A1 n1 c1 ds _ w5.heap.size 0 4 4 [(k : Int) - 1, (p1 : Int), (p2 : Int), -1] w6 HR6.out HNN.out hby hn2 (by omega) rfl (by omega) (by omega) HLL6.out (by omega) (by have := HZ6.out; omega)).mono ?_
  rintro e w7 ⟨x, rfl, hxm, hr7, ht7⟩
  have hx9 : -1 ≤ x ∧ x ≤ 10 := by
      have h1 := pick_bd hp1 hk2
      have h2 := pick_bd hp2 hk2
      simp only [List.mem_cons, List.not_mem_nil, or_false] at hxm
      omega
  have hz7 := ht7.size
  have hz56 : w5.heap.size + 1 ≤ w6.heap.size := by have := HZ6.out; omega
  have HO7 := Lib.hid (HO6.out.turn ht7 (.inl (by omega)))
  have HC7 := Lib.hid (HC6.out.turn ht7 (.inl (by omega)))
  have HD7 := Lib.hid (HD6.out.turn ht7 (.inl (by omega)))
  have HG7 := Lib.hid (HG6.out.turn ht7 (.inl (by omega)))
  have HB7 := Lib.hid (HB6.out.turn ht7 (.inr (by omega)))
  have HL7x := Lib.hid (HL6x.out.trans (ht7.below (B := w.heap.size) (by omega) (by omega)))
  have q7 := HG7.out.it
  obtain ⟨r0, r1⟩ := HB7.out.it
  have q8 : (w7.setCell ⟨w.heap.size, 0, none⟩ (.slice (some ⟨gn, 0, none⟩) k cg)).cell? ⟨w2.heap.size, 0, none⟩ = some (.slice (some ⟨gn, 0, none⟩) k cg) := (World.cell?_setCell_other _ _ _ _ (by intro e; have := congrArg Addr.block e; simp at this; omega)).trans q7
  clear hr7 ht7 hxm
  clear HO6 HC6 HD6 HG6 HB6 HL6x HR6
  refine hK.out _ _ q7 (fun hHeld => ?_); clear hK K; (try simp only [Act.put, List.setIfInBounds_toArray, List.set_cons_zero, List.set_cons_succ])
  refine wpAnyH_ready (rs := [20]) (by kernel_rfl) (by simp) ?_; refine AllReadyH.cons (o := ⟨none, _, _, _, _, _⟩) rfl (fun K hK => ?_) AllReadyH.nil; go_simp
  refine hK.out _ _ q8 (fun hHeld => ?_); clear hK K; (try simp only [Act.put, List.setIfInBounds_toArray, List.set_cons_zero, List.set_cons_succ])
  refine wpAnyH_take (i := 21) (oi := ⟨some 3, _, _, _, _, _⟩) (v := ?_) rfl (by kernel_rfl) (by kernel_rfl) (by kernel_rfl) (fun _ _ _ h => h) (Or.inl ⟨by rfl, ?_⟩) (by assumption) ?_; rotate_left; (focus (intro w hSw; (try dsimp only at hSw); go_simp; (try with_reducible rfl))); (try simp only [Act.put, List.setIfInBounds_toArray, List.set_cons_zero, List.set_cons_succ])
  refine wpAnyH_take (i := 22) (oi := ⟨some 4, _, _, _, _, _⟩) (v := ?_) rfl (by kernel_rfl) (by kernel_rfl) (by kernel_rfl) (fun _ _ _ h => h) (Or.inl ⟨by rfl, ?_⟩) (by assumption) ?_; rotate_left; (focus (intro w hSw; (try dsimp only at hSw); go_simp; (try with_reducible rfl))); (try simp only [Act.put, List.setIfInBounds_toArray, List.set_cons_zero, List.set_cons_succ])
  refine wpAnyH_take (i := 23) (oi := ⟨some 5, _, _, _, _, _⟩) (v := ?_) rfl (by kernel_rfl) (by kernel_rfl) (by kernel_rfl) (fun _ _ _ h => h) (Or.inl ⟨by rfl, ?_⟩) (by assumption) ?_; rotate_left; (focus (intro w hSw; (try dsimp only at hSw); go_simp; (try with_reducible rfl))); (try simp only [Act.put, List.setIfInBounds_toArray, List.set_cons_zero, List.set_cons_succ])
  refine wpAnyH_done (by kernel_rfl) ?_ _
  have r2 : (w7.setCell ⟨w.heap.size, 0, none⟩ (.slice (some ⟨gn, 0, none⟩) k cg)).cell? ⟨w.heap.size, 0, none⟩ = some (.slice (some ⟨gn, 0, none⟩) k cg) := World.cell?_setCell_same _ _ _ r0
  go_wp2
  refine bodyPost_ret (v := .tuple #[.agg #[.slice (some ⟨gn, 0, none⟩) k cg], .slice E5 l5 c5, .slice E6 l6 c6, .int .i64 x]) (by simp [results, Try.results50, go_sem, r2]) rfl ?_
  have h3 : OwG w1.heap.size w2.heap.size (.slice (some ⟨gn, 0, none⟩) k cg) k gs (w7.setCell ⟨w.heap.size, 0, none⟩ (.slice (some ⟨gn, 0, none⟩) k cg)) := OwG.loc _ _ _ _ _ _ _ HO7.out.it fun b x y => Below.heap_setCell _ _ _ _ (by show b ≠ w.heap.size; omega)
  have h4 := own_keep HC7.out.it.1 (w' := (w7.setCell ⟨w.heap.size, 0, none⟩ (.slice (some ⟨gn, 0, none⟩) k cg))) fun b x y => Below.heap_setCell _ _ _ _ (by show b ≠ w.heap.size; omega)
  have h5 := own_keep HD7.out.it.1 (w' := (w7.setCell ⟨w.heap.size, 0, none⟩ (.slice (some ⟨gn, 0, none⟩) k cg))) fun b x y => Below.heap_setCell _ _ _ _ (by show b ≠ w.heap.size; omega)
  exact ⟨_, k, cg, gs, E5, l5, c5, xs, E6, l6, c6, ys, x, rfl, h3.1, hk2, hk10, h3.ncap, hsm, HL5.out, hx1, hx2, HL6.out, hy1', hy2', hx9.1, hx9.2, h3.nodes.more (by simp [World.setCell]; omega), IS.of_own h4, IS.of_own h5, below_set0 HL7x.out _⟩
end Go.Proofs.Ytdhjflhpenkchaa
