/- What the laws on ways in graphs draw. (Made by r18.py.) -/
import Derived.Test.YtdhjflhpenkchaaH2
import Derived.Test.YtdhjflhpenkchaaR8
import Derived.Test.YtdhjflhpenkchaaD17

namespace Go.Proofs.Ytdhjflhpenkchaa
set_option linter.unusedSimpArgs false
set_option linter.unusedVariables false
open Go.RowKit

/-- Returns a graph that lies in memory, and a number. -/
def DrGI (w : World) (e : Ending) (w' : World) : Prop :=
  ∃ (A : Option Addr) (n c : Nat) (gs : List Nd) (x : Int), e = .returned (.tuple #[.agg #[.slice A n c], .int .i64 x]) ∧ n = gs.length ∧ 2 ≤ n ∧ n ≤ 10 ∧ n ≤ c ∧ (∀ j, (gs.getD j default).ps.length ≤ 40) ∧ -1 ≤ x ∧ x ≤ 10 ∧ GS w' w'.heap.size A gs ∧ Below w.heap.size w w'

set_option maxHeartbeats 1600000 in
theorem spec_DrawWatchedOf (A : Option Addr) (n c : Nat) (bs : List Int) (w : World) (hn : n = bs.length) (hnc : n ≤ c) (h : BS w w.heap.size A bs) (hy : BY bs) (hs : n ≤ 1048576) :
    Calls Try.prog 29 #[.slice A n c] w fun e w' => DrG w e w' := by
  have h1 : BS (w.alloc (.cells #[.slice none 0 0] 25)) w.heap.size A bs := h.keep fun p hp => World.cell?_alloc_lt w _ p (by omega)
  have HC := Lib.hid (spec_newReader A n c bs _ w.heap.size (by simp) hn hnc h1 hy hs)
  clear hn hnc h h1 hy hs
  go_enter Try.func29, Try.ntmps29
  go_wp2_with fail
  refine HC.out.mono ?_
  rintro e w1 ⟨g, A1, n1, c1, ds, rfl, hn1, hn2, hy1, hr, hg, hb⟩
  have q0 : w1.cell? ⟨w.heap.size, 0, none⟩ = some (.slice none 0 0) := (hb.cell (p := ⟨w.heap.size, 0, none⟩) (by simp)).trans (by go_simp)
  have f0 : w1.frozen? ⟨w.heap.size, 0, none⟩ = false := (hb.frozen (p := ⟨w.heap.size, 0, none⟩) (by simp)).trans (by go_simp)
  have hl1 : w.heap.size < w1.heap.size := by have := hb.size; simp at this; omega
  have hgw : w.heap.size < g := by simp at hg; omega
  have HB1 := Lib.hid (((Below.refl w.heap.size w).alloc (Nat.le_refl _) (.cells #[.slice none 0 0] 25)).trans (hb.mono (by simp)))
  have HS := Lib.hid (someGraph_any g A1 n1 c1 ds 0 w1 hr hn1 hy1 hn2 (by omega))
  clear hn1 hr hb HC hy1
  go_wp2_with fail
  refine HS.out.mono ?_
  rintro e w2 ⟨V, k, gs, rfl, hk2, hk10, hsm, ho, _, ht⟩
  obtain ⟨A2, c2, rfl⟩ := ho.form
  have q1 := (World.cell?_of_block (a := ⟨w.heap.size, 0, none⟩) (ht.block w.heap.size hl1 (.inl hgw))).trans q0
  have f1 := (World.frozen?_of_block (a := ⟨w.heap.size, 0, none⟩) (ht.block w.heap.size hl1 (.inl hgw))).trans f0
  have hl2 : w.heap.size < w2.heap.size := Nat.lt_of_lt_of_le hl1 ht.size
  have HB2 := Lib.hid (HB1.out.trans (ht.below (B := w.heap.size) (by omega) (by omega)))
  have HO := Lib.hid ho
  clear ho ht q0 f0
  go_wp2
  refine bodyPost_ret (v := .agg #[.slice A2 k c2]) (by simp [results, Try.results29, go_sem, q1]) rfl ?_
  have h3 : OwG w1.heap.size w2.heap.size (.slice A2 k c2) k gs (w2.setCell ⟨w.heap.size, 0, none⟩ (.slice A2 k c2)) := OwG.loc _ _ _ _ _ _ _ HO.out fun b x y => Below.heap_setCell _ _ _ _ (by show b ≠ w.heap.size; omega)
  exact ⟨A2, k, c2, gs, rfl, h3.1, hk2, hk10, h3.ncap, hsm, h3.nodes.more (by simp [World.setCell]), below_set0 HB2.out _⟩

set_option maxHeartbeats 1600000 in
theorem spec_DrawUsersOf (A : Option Addr) (n c : Nat) (bs : List Int) (w : World) (hn : n = bs.length) (hnc : n ≤ c) (h : BS w w.heap.size A bs) (hy : BY bs) (hs : n ≤ 1048576) :
    Calls Try.prog 13 #[.slice A n c] w fun e w' => DrGI w e w' := by
  have h1 : BS (w.alloc (.cells #[.slice none 0 0] 25)) w.heap.size A bs := h.keep fun p hp => World.cell?_alloc_lt w _ p (by omega)
  have HC := Lib.hid (spec_newReader A n c bs _ w.heap.size (by simp) hn hnc h1 hy hs)
  clear hn hnc h h1 hy hs
  go_enter Try.func13, Try.ntmps13
  go_wp2_with fail
  refine HC.out.mono ?_
  rintro e w1 ⟨g, A1, n1, c1, ds, rfl, hn1, hn2, hy1, hr, hg, hb⟩
  have q0 : w1.cell? ⟨w.heap.size, 0, none⟩ = some (.slice none 0 0) := (hb.cell (p := ⟨w.heap.size, 0, none⟩) (by simp)).trans (by go_simp)
  have f0 : w1.frozen? ⟨w.heap.size, 0, none⟩ = false := (hb.frozen (p := ⟨w.heap.size, 0, none⟩) (by simp)).trans (by go_simp)
  have hl1 : w.heap.size < w1.heap.size := by have := hb.size; simp at this; omega
  have hgw : w.heap.size < g := by simp at hg; omega
  have HB1 := Lib.hid (((Below.refl w.heap.size w).alloc (Nat.le_refl _) (.cells #[.slice none 0 0] 25)).trans (hb.mono (by simp)))
  have HS := Lib.hid (nodeOf_any g A1 n1 c1 ds 0 w1 hr hn1 hy1 hn2 (by omega))
  clear hn1 hr hb HC hy1
  go_wp2_with fail
  refine HS.out.mono ?_
  rintro e w2 ⟨V, k, gs, x, rfl, hk2, hk10, hsm, hx1, hx2, ho, _, ht⟩
  obtain ⟨A2, c2, rfl⟩ := ho.form
  have q1 := (World.cell?_of_block (a := ⟨w.heap.size, 0, none⟩) (ht.block w.heap.size hl1 (.inl hgw))).trans q0
  have f1 := (World.frozen?_of_block (a := ⟨w.heap.size, 0, none⟩) (ht.block w.heap.size hl1 (.inl hgw))).trans f0
  have hl2 : w.heap.size < w2.heap.size := Nat.lt_of_lt_of_le hl1 ht.size
  have HB2 := Lib.hid (HB1.out.trans (ht.below (B := w.heap.size) (by omega) (by omega)))
  have HO := Lib.hid ho
  clear ho ht q0 f0
  go_wp2
  refine bodyPost_ret (v := .tuple #[.agg #[.slice A2 k c2], .int .i64 x]) (by simp [results, Try.results13, go_sem, q1]) rfl ?_
  have h3 : OwG w1.heap.size w2.heap.size (.slice A2 k c2) k gs (w2.setCell ⟨w.heap.size, 0, none⟩ (.slice A2 k c2)) := OwG.loc _ _ _ _ _ _ _ HO.out fun b x y => Below.heap_setCell _ _ _ _ (by show b ≠ w.heap.size; omega)
  exact ⟨A2, k, c2, gs, x, rfl, h3.1, hk2, hk10, h3.ncap, hsm, hx1, hx2, h3.nodes.more (by simp [World.setCell]), below_set0 HB2.out _⟩

set_option maxHeartbeats 1600000 in
theorem spec_DrawReachOf (A : Option Addr) (n c : Nat) (bs : List Int) (w : World) (hn : n = bs.length) (hnc : n ≤ c) (h : BS w w.heap.size A bs) (hy : BY bs) (hs : n ≤ 1048576) :
    Calls Try.prog 21 #[.slice A n c] w fun e w' => DrGI w e w' := by
  have h1 : BS (w.alloc (.cells #[.slice none 0 0] 25)) w.heap.size A bs := h.keep fun p hp => World.cell?_alloc_lt w _ p (by omega)
  have HC := Lib.hid (spec_newReader A n c bs _ w.heap.size (by simp) hn hnc h1 hy hs)
  clear hn hnc h h1 hy hs
  go_enter Try.func21, Try.ntmps21
  go_wp2_with fail
  refine HC.out.mono ?_
  rintro e w1 ⟨g, A1, n1, c1, ds, rfl, hn1, hn2, hy1, hr, hg, hb⟩
  have q0 : w1.cell? ⟨w.heap.size, 0, none⟩ = some (.slice none 0 0) := (hb.cell (p := ⟨w.heap.size, 0, none⟩) (by simp)).trans (by go_simp)
  have f0 : w1.frozen? ⟨w.heap.size, 0, none⟩ = false := (hb.frozen (p := ⟨w.heap.size, 0, none⟩) (by simp)).trans (by go_simp)
  have hl1 : w.heap.size < w1.heap.size := by have := hb.size; simp at this; omega
  have hgw : w.heap.size < g := by simp at hg; omega
  have HB1 := Lib.hid (((Below.refl w.heap.size w).alloc (Nat.le_refl _) (.cells #[.slice none 0 0] 25)).trans (hb.mono (by simp)))
  have HS := Lib.hid (nodeOf_any g A1 n1 c1 ds 0 w1 hr hn1 hy1 hn2 (by omega))
  clear hn1 hr hb HC hy1
  go_wp2_with fail
  refine HS.out.mono ?_
  rintro e w2 ⟨V, k, gs, x, rfl, hk2, hk10, hsm, hx1, hx2, ho, _, ht⟩
  obtain ⟨A2, c2, rfl⟩ := ho.form
  have q1 := (World.cell?_of_block (a := ⟨w.heap.size, 0, none⟩) (ht.block w.heap.size hl1 (.inl hgw))).trans q0
  have f1 := (World.frozen?_of_block (a := ⟨w.heap.size, 0, none⟩) (ht.block w.heap.size hl1 (.inl hgw))).trans f0
  have hl2 : w.heap.size < w2.heap.size := Nat.lt_of_lt_of_le hl1 ht.size
  have HB2 := Lib.hid (HB1.out.trans (ht.below (B := w.heap.size) (by omega) (by omega)))
  have HO := Lib.hid ho
  clear ho ht q0 f0
  go_wp2
  refine bodyPost_ret (v := .tuple #[.agg #[.slice A2 k c2], .int .i64 x]) (by simp [results, Try.results21, go_sem, q1]) rfl ?_
  have h3 : OwG w1.heap.size w2.heap.size (.slice A2 k c2) k gs (w2.setCell ⟨w.heap.size, 0, none⟩ (.slice A2 k c2)) := OwG.loc _ _ _ _ _ _ _ HO.out fun b x y => Below.heap_setCell _ _ _ _ (by show b ≠ w.heap.size; omega)
  exact ⟨A2, k, c2, gs, x, rfl, h3.1, hk2, hk10, h3.ncap, hsm, hx1, hx2, h3.nodes.more (by simp [World.setCell]), below_set0 HB2.out _⟩

set_option maxHeartbeats 1600000 in
theorem spec_DrawNeedOf (A : Option Addr) (n c : Nat) (bs : List Int) (w : World) (hn : n = bs.length) (hnc : n ≤ c) (h : BS w w.heap.size A bs) (hy : BY bs) (hs : n ≤ 1048576) :
    Calls Try.prog 26 #[.slice A n c] w fun e w' => DrGI w e w' := by
  have h1 : BS (w.alloc (.cells #[.slice none 0 0] 25)) w.heap.size A bs := h.keep fun p hp => World.cell?_alloc_lt w _ p (by omega)
  have HC := Lib.hid (spec_newReader A n c bs _ w.heap.size (by simp) hn hnc h1 hy hs)
  clear hn hnc h h1 hy hs
  go_enter Try.func26, Try.ntmps26
  go_wp2_with fail
  refine HC.out.mono ?_
  rintro e w1 ⟨g, A1, n1, c1, ds, rfl, hn1, hn2, hy1, hr, hg, hb⟩
  have q0 : w1.cell? ⟨w.heap.size, 0, none⟩ = some (.slice none 0 0) := (hb.cell (p := ⟨w.heap.size, 0, none⟩) (by simp)).trans (by go_simp)
  have f0 : w1.frozen? ⟨w.heap.size, 0, none⟩ = false := (hb.frozen (p := ⟨w.heap.size, 0, none⟩) (by simp)).trans (by go_simp)
  have hl1 : w.heap.size < w1.heap.size := by have := hb.size; simp at this; omega
  have hgw : w.heap.size < g := by simp at hg; omega
  have HB1 := Lib.hid (((Below.refl w.heap.size w).alloc (Nat.le_refl _) (.cells #[.slice none 0 0] 25)).trans (hb.mono (by simp)))
  have HS := Lib.hid (nodeOf_any g A1 n1 c1 ds 0 w1 hr hn1 hy1 hn2 (by omega))
  clear hn1 hr hb HC hy1
  go_wp2_with fail
  refine HS.out.mono ?_
  rintro e w2 ⟨V, k, gs, x, rfl, hk2, hk10, hsm, hx1, hx2, ho, _, ht⟩
  obtain ⟨A2, c2, rfl⟩ := ho.form
  have q1 := (World.cell?_of_block (a := ⟨w.heap.size, 0, none⟩) (ht.block w.heap.size hl1 (.inl hgw))).trans q0
  have f1 := (World.frozen?_of_block (a := ⟨w.heap.size, 0, none⟩) (ht.block w.heap.size hl1 (.inl hgw))).trans f0
  have hl2 : w.heap.size < w2.heap.size := Nat.lt_of_lt_of_le hl1 ht.size
  have HB2 := Lib.hid (HB1.out.trans (ht.below (B := w.heap.size) (by omega) (by omega)))
  have HO := Lib.hid ho
  clear ho ht q0 f0
  go_wp2
  refine bodyPost_ret (v := .tuple #[.agg #[.slice A2 k c2], .int .i64 x]) (by simp [results, Try.results26, go_sem, q1]) rfl ?_
  have h3 : OwG w1.heap.size w2.heap.size (.slice A2 k c2) k gs (w2.setCell ⟨w.heap.size, 0, none⟩ (.slice A2 k c2)) := OwG.loc _ _ _ _ _ _ _ HO.out fun b x y => Below.heap_setCell _ _ _ _ (by show b ≠ w.heap.size; omega)
  exact ⟨A2, k, c2, gs, x, rfl, h3.1, hk2, hk10, h3.ncap, hsm, hx1, hx2, h3.nodes.more (by simp [World.setCell]), below_set0 HB2.out _⟩

end Go.Proofs.Ytdhjflhpenkchaa
