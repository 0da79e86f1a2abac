/- What the laws of promises on graphs draw: a graph, a graph and cells. -/
import Derived.Test.YtdhjflhpenkchaaD10
import Derived.Test.YtdhjflhpenkchaaH2

namespace Go.Proofs.Ytdhjflhpenkchaa
set_option linter.unusedSimpArgs false
set_option linter.unusedVariables false
open Go.RowKit

/-- Returns a graph that lies in memory. -/
def DrG (w : World) (e : Ending) (w' : World) : Prop :=
  ∃ (A : Option Addr) (n c : Nat) (gs : List Nd), e = .returned (.agg #[.slice A n c]) ∧ n = gs.length ∧ 2 ≤ n ∧ n ≤ 10 ∧ n ≤ c ∧ (∀ j, (gs.getD j default).ps.length ≤ 40) ∧ GS w' w'.heap.size A gs ∧ Below w.heap.size w w'
/-- Returns a graph and cells that lie in memory. -/
def DrGC (w : World) (e : Ending) (w' : World) : Prop :=
  ∃ (A : Option Addr) (n c : Nat) (gs : List Nd) (E : Option Addr) (m d : Nat) (xs : List Int), e = .returned (.tuple #[.agg #[.slice A n c], .slice E m d]) ∧ n = gs.length ∧ 2 ≤ n ∧ n ≤ 10 ∧ n ≤ c ∧ (∀ j, (gs.getD j default).ps.length ≤ 40) ∧ m = xs.length ∧ n ≤ m ∧ m ≤ n + 1 ∧ m ≤ d ∧ GS w' w'.heap.size A gs ∧ IS w' w'.heap.size E xs ∧ Below w.heap.size w w'
theorem GB.of_drawn {gs : List Nd} (h : gs.length ≤ 10) (h' : ∀ j, (gs.getD j default).ps.length ≤ 40) : GB gs := ⟨by omega, fun j => by have := h' j; omega⟩
theorem own_ncap {w : World} {lo e size n c : Nat} {A : Option Addr} {xs : List Value} (h : w.ownsRow lo e size (.slice A n c) n xs) : n ≤ c := by
  rcases h.2 with ⟨hv, hz⟩ | ⟨g, cap, cur, hv, _, _, h2, _⟩
  · omega
  · simp only [Value.slice.injEq] at hv
    omega
theorem below_set0 {w w' : World} (h : Below w.heap.size w w') (v : Value) : Below w.heap.size w (w'.setCell ⟨w.heap.size, 0, none⟩ v) := h.setCell (Nat.le_refl _) _

set_option maxHeartbeats 1600000 in
theorem spec_DrawHeightsOf (A : Option Addr) (n c : Nat) (bs : List Int) (w : World) (hn : n = bs.length) (hnc : n ≤ c) (h : BS w w.heap.size A bs) (hy : BY bs) (hs : n ≤ 1048576) :
    Calls Try.prog 32 #[.slice A n c] w fun e w' => DrG w e w' := by
  have h1 : BS (w.alloc (.cells #[.slice none 0 0] 25)) w.heap.size A bs := h.keep fun p hp => World.cell?_alloc_lt w _ p (by omega)
  have HC := Lib.hid (spec_newReader A n c bs _ w.heap.size (by simp) hn hnc h1 hy hs)
  clear hn hnc h h1 hy hs
  go_enter Try.func32, Try.ntmps32
  go_wp2_with fail
  refine HC.out.mono ?_
  rintro e w1 ⟨g, A1, n1, c1, ds, rfl, hn1, hn2, hy1, hr, hg, hb⟩
  have q0 : w1.cell? ⟨w.heap.size, 0, none⟩ = some (.slice none 0 0) := (hb.cell (p := ⟨w.heap.size, 0, none⟩) (by simp)).trans (by go_simp)
  have f0 : w1.frozen? ⟨w.heap.size, 0, none⟩ = false := (hb.frozen (p := ⟨w.heap.size, 0, none⟩) (by simp)).trans (by go_simp)
  have hl1 : w.heap.size < w1.heap.size := by have := hb.size; simp at this; omega
  have hgw : w.heap.size < g := by simp at hg; omega
  have HB1 := Lib.hid (((Below.refl w.heap.size w).alloc (Nat.le_refl _) (.cells #[.slice none 0 0] 25)).trans (hb.mono (by simp)))
  have HS := Lib.hid (someGraph_any g A1 n1 c1 ds 0 w1 hr hn1 hy1 hn2 (by omega))
  clear hn1 hr hb HC hy1
  go_wp2_with fail
  refine HS.out.mono ?_
  rintro e w2 ⟨V, k, gs, rfl, hk2, hk10, hsm, ho, _, ht⟩
  obtain ⟨A2, c2, rfl⟩ := ho.form
  have q1 := (World.cell?_of_block (a := ⟨w.heap.size, 0, none⟩) (ht.block w.heap.size hl1 (.inl hgw))).trans q0
  have f1 := (World.frozen?_of_block (a := ⟨w.heap.size, 0, none⟩) (ht.block w.heap.size hl1 (.inl hgw))).trans f0
  have hl2 : w.heap.size < w2.heap.size := Nat.lt_of_lt_of_le hl1 ht.size
  have HB2 := Lib.hid (HB1.out.trans (ht.below (B := w.heap.size) (by omega) (by omega)))
  have HO := Lib.hid ho
  clear ho ht q0 f0
  go_wp2
  refine bodyPost_ret (v := .agg #[.slice A2 k c2]) (by simp [results, Try.results32, go_sem, q1]) rfl ?_
  have h3 : OwG w1.heap.size w2.heap.size (.slice A2 k c2) k gs (w2.setCell ⟨w.heap.size, 0, none⟩ (.slice A2 k c2)) := OwG.loc _ _ _ _ _ _ _ HO.out fun b x y => Below.heap_setCell _ _ _ _ (by show b ≠ w.heap.size; omega)
  exact ⟨A2, k, c2, gs, rfl, h3.1, hk2, hk10, h3.ncap, hsm, h3.nodes.more (by simp [World.setCell]), below_set0 HB2.out _⟩

set_option maxHeartbeats 1600000 in
theorem spec_DrawMeaningOf (A : Option Addr) (n c : Nat) (bs : List Int) (w : World) (hn : n = bs.length) (hnc : n ≤ c) (h : BS w w.heap.size A bs) (hy : BY bs) (hs : n ≤ 1048576) :
    Calls Try.prog 45 #[.slice A n c] w fun e w' => DrGC w e w' := by
  have h1 : BS (w.alloc (.cells #[.slice none 0 0] 25)) w.heap.size A bs := h.keep fun p hp => World.cell?_alloc_lt w _ p (by omega)
  have HC := Lib.hid (spec_newReader A n c bs _ w.heap.size (by simp) hn hnc h1 hy hs)
  clear hn hnc h h1 hy hs
  go_enter Try.func45, Try.ntmps45
  go_wp2_with fail
  refine HC.out.mono ?_
  rintro e w1 ⟨g, A1, n1, c1, ds, rfl, hn1, hn2, hy1, hr, hg, hb⟩
  have q0 : w1.cell? ⟨w.heap.size, 0, none⟩ = some (.slice none 0 0) := (hb.cell (p := ⟨w.heap.size, 0, none⟩) (by simp)).trans (by go_simp)
  have f0 : w1.frozen? ⟨w.heap.size, 0, none⟩ = false := (hb.frozen (p := ⟨w.heap.size, 0, none⟩) (by simp)).trans (by go_simp)
  have hl1 : w.heap.size < w1.heap.size := by have := hb.size; simp at this; omega
  have hgw : w.heap.size < g := by simp at hg; omega
  have HB1 := Lib.hid (((Below.refl w.heap.size w).alloc (Nat.le_refl _) (.cells #[.slice none 0 0] 25)).trans (hb.mono (by simp)))
  have HS := Lib.hid (graphOf_any g A1 n1 c1 ds 0 w1 hr hn1 hy1 hn2 (by omega))
  clear hn1 hr hb HC hy1
  go_wp2_with fail
  refine HS.out.mono ?_
  rintro e w2 ⟨V, k, gs, v3, xs, rfl, hk2, hk10, hsm, hx1, hx2, ho, ho3, _, ht⟩
  obtain ⟨A2, c2, rfl⟩ := ho.form
  obtain ⟨A3, c3, rfl, _⟩ := OwnI.form ho3
  unfold OwnI at ho3
  have q1 := (World.cell?_of_block (a := ⟨w.heap.size, 0, none⟩) (ht.block w.heap.size hl1 (.inl hgw))).trans q0
  have f1 := (World.frozen?_of_block (a := ⟨w.heap.size, 0, none⟩) (ht.block w.heap.size hl1 (.inl hgw))).trans f0
  have hl2 : w.heap.size < w2.heap.size := Nat.lt_of_lt_of_le hl1 ht.size
  have HB2 := Lib.hid (HB1.out.trans (ht.below (B := w.heap.size) (by omega) (by omega)))
  have HO := Lib.hid ho
  have HO3 := Lib.hid ho3
  clear ho ht q0 f0 ho3
  go_wp2
  refine bodyPost_ret (v := .tuple #[.agg #[.slice A2 k c2], .slice A3 xs.length c3]) (by simp [results, Try.results45, go_sem, q1]) rfl ?_
  have h3 : OwG w1.heap.size w2.heap.size (.slice A2 k c2) k gs (w2.setCell ⟨w.heap.size, 0, none⟩ (.slice A2 k c2)) := OwG.loc _ _ _ _ _ _ _ HO.out fun b x y => Below.heap_setCell _ _ _ _ (by show b ≠ w.heap.size; omega)
  have h4 : (w2.setCell ⟨w.heap.size, 0, none⟩ (.slice A2 k c2)).ownsRow w1.heap.size 3 1 (.slice A3 xs.length c3) xs.length (xs.map (Value.int .i64)) := own_keep HO3.out fun b x y => Below.heap_setCell _ _ _ _ (by show b ≠ w.heap.size; omega)
  exact ⟨A2, k, c2, gs, A3, xs.length, c3, xs, rfl, h3.1, hk2, hk10, h3.ncap, hsm, rfl, hx1, hx2, own_ncap h4, h3.nodes.more (by simp [World.setCell]), IS.of_own h4, below_set0 HB2.out _⟩

set_option maxHeartbeats 1600000 in
theorem spec_DrawDepsOf (A : Option Addr) (n c : Nat) (bs : List Int) (w : World) (hn : n = bs.length) (hnc : n ≤ c) (h : BS w w.heap.size A bs) (hy : BY bs) (hs : n ≤ 1048576) :
    Calls Try.prog 35 #[.slice A n c] w fun e w' => DrGC w e w' := by
  have h1 : BS (w.alloc (.cells #[.slice none 0 0] 25)) w.heap.size A bs := h.keep fun p hp => World.cell?_alloc_lt w _ p (by omega)
  have HC := Lib.hid (spec_newReader A n c bs _ w.heap.size (by simp) hn hnc h1 hy hs)
  clear hn hnc h h1 hy hs
  go_enter Try.func35, Try.ntmps35
  go_wp2_with fail
  refine HC.out.mono ?_
  rintro e w1 ⟨g, A1, n1, c1, ds, rfl, hn1, hn2, hy1, hr, hg, hb⟩
  have q0 : w1.cell? ⟨w.heap.size, 0, none⟩ = some (.slice none 0 0) := (hb.cell (p := ⟨w.heap.size, 0, none⟩) (by simp)).trans (by go_simp)
  have f0 : w1.frozen? ⟨w.heap.size, 0, none⟩ = false := (hb.frozen (p := ⟨w.heap.size, 0, none⟩) (by simp)).trans (by go_simp)
  have hl1 : w.heap.size < w1.heap.size := by have := hb.size; simp at this; omega
  have hgw : w.heap.size < g := by simp at hg; omega
  have HB1 := Lib.hid (((Below.refl w.heap.size w).alloc (Nat.le_refl _) (.cells #[.slice none 0 0] 25)).trans (hb.mono (by simp)))
  have HS := Lib.hid (graphOf_any g A1 n1 c1 ds 0 w1 hr hn1 hy1 hn2 (by omega))
  clear hn1 hr hb HC hy1
  go_wp2_with fail
  refine HS.out.mono ?_
  rintro e w2 ⟨V, k, gs, v3, xs, rfl, hk2, hk10, hsm, hx1, hx2, ho, ho3, _, ht⟩
  obtain ⟨A2, c2, rfl⟩ := ho.form
  obtain ⟨A3, c3, rfl, _⟩ := OwnI.form ho3
  unfold OwnI at ho3
  have q1 := (World.cell?_of_block (a := ⟨w.heap.size, 0, none⟩) (ht.block w.heap.size hl1 (.inl hgw))).trans q0
  have f1 := (World.frozen?_of_block (a := ⟨w.heap.size, 0, none⟩) (ht.block w.heap.size hl1 (.inl hgw))).trans f0
  have hl2 : w.heap.size < w2.heap.size := Nat.lt_of_lt_of_le hl1 ht.size
  have HB2 := Lib.hid (HB1.out.trans (ht.below (B := w.heap.size) (by omega) (by omega)))
  have HO := Lib.hid ho
  have HO3 := Lib.hid ho3
  clear ho ht q0 f0 ho3
  go_wp2
  refine bodyPost_ret (v := .tuple #[.agg #[.slice A2 k c2], .slice A3 xs.length c3]) (by simp [results, Try.results35, go_sem, q1]) rfl ?_
  have h3 : OwG w1.heap.size w2.heap.size (.slice A2 k c2) k gs (w2.setCell ⟨w.heap.size, 0, none⟩ (.slice A2 k c2)) := OwG.loc _ _ _ _ _ _ _ HO.out fun b x y => Below.heap_setCell _ _ _ _ (by show b ≠ w.heap.size; omega)
  have h4 : (w2.setCell ⟨w.heap.size, 0, none⟩ (.slice A2 k c2)).ownsRow w1.heap.size 3 1 (.slice A3 xs.length c3) xs.length (xs.map (Value.int .i64)) := own_keep HO3.out fun b x y => Below.heap_setCell _ _ _ _ (by show b ≠ w.heap.size; omega)
  exact ⟨A2, k, c2, gs, A3, xs.length, c3, xs, rfl, h3.1, hk2, hk10, h3.ncap, hsm, rfl, hx1, hx2, own_ncap h4, h3.nodes.more (by simp [World.setCell]), IS.of_own h4, below_set0 HB2.out _⟩

end Go.Proofs.Ytdhjflhpenkchaa
