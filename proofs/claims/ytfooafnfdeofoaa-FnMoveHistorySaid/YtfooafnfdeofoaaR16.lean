/- What the histories' laws draw. (Made by r16.py.) -/
import Derived.Test.YtfooafnfdeofoaaD16
import Derived.Test.YtfooafnfdeofoaaH3

namespace Go.Proofs.Ytfooafnfdeofoaa
set_option linter.unusedSimpArgs false
set_option linter.unusedVariables false
open Go.RowKit

/-- Returns a graph and cells that lie in memory. -/
def DrHC (w : World) (e : Ending) (w' : World) : Prop :=
  ∃ (A : Option Addr) (n c : Nat) (gs : List Nd) (E : Option Addr) (m d : Nat) (xs : List Int), e = .returned (.tuple #[.agg #[.slice A n c], .slice E m d]) ∧ n = gs.length ∧ 2 ≤ n ∧ n ≤ 10 ∧ n ≤ c ∧ (∀ j, (gs.getD j default).ps.length ≤ 40) ∧ m = xs.length ∧ n ≤ m ∧ m ≤ n + 1 ∧ m ≤ d ∧ GS w' w'.heap.size A gs ∧ IS w' w'.heap.size E xs ∧ Below w.heap.size w w'
theorem below_set0H {w w' : World} (h : Below w.heap.size w w') (v : Value) : Below w.heap.size w (w'.setCell ⟨w.heap.size, 0, none⟩ v) := h.setCell (Nat.le_refl _) _
theorem GB.of_drawnH {gs : List Nd} (h : gs.length ≤ 10) (h' : ∀ j, (gs.getD j default).ps.length ≤ 40) : GB gs := ⟨by omega, fun j => by have := h' j; omega⟩

set_option maxHeartbeats 1600000 in
theorem spec_DrawNewHistory (A : Option Addr) (n c : Nat) (bs : List Int) (w : World) (hn : n = bs.length) (hnc : n ≤ c) (h : BS w w.heap.size A bs) (hy : BY bs) (hs : n ≤ 1048576) :
    Calls Try.prog 11 #[.slice A n c] w fun e w' => DrHC w e w' := by
  have h1 : BS (w.alloc (.cells #[.slice none 0 0] 25)) w.heap.size A bs := h.keep fun p hp => World.cell?_alloc_lt w _ p (by omega)
  have HC := Lib.hid (spec_newReader A n c bs _ w.heap.size (by simp) hn hnc h1 hy hs)
  clear hn hnc h h1 hy hs
  go_enter Try.func11, Try.ntmps11
  go_wp2_with fail
  refine HC.out.mono ?_
  rintro e w1 ⟨g, A1, n1, c1, ds, rfl, hn1, hn2, hy1, hr, hg, hb⟩
  have q0 : w1.cell? ⟨w.heap.size, 0, none⟩ = some (.slice none 0 0) := (hb.cell (p := ⟨w.heap.size, 0, none⟩) (by simp)).trans (by go_simp)
  have f0 : w1.frozen? ⟨w.heap.size, 0, none⟩ = false := (hb.frozen (p := ⟨w.heap.size, 0, none⟩) (by simp)).trans (by go_simp)
  have hl1 : w.heap.size < w1.heap.size := by have := hb.size; simp at this; omega
  have hgw : w.heap.size < g := by simp at hg; omega
  have HB1 := Lib.hid (((Below.refl w.heap.size w).alloc (Nat.le_refl _) (.cells #[.slice none 0 0] 25)).trans (hb.mono (by simp)))
  have HS := Lib.hid (graphOf_any g A1 n1 c1 ds 0 w1 hr hn1 hy1 hn2 (by omega))
  clear hn1 hr hb HC hy1
  go_wp2_with fail
  refine HS.out.mono ?_
  rintro e w2 ⟨V, k, gs, v3, xs, rfl, hk2, hk10, hsm, hx1, hx2, ho, ho3, _, ht⟩
  obtain ⟨A2, c2, rfl⟩ := ho.form
  obtain ⟨A3, c3, rfl, _⟩ := OwnI.form ho3
  unfold OwnI at ho3
  have q1 := (World.cell?_of_block (a := ⟨w.heap.size, 0, none⟩) (ht.block w.heap.size hl1 (.inl hgw))).trans q0
  have f1 := (World.frozen?_of_block (a := ⟨w.heap.size, 0, none⟩) (ht.block w.heap.size hl1 (.inl hgw))).trans f0
  have hl2 : w.heap.size < w2.heap.size := Nat.lt_of_lt_of_le hl1 ht.size
  have HB2 := Lib.hid (HB1.out.trans (ht.below (B := w.heap.size) (by omega) (by omega)))
  have HO := Lib.hid ho
  have HO3 := Lib.hid ho3
  clear ho ht q0 f0 ho3
  go_wp2
  refine bodyPost_ret (v := .tuple #[.agg #[.slice A2 k c2], .slice A3 xs.length c3]) (by simp [results, Try.results11, go_sem, q1]) rfl ?_
  have h3 : OwG w1.heap.size w2.heap.size (.slice A2 k c2) k gs (w2.setCell ⟨w.heap.size, 0, none⟩ (.slice A2 k c2)) := OwG.loc _ _ _ _ _ _ _ HO.out fun b x y => Below.heap_setCell _ _ _ _ (by show b ≠ w.heap.size; omega)
  have h4 : (w2.setCell ⟨w.heap.size, 0, none⟩ (.slice A2 k c2)).ownsRow w1.heap.size 3 1 (.slice A3 xs.length c3) xs.length (xs.map (Value.int .i64)) := own_keep HO3.out fun b x y => Below.heap_setCell _ _ _ _ (by show b ≠ w.heap.size; omega)
  exact ⟨A2, k, c2, gs, A3, xs.length, c3, xs, rfl, h3.1, hk2, hk10, h3.ncap, hsm, rfl, hx1, hx2, own_ncap h4, h3.nodes.more (by simp [World.setCell]), IS.of_own h4, below_set0H HB2.out _⟩

/-- A graph and a history that were drawn lie in memory. -/
def GH (A2 : Option Addr) (k c2 : Nat) (gs : List Nd) (E : Option Addr) (l d : Nat) (hs : List (List Int)) (y : Int) (w w' : World) : Prop :=
  k = gs.length ∧ 2 ≤ k ∧ k ≤ 10 ∧ k ≤ c2 ∧ (∀ j, (gs.getD j default).ps.length ≤ 40) ∧ l = hs.length ∧ 1 ≤ l ∧ l ≤ 10 ∧ l ≤ d ∧ (∀ x ∈ hs, x.length ≤ 11) ∧ -1 ≤ y ∧ y ≤ 10 ∧ GS w' w'.heap.size A2 gs ∧ SS w' w'.heap.size E hs ∧ Below w.heap.size w w'
def DrGH (w : World) (e : Ending) (w' : World) : Prop :=
  ∃ A2 k c2 gs E l d hs y, e = .returned (.tuple #[.agg #[.slice A2 k c2], .agg #[.slice E l d, .int .i64 y]]) ∧ GH A2 k c2 gs E l d hs y w w'
def DrGHC (w : World) (e : Ending) (w' : World) : Prop :=
  ∃ A2 k c2 gs E l d hs y A3 m c3 xs, e = .returned (.tuple #[.agg #[.slice A2 k c2], .agg #[.slice E l d, .int .i64 y], .slice A3 m c3]) ∧ GH A2 k c2 gs E l d hs y w w' ∧ m = xs.length ∧ m ≤ 11 ∧ m ≤ c3 ∧ IS w' w'.heap.size A3 xs
def DrGHI (w : World) (e : Ending) (w' : World) : Prop :=
  ∃ A2 k c2 gs E l d hs y x, e = .returned (.tuple #[.agg #[.slice A2 k c2], .agg #[.slice E l d, .int .i64 y], .int .i64 x]) ∧ GH A2 k c2 gs E l d hs y w w' ∧ -11 ≤ x ∧ x ≤ 11

theorem OwSS.ncap {lo hi n c k : Nat} {A : Option Addr} {xss : List (List Int)} {w : World} (h : OwSS lo hi (.slice A n c) n xss w) : n ≤ c := by
  obtain ⟨_, vs, h1, _⟩ := h
  exact own_ncap h1.1

theorem GH.fin {w X X' : World} {A2 E : Option Addr} {k c2 l d lo hi lo' hi' : Nat} {gs : List Nd} {hs : List (List Int)} {y : Int} (hb : Below w.heap.size w X) (hlo : w.heap.size + 2 ≤ lo) (hlo' : w.heap.size + 2 ≤ lo') (hg : OwG lo hi (.slice A2 k c2) k gs X) (hh : OwSS lo' hi' (.slice E l d) l hs X) (hi1 : hi ≤ X.heap.size) (hi2 : hi' ≤ X.heap.size) (h1 : 2 ≤ k) (h2 : k ≤ 10) (h3 : ∀ j, (gs.getD j default).ps.length ≤ 40) (h4 : 1 ≤ l) (h5 : l ≤ 10) (h6 : ∀ x ∈ hs, x.length ≤ 11) (h7 : -1 ≤ y) (h8 : y ≤ 10) (hX : X' = ((X.setCell ⟨w.heap.size, 0, none⟩ (.slice A2 k c2)).setCell ⟨w.heap.size + 1, 0, none⟩ (.slice E l d)).setCell ⟨w.heap.size + 1, 1, none⟩ (.int .i64 y)) : GH A2 k c2 gs E l d hs y w X' := by
  subst hX
  have hz : (((X.setCell ⟨w.heap.size, 0, none⟩ (.slice A2 k c2)).setCell ⟨w.heap.size + 1, 0, none⟩ (.slice E l d)).setCell ⟨w.heap.size + 1, 1, none⟩ (.int .i64 y)).heap.size = X.heap.size := by simp [World.setCell]
  have hk : ∀ b, w.heap.size + 2 ≤ b → (((X.setCell ⟨w.heap.size, 0, none⟩ (.slice A2 k c2)).setCell ⟨w.heap.size + 1, 0, none⟩ (.slice E l d)).setCell ⟨w.heap.size + 1, 1, none⟩ (.int .i64 y)).heap[b]? = X.heap[b]? := fun b hb => (Below.heap_setCell _ _ _ _ (by show b ≠ w.heap.size + 1; omega)).trans ((Below.heap_setCell _ _ _ _ (by show b ≠ w.heap.size + 1; omega)).trans (Below.heap_setCell _ _ _ _ (by show b ≠ w.heap.size; omega)))
  have h9 : OwG lo hi (.slice A2 k c2) k gs (((X.setCell ⟨w.heap.size, 0, none⟩ (.slice A2 k c2)).setCell ⟨w.heap.size + 1, 0, none⟩ (.slice E l d)).setCell ⟨w.heap.size + 1, 1, none⟩ (.int .i64 y)) := OwG.loc _ _ _ _ _ _ _ hg fun b a _ => hk b (by omega)
  have h10 : OwSS lo' hi' (.slice E l d) l hs (((X.setCell ⟨w.heap.size, 0, none⟩ (.slice A2 k c2)).setCell ⟨w.heap.size + 1, 0, none⟩ (.slice E l d)).setCell ⟨w.heap.size + 1, 1, none⟩ (.int .i64 y)) := OwSS.loc _ _ _ _ _ _ _ hh fun b a _ => hk b (by omega)
  refine ⟨hg.1, h1, h2, hg.ncap, h3, hh.1, h4, h5, OwSS.ncap (k := 0) hh, h6, h7, h8, h9.nodes.more (by rw [hz]; exact hi1), h10.lists.more (by rw [hz]; exact hi2), hb.trans ((((Below.refl w.heap.size X).setCell (Nat.le_refl _) _).setCell (Nat.le_add_right _ 1) _).setCell (Nat.le_add_right _ 1) _)⟩

theorem gh_cells {w X X' : World} {A2 E : Option Addr} {k c2 l d : Nat} {y : Int} {u0 u1 u2 : Value} (d0 : X.cell? ⟨w.heap.size, 0, none⟩ = some u0) (d1 : X.cell? ⟨w.heap.size + 1, 0, none⟩ = some u1) (d2 : X.cell? ⟨w.heap.size + 1, 1, none⟩ = some u2) (hxf : X' = ((X.setCell ⟨w.heap.size, 0, none⟩ (.slice A2 k c2)).setCell ⟨w.heap.size + 1, 0, none⟩ (.slice E l d)).setCell ⟨w.heap.size + 1, 1, none⟩ (.int .i64 y)) :
    X'.cell? ⟨w.heap.size, 0, none⟩ = some (.slice A2 k c2) ∧ X'.cell? ⟨w.heap.size + 1, 0, none⟩ = some (.slice E l d) ∧ X'.cell? ⟨w.heap.size + 1, 1, none⟩ = some (.int .i64 y) := by
  rw [hxf]
  exact ⟨(World.cell?_setCell_other _ _ _ _ (by intro e; have := congrArg Addr.block e; simp at this)).trans ((World.cell?_setCell_other _ _ _ _ (by intro e; have := congrArg Addr.block e; simp at this)).trans (World.cell?_setCell_same _ _ _ d0)),
    (World.cell?_setCell_other _ _ _ _ (by intro e; have := congrArg Addr.off e; simp at this)).trans (World.cell?_setCell_same _ _ _ ((World.cell?_setCell_other _ _ _ _ (by intro e; have := congrArg Addr.block e; simp at this)).trans d1)),
    World.cell?_setCell_same _ _ _ ((World.cell?_setCell_other _ _ _ _ (by intro e; have := congrArg Addr.off e; simp at this)).trans ((World.cell?_setCell_other _ _ _ _ (by intro e; have := congrArg Addr.block e; simp at this)).trans d2))⟩

set_option maxRecDepth 100000 in
set_option maxHeartbeats 3200000 in
theorem spec_DrawValidHistory (A : Option Addr) (n c : Nat) (bs : List Int) (w : World) (hn : n = bs.length) (hnc : n ≤ c) (h : BS w w.heap.size A bs) (hy : BY bs) (hs : n ≤ 1048576) :
    Calls Try.prog 8 #[.slice A n c] w fun e w' => DrGH w e w' := by
  obtain ⟨i1, hi, iz0, iz1, iz2⟩ := info_parts info_ints1
  obtain ⟨W1, hW1⟩ : ∃ W, W = (w.alloc (.cells #[.slice none 0 0] 25)).alloc (.cells #[.slice none 0 0, .int .i64 0] 28) := ⟨_, rfl⟩
  have hb1 : Below w.heap.size w W1 := by rw [hW1]; exact ((Below.refl _ _).alloc (Nat.le_refl _) _).alloc (by simp) _
  have hs1 : W1.heap.size = w.heap.size + 2 := by rw [hW1]; simp
  have ra1 : Bx w.heap.size [.slice none 0 0] W1 := by rw [hW1]; exact (Bx.start w #[.slice none 0 0] _).alloc _
  have rb1 : Bx (w.heap.size + 1) [.slice none 0 0, .int .i64 0] W1 := by rw [hW1]; have := Bx.start (w.alloc (.cells #[.slice none 0 0] 25)) #[.slice none 0 0, .int .i64 0] 28; simpa using this
  have h1 : BS W1 w.heap.size A bs := by rw [hW1]; exact (h.keep fun p hp => World.cell?_alloc_lt w _ p (by omega)).keep fun p hp => World.cell?_alloc_lt _ _ p (by simp; omega)
  have HC := Lib.hid (spec_newReader A n c bs W1 w.heap.size (by omega) hn hnc h1 hy hs)
  have RA1 := Lib.hid ra1
  have RB1 := Lib.hid rb1
  have HW1 := Lib.hid hW1
  have HB1 := Lib.hid hb1
  clear hn hnc h h1 hy hs ra1 rb1 hW1 hb1
  go_enter Try.func8, Try.ntmps8
  go_wp2_with fail
  rw [← HW1.out]
  refine HC.out.mono ?_
  rintro e w1 ⟨g, A1, n1, c1, ds, rfl, hn1, hn2, hy1, hr, hg, hb⟩
  have hz1 := hb.size
  have hg1 : w.heap.size + 2 ≤ g := by omega
  have RA2 := Lib.hid (RA1.out.step (hb.mono (by omega)))
  have RB2 := Lib.hid (RB1.out.step (hb.mono (by omega)))
  have HB2 := Lib.hid (HB1.out.trans (hb.mono (by omega)))
  have HR2 := Lib.hid hr
  have HN1 := Lib.hid hn1
  have HY1 := Lib.hid hy1
  have HS := Lib.hid (historyOf_any g A1 n1 c1 ds 0 w1 hr hn1 hy1 hn2 (by omega))
  have hg2 := hr.lt
  clear hr hb HC RA1 RB1 HB1 hn1 hy1 HW1 hg
  go_wp2_with fail
  refine HS.out.mono ?_
  rintro e w2 ⟨V, k, gs, E, l, d, ss, y, rfl, hk2, hk10, hsm, hl1, hl2, hx, hy1, hy2, ho, hss, hr2, ht⟩
  obtain ⟨A2, c2, rfl⟩ := ho.form
  have hz2 := ht.size
  have RA3 := Lib.hid (RA2.out.keep (ht.block _ (by omega) (by omega)) ht.size)
  have RB3 := Lib.hid (RB2.out.keep (ht.block _ (by omega) (by omega)) ht.size)
  have HB3 := Lib.hid (HB2.out.trans (ht.below (B := w.heap.size) (by omega) (by omega)))
  have HO3 := Lib.hid ho
  have HH3 := Lib.hid hss
  have HR3 := Lib.hid hr2
  have HX := Lib.hid hx
  clear RA2 RB2 HB2 HR2 ho hss hr2 ht hx
  have d0 := RA3.out.c 0 _ rfl
  have d1 := RB3.out.c 0 _ rfl
  have d2 := RB3.out.c 1 _ rfl
  have f0 := RA3.out.f 0
  have f1 := RB3.out.f 0
  have f2 := RB3.out.f 1
  go_wp2
  obtain ⟨xf, hxf⟩ : ∃ X, X = ((w2.setCell ⟨w.heap.size, 0, none⟩ (.slice A2 k c2)).setCell ⟨w.heap.size + 1, 0, none⟩ (.slice E l d)).setCell ⟨w.heap.size + 1, 1, none⟩ (.int .i64 y) := ⟨_, rfl⟩
  rw [← hxf]
  obtain ⟨r0, r1, r2⟩ := gh_cells d0 d1 d2 hxf
  refine bodyPost_ret (v := .tuple #[.agg #[.slice A2 k c2], .agg #[.slice E l d, .int .i64 y]]) (by simp [results, Try.results8, go_sem, r0, r1, r2]) rfl ?_
  exact ⟨A2, k, c2, gs, E, l, d, ss, y, rfl, GH.fin HB3.out (by omega) (by omega) HO3.out HH3.out (Nat.le_refl _) (Nat.le_refl _) hk2 hk10 hsm hl1 hl2 HX.out hy1 hy2 hxf⟩

set_option maxRecDepth 100000 in
set_option maxHeartbeats 3200000 in
theorem spec_DrawCommitCells (A : Option Addr) (n c : Nat) (bs : List Int) (w : World) (hn : n = bs.length) (hnc : n ≤ c) (h : BS w w.heap.size A bs) (hy : BY bs) (hs : n ≤ 1048576) :
    Calls Try.prog 18 #[.slice A n c] w fun e w' => DrGHC w e w' := by
  obtain ⟨i1, hi, iz0, iz1, iz2⟩ := info_parts info_ints1
  obtain ⟨W1, hW1⟩ : ∃ W, W = (w.alloc (.cells #[.slice none 0 0] 25)).alloc (.cells #[.slice none 0 0, .int .i64 0] 28) := ⟨_, rfl⟩
  have hb1 : Below w.heap.size w W1 := by rw [hW1]; exact ((Below.refl _ _).alloc (Nat.le_refl _) _).alloc (by simp) _
  have hs1 : W1.heap.size = w.heap.size + 2 := by rw [hW1]; simp
  have ra1 : Bx w.heap.size [.slice none 0 0] W1 := by rw [hW1]; exact (Bx.start w #[.slice none 0 0] _).alloc _
  have rb1 : Bx (w.heap.size + 1) [.slice none 0 0, .int .i64 0] W1 := by rw [hW1]; have := Bx.start (w.alloc (.cells #[.slice none 0 0] 25)) #[.slice none 0 0, .int .i64 0] 28; simpa using this
  have h1 : BS W1 w.heap.size A bs := by rw [hW1]; exact (h.keep fun p hp => World.cell?_alloc_lt w _ p (by omega)).keep fun p hp => World.cell?_alloc_lt _ _ p (by simp; omega)
  have HC := Lib.hid (spec_newReader A n c bs W1 w.heap.size (by omega) hn hnc h1 hy hs)
  have RA1 := Lib.hid ra1
  have RB1 := Lib.hid rb1
  have HW1 := Lib.hid hW1
  have HB1 := Lib.hid hb1
  clear hn hnc h h1 hy hs ra1 rb1 hW1 hb1
  go_enter Try.func18, Try.ntmps18
  go_wp2_with fail
  rw [← HW1.out]
  refine HC.out.mono ?_
  rintro e w1 ⟨g, A1, n1, c1, ds, rfl, hn1, hn2, hy1, hr, hg, hb⟩
  have hz1 := hb.size
  have hg1 : w.heap.size + 2 ≤ g := by omega
  have RA2 := Lib.hid (RA1.out.step (hb.mono (by omega)))
  have RB2 := Lib.hid (RB1.out.step (hb.mono (by omega)))
  have HB2 := Lib.hid (HB1.out.trans (hb.mono (by omega)))
  have HR2 := Lib.hid hr
  have HN1 := Lib.hid hn1
  have HY1 := Lib.hid hy1
  have HS := Lib.hid (historyOf_any g A1 n1 c1 ds 0 w1 hr hn1 hy1 hn2 (by omega))
  have hg2 := hr.lt
  clear hr hb HC RA1 RB1 HB1 hn1 hy1 HW1 hg
  go_wp2_with fail
  refine HS.out.mono ?_
  rintro e w2 ⟨V, k, gs, E, l, d, ss, y, rfl, hk2, hk10, hsm, hl1, hl2, hx, hy1, hy2, ho, hss, hr2, ht⟩
  obtain ⟨A2, c2, rfl⟩ := ho.form
  have hz2 := ht.size
  have RA3 := Lib.hid (RA2.out.keep (ht.block _ (by omega) (by omega)) ht.size)
  have RB3 := Lib.hid (RB2.out.keep (ht.block _ (by omega) (by omega)) ht.size)
  have HB3 := Lib.hid (HB2.out.trans (ht.below (B := w.heap.size) (by omega) (by omega)))
  have HO3 := Lib.hid ho
  have HH3 := Lib.hid hss
  have HR3 := Lib.hid hr2
  have HX := Lib.hid hx
  clear RA2 RB2 HB2 HR2 ho hss hr2 ht hx
  obtain ⟨W3, hW3⟩ : ∃ W, W = (w2.alloc (.cells #[.slice A2 k c2] 25)).alloc (.cells #[.slice E l d, .int .i64 y] 28) := ⟨_, rfl⟩
  have hb3 : Below w2.heap.size w2 W3 := by rw [hW3]; exact ((Below.refl _ _).alloc (Nat.le_refl _) _).alloc (by simp) _
  have hs3 : W3.heap.size = w2.heap.size + 2 := by rw [hW3]; simp
  have gb3 : Bx w2.heap.size [.slice A2 k c2] W3 := by rw [hW3]; exact (Bx.start w2 #[.slice A2 k c2] _).alloc _
  have gh3 : Bx (w2.heap.size + 1) [.slice E l d, .int .i64 y] W3 := by rw [hW3]; have := Bx.start (w2.alloc (.cells #[.slice A2 k c2] 25)) #[.slice E l d, .int .i64 y] 28; simpa using this
  have HR4 := Lib.hid (HR3.out.step hb3)
  have RA4 := Lib.hid (RA3.out.step hb3)
  have RB4 := Lib.hid (RB3.out.step hb3)
  have HB4 := Lib.hid (HB3.out.trans (hb3.mono (by omega)))
  have HO4 := Lib.hid ((graph_start HO3.out).step hb3)
  have HH4 : Hid (As w1.heap.size w2.heap.size (OwSS w1.heap.size w2.heap.size (.slice E l d) l ss) W3) := (show As w1.heap.size w2.heap.size (OwSS w1.heap.size w2.heap.size (.slice E l d) l ss) w2 from ⟨HH3.out, Nat.le_refl _, OwSS.loc _ _ _ _ _⟩).step hb3
  have HW3 := Lib.hid hW3
  have b0 := gb3.c 0 _ rfl
  have b1 := gh3.c 0 _ rfl
  have b2 := gh3.c 1 _ rfl
  have GB3 := Lib.hid gb3
  have GH3 := Lib.hid gh3
  clear gb3 gh3 hb3 hW3 HR3 RA3 RB3 HB3 HO3 HH3 HS
  go_wp2_with fail
  rw [← HW3.out]
  obtain ⟨wd, hwd⟩ : ∃ W, W = W3.drew := ⟨_, rfl⟩
  have HRd : Hid (Rdr g A1 n1 c1 ds (0 + 3000) wd) := by rw [hwd]; exact HR4.out.drew
  have hbd : Below W3.heap.size W3 wd := by rw [hwd]; exact (Below.refl _ _).drew
  have hsd : wd.heap.size = w2.heap.size + 2 := by rw [hwd]; exact hs3
  have RAd := Lib.hid (RA4.out.step hbd)
  have RBd := Lib.hid (RB4.out.step hbd)
  have HBd := Lib.hid (HB4.out.trans (hbd.mono (by omega)))
  have HOd := Lib.hid (HO4.out.step hbd)
  have HHd := Lib.hid (HH4.out.step hbd)
  have GBd := Lib.hid (GB3.out.step hbd)
  have GHd := Lib.hid (GH3.out.step hbd)
  refine wp_region_held_drew (S := fun w' => w'.cell? ⟨w2.heap.size, 0, none⟩ = some (.slice A2 k c2) ∧ w'.cell? ⟨w2.heap.size + 1, 0, none⟩ = some (.slice E l d) ∧ w'.cell? ⟨w2.heap.size + 1, 1, none⟩ = some (.int .i64 y)) (by kernel_rfl) ⟨b0, b1, b2⟩ (fun hHeld => ?_)
  clear hHeld b0 b1 b2
  rw [← hwd]
  have e0 := GBd.out.c 0 _ rfl
  have e1 := GHd.out.c 0 _ rfl
  have e2 := GHd.out.c 1 _ rfl
  have hHeld : wd.cell? ⟨w2.heap.size, 0, none⟩ = some (.slice A2 k c2) ∧ wd.cell? ⟨w2.heap.size + 1, 0, none⟩ = some (.slice E l d) ∧ wd.cell? ⟨w2.heap.size + 1, 1, none⟩ = some (.int .i64 y) := ⟨e0, e1, e2⟩
  clear hwd hbd HR4 RA4 RB4 HB4 HO4 HH4 GB3 GH3 HW3
  refine wpAnyH_take (i := 0) (oi := ⟨some 15, _, _, _, _, _⟩) (v := ?_) rfl (by kernel_rfl) (by kernel_rfl) (by kernel_rfl) (fun _ _ _ h => h) (Or.inl ⟨by rfl, ?_⟩) (by assumption) ?_; rotate_left; (focus (intro w hSw; (try dsimp only at hSw); go_simp; (try with_reducible rfl))); (try simp only [Act.put, List.setIfInBounds_toArray, List.set_cons_zero, List.set_cons_succ])
  refine wpAnyH_take (i := 1) (oi := ⟨some 16, _, _, _, _, _⟩) (v := ?_) rfl (by kernel_rfl) (by kernel_rfl) (by kernel_rfl) (fun _ _ _ h => h) (Or.inl ⟨by rfl, ?_⟩) (by assumption) ?_; rotate_left; (focus (intro w hSw; (try dsimp only at hSw); go_simp; (try with_reducible rfl))); (try simp only [Act.put, List.setIfInBounds_toArray, List.set_cons_zero, List.set_cons_succ])
  refine wpAnyH_take (i := 2) (oi := ⟨some 17, _, _, _, _, _⟩) (v := ?_) rfl (by kernel_rfl) (by kernel_rfl) (by kernel_rfl) (fun _ _ _ h => h) (Or.inl ⟨by rfl, ?_⟩) (by assumption) ?_; rotate_left; (focus (intro w hSw; (try dsimp only at hSw); go_simp; (try with_reducible rfl))); (try simp only [Act.put, List.setIfInBounds_toArray, List.set_cons_zero, List.set_cons_succ])
  refine wpAnyH_take (i := 3) (oi := ⟨some 18, _, _, _, _, _⟩) (v := ?_) rfl (by kernel_rfl) (by kernel_rfl) (by kernel_rfl) (fun _ _ _ h => h) (Or.inl ⟨by rfl, ?_⟩) (by assumption) ?_; rotate_left; (focus (intro w hSw; (try dsimp only at hSw); go_simp; (try with_reducible rfl))); (try simp only [Act.put, List.setIfInBounds_toArray, List.set_cons_zero, List.set_cons_succ])
  refine wpAnyH_ready (rs := [4]) (by kernel_rfl) (by simp) ?_; refine AllReadyH.cons (o := ⟨some 19, _, _, _, _, _⟩) rfl (fun K hK => ?_) AllReadyH.nil; go_simp
  go_at_call 43
  refine (someCells_any g A1 n1 c1 ds (0 + 3000) A2 k c2 w1.heap.size w2.heap.size gs wd HRd.out HN1.out HY1.out hn2 (by omega) HOd.out (by omega) (by omega) hk10).mono ?_
  rintro e w5 ⟨v5, D, rfl, hd1, hd2, hown5, hr5, ht5⟩
  obtain ⟨A5, c5, rfl, _⟩ := OwnI.form hown5
  unfold OwnI at hown5
  have HC5 := Lib.hid hown5
  clear hown5
  have hz5 := ht5.size
  have RA5 := Lib.hid (RAd.out.keep (ht5.block _ (by omega) (by omega)) ht5.size)
  have RB5 := Lib.hid (RBd.out.keep (ht5.block _ (by omega) (by omega)) ht5.size)
  have GB5 := Lib.hid (GBd.out.keep (ht5.block _ (by omega) (by omega)) ht5.size)
  have GH5 := Lib.hid (GHd.out.keep (ht5.block _ (by omega) (by omega)) ht5.size)
  have HB5 := Lib.hid (HBd.out.trans (ht5.below (B := w.heap.size) (by omega) (by omega)))
  have HO5 := Lib.hid (HOd.out.turn ht5 (.inl (by omega)))
  have HH5 := Lib.hid (HHd.out.turn ht5 (.inl (by omega)))
  have d0 := RA5.out.c 0 _ rfl
  have d1 := RB5.out.c 0 _ rfl
  have d2 := RB5.out.c 1 _ rfl
  have f0 := RA5.out.f 0
  have u0 := GB5.out.c 0 _ rfl
  have u1 := GH5.out.c 0 _ rfl
  have u2 := GH5.out.c 1 _ rfl
  clear RAd RBd GBd GHd HBd HOd HHd ht5 hr5 HRd e0 e1 e2
  refine hK.out _ _ ⟨u0, u1, u2⟩ (fun hHeld => ?_); clear hK K; (try simp only [Act.put, List.setIfInBounds_toArray, List.set_cons_zero, List.set_cons_succ])
  clear u0 u1 u2
  refine wpAnyH_ready (rs := [5]) (by kernel_rfl) (by simp) ?_; refine AllReadyH.cons (o := ⟨none, _, _, _, _, _⟩) rfl (fun K hK => ?_) AllReadyH.nil; go_simp
  obtain ⟨w6, hw6⟩ : ∃ W, W = w5.setCell ⟨w.heap.size, 0, none⟩ (.slice A2 k c2) := ⟨_, rfl⟩
  rw [← hw6]
  have v1 : w6.cell? ⟨w.heap.size + 1, 0, none⟩ = some (.slice none 0 0) := by rw [hw6]; exact (RB5.out.other ⟨w.heap.size, 0, none⟩ (by show w.heap.size + 1 ≠ w.heap.size; omega) _).c 0 _ rfl
  have v2 : w6.cell? ⟨w.heap.size + 1, 1, none⟩ = some (.int .i64 0) := by rw [hw6]; exact (RB5.out.other ⟨w.heap.size, 0, none⟩ (by show w.heap.size + 1 ≠ w.heap.size; omega) _).c 1 _ rfl
  have g1 : w6.frozen? ⟨w.heap.size + 1, 0, none⟩ = false := by rw [hw6]; exact (RB5.out.other ⟨w.heap.size, 0, none⟩ (by show w.heap.size + 1 ≠ w.heap.size; omega) _).f 0
  have g2 : w6.frozen? ⟨w.heap.size + 1, 1, none⟩ = false := by rw [hw6]; exact (RB5.out.other ⟨w.heap.size, 0, none⟩ (by show w.heap.size + 1 ≠ w.heap.size; omega) _).f 1
  have GB6 : Hid (Bx w2.heap.size [.slice A2 k c2] w6) := by rw [hw6]; exact GB5.out.other ⟨w.heap.size, 0, none⟩ (by show w2.heap.size ≠ w.heap.size; omega) _
  have GH6 : Hid (Bx (w2.heap.size + 1) [.slice E l d, .int .i64 y] w6) := by rw [hw6]; exact GH5.out.other ⟨w.heap.size, 0, none⟩ (by show w2.heap.size + 1 ≠ w.heap.size; omega) _
  have HD0 := Lib.hid d0
  have HD1 := Lib.hid d1
  have HD2 := Lib.hid d2
  have HW6 := Lib.hid hw6
  have u0 := GB6.out.c 0 _ rfl
  have u1 := GH6.out.c 0 _ rfl
  have u2 := GH6.out.c 1 _ rfl
  clear d0 d1 d2 f0 hw6 RA5 RB5 GB5 GH5
  refine hK.out _ _ ⟨u0, u1, u2⟩ (fun hHeld => ?_); clear hK K; (try simp only [Act.put, List.setIfInBounds_toArray, List.set_cons_zero, List.set_cons_succ])
  clear u0 u1 u2
  refine wpAnyH_ready (rs := [6]) (by kernel_rfl) (by simp) ?_; refine AllReadyH.cons (o := ⟨none, _, _, _, _, _⟩) rfl (fun K hK => ?_) AllReadyH.nil; go_simp
  obtain ⟨xf, hxf⟩ : ∃ X, X = (w6.setCell ⟨w.heap.size + 1, 0, none⟩ (.slice E l d)).setCell ⟨w.heap.size + 1, 1, none⟩ (.int .i64 y) := ⟨_, rfl⟩
  rw [← hxf]
  have u0 : xf.cell? ⟨w2.heap.size, 0, none⟩ = some (.slice A2 k c2) := by rw [hxf]; exact ((GB6.out.other ⟨w.heap.size + 1, 0, none⟩ (by show w2.heap.size ≠ w.heap.size + 1; omega) _).other ⟨w.heap.size + 1, 1, none⟩ (by show w2.heap.size ≠ w.heap.size + 1; omega) _).c 0 _ rfl
  have u3 : Bx (w2.heap.size + 1) [.slice E l d, .int .i64 y] xf := by rw [hxf]; exact (GH6.out.other ⟨w.heap.size + 1, 0, none⟩ (by show w2.heap.size + 1 ≠ w.heap.size + 1; omega) _).other ⟨w.heap.size + 1, 1, none⟩ (by show w2.heap.size + 1 ≠ w.heap.size + 1; omega) _
  have u1 := u3.c 0 _ rfl
  have u2 := u3.c 1 _ rfl
  refine hK.out _ _ ⟨u0, u1, u2⟩ (fun hHeld => ?_); clear hK K; (try simp only [Act.put, List.setIfInBounds_toArray, List.set_cons_zero, List.set_cons_succ])
  refine wpAnyH_take (i := 7) (oi := ⟨some 4, _, _, _, _, _⟩) (v := ?_) rfl (by kernel_rfl) (by kernel_rfl) (by kernel_rfl) (fun _ _ _ h => h) (Or.inl ⟨by rfl, ?_⟩) (by assumption) ?_; rotate_left; (focus (intro w hSw; (try dsimp only at hSw); go_simp; (try with_reducible rfl))); (try simp only [Act.put, List.setIfInBounds_toArray, List.set_cons_zero, List.set_cons_succ])
  refine wpAnyH_done (by kernel_rfl) ?_ _
  rw [HW6.out] at hxf
  obtain ⟨r0, r1, r2⟩ := gh_cells HD0.out HD1.out HD2.out hxf
  have hxz : xf.heap.size = w5.heap.size := by rw [hxf]; simp [World.setCell]
  have hxk : ∀ b, w.heap.size + 2 ≤ b → xf.heap[b]? = w5.heap[b]? := fun b hb => by
    rw [hxf]
    exact (Below.heap_setCell _ _ _ _ (by show b ≠ w.heap.size + 1; omega)).trans ((Below.heap_setCell _ _ _ _ (by show b ≠ w.heap.size + 1; omega)).trans (Below.heap_setCell _ _ _ _ (by show b ≠ w.heap.size; omega)))
  have HGH := Lib.hid (GH.fin HB5.out (by omega) (by omega) HO5.out.it HH5.out.it HO5.out.le HH5.out.le hk2 hk10 hsm hl1 hl2 HX.out hy1 hy2 hxf)
  clear u0 u1 u2 u3 v1 v2 g1 g2 hxf HW6
  go_wp2
  refine bodyPost_ret (v := .tuple #[.agg #[.slice A2 k c2], .agg #[.slice E l d, .int .i64 y], .slice A5 D.length c5]) (by simp [results, Try.results18, go_sem, r0, r1, r2]) rfl ?_
  refine ⟨A2, k, c2, gs, E, l, d, ss, y, A5, D.length, c5, D, rfl, HGH.out, rfl, by omega, own_ncap HC5.out, ?_⟩
  exact (IS.of_own (own_keep HC5.out fun b a _ => hxk b (by omega)))

set_option maxRecDepth 100000 in
set_option maxHeartbeats 3200000 in
theorem spec_DrawMoveHistory (A : Option Addr) (n c : Nat) (bs : List Int) (w : World) (hn : n = bs.length) (hnc : n ≤ c) (h : BS w w.heap.size A bs) (hy : BY bs) (hs : n ≤ 1048576) :
    Calls Try.prog 21 #[.slice A n c] w fun e w' => DrGHI w e w' := by
  obtain ⟨i1, hi, iz0, iz1, iz2⟩ := info_parts info_ints1
  obtain ⟨W1, hW1⟩ : ∃ W, W = (w.alloc (.cells #[.slice none 0 0] 25)).alloc (.cells #[.slice none 0 0, .int .i64 0] 28) := ⟨_, rfl⟩
  have hb1 : Below w.heap.size w W1 := by rw [hW1]; exact ((Below.refl _ _).alloc (Nat.le_refl _) _).alloc (by simp) _
  have hs1 : W1.heap.size = w.heap.size + 2 := by rw [hW1]; simp
  have ra1 : Bx w.heap.size [.slice none 0 0] W1 := by rw [hW1]; exact (Bx.start w #[.slice none 0 0] _).alloc _
  have rb1 : Bx (w.heap.size + 1) [.slice none 0 0, .int .i64 0] W1 := by rw [hW1]; have := Bx.start (w.alloc (.cells #[.slice none 0 0] 25)) #[.slice none 0 0, .int .i64 0] 28; simpa using this
  have h1 : BS W1 w.heap.size A bs := by rw [hW1]; exact (h.keep fun p hp => World.cell?_alloc_lt w _ p (by omega)).keep fun p hp => World.cell?_alloc_lt _ _ p (by simp; omega)
  have HC := Lib.hid (spec_newReader A n c bs W1 w.heap.size (by omega) hn hnc h1 hy hs)
  have RA1 := Lib.hid ra1
  have RB1 := Lib.hid rb1
  have HW1 := Lib.hid hW1
  have HB1 := Lib.hid hb1
  clear hn hnc h h1 hy hs ra1 rb1 hW1 hb1
  go_enter Try.func21, Try.ntmps21
  go_wp2_with fail
  rw [← HW1.out]
  refine HC.out.mono ?_
  rintro e w1 ⟨g, A1, n1, c1, ds, rfl, hn1, hn2, hy1, hr, hg, hb⟩
  have hz1 := hb.size
  have hg1 : w.heap.size + 2 ≤ g := by omega
  have RA2 := Lib.hid (RA1.out.step (hb.mono (by omega)))
  have RB2 := Lib.hid (RB1.out.step (hb.mono (by omega)))
  have HB2 := Lib.hid (HB1.out.trans (hb.mono (by omega)))
  have HR2 := Lib.hid hr
  have HN1 := Lib.hid hn1
  have HY1 := Lib.hid hy1
  have HS := Lib.hid (historyOf_any g A1 n1 c1 ds 0 w1 hr hn1 hy1 hn2 (by omega))
  have hg2 := hr.lt
  clear hr hb HC RA1 RB1 HB1 hn1 hy1 HW1 hg
  go_wp2_with fail
  refine HS.out.mono ?_
  rintro e w2 ⟨V, k, gs, E, l, d, ss, y, rfl, hk2, hk10, hsm, hl1, hl2, hx, hy1, hy2, ho, hss, hr2, ht⟩
  obtain ⟨A2, c2, rfl⟩ := ho.form
  have hz2 := ht.size
  have RA3 := Lib.hid (RA2.out.keep (ht.block _ (by omega) (by omega)) ht.size)
  have RB3 := Lib.hid (RB2.out.keep (ht.block _ (by omega) (by omega)) ht.size)
  have HB3 := Lib.hid (HB2.out.trans (ht.below (B := w.heap.size) (by omega) (by omega)))
  have HO3 := Lib.hid ho
  have HH3 := Lib.hid hss
  have HR3 := Lib.hid hr2
  have HX := Lib.hid hx
  clear RA2 RB2 HB2 HR2 ho hss hr2 ht hx
  obtain ⟨W3, hW3⟩ : ∃ W, W = (w2.alloc (.cells #[.slice A2 k c2] 25)).alloc (.cells #[.slice E l d, .int .i64 y] 28) := ⟨_, rfl⟩
  have hb3 : Below w2.heap.size w2 W3 := by rw [hW3]; exact ((Below.refl _ _).alloc (Nat.le_refl _) _).alloc (by simp) _
  have hs3 : W3.heap.size = w2.heap.size + 2 := by rw [hW3]; simp
  have gb3 : Bx w2.heap.size [.slice A2 k c2] W3 := by rw [hW3]; exact (Bx.start w2 #[.slice A2 k c2] _).alloc _
  have gh3 : Bx (w2.heap.size + 1) [.slice E l d, .int .i64 y] W3 := by rw [hW3]; have := Bx.start (w2.alloc (.cells #[.slice A2 k c2] 25)) #[.slice E l d, .int .i64 y] 28; simpa using this
  have HR4 := Lib.hid (HR3.out.step hb3)
  have RA4 := Lib.hid (RA3.out.step hb3)
  have RB4 := Lib.hid (RB3.out.step hb3)
  have HB4 := Lib.hid (HB3.out.trans (hb3.mono (by omega)))
  have HO4 := Lib.hid ((graph_start HO3.out).step hb3)
  have HH4 : Hid (As w1.heap.size w2.heap.size (OwSS w1.heap.size w2.heap.size (.slice E l d) l ss) W3) := (show As w1.heap.size w2.heap.size (OwSS w1.heap.size w2.heap.size (.slice E l d) l ss) w2 from ⟨HH3.out, Nat.le_refl _, OwSS.loc _ _ _ _ _⟩).step hb3
  have HW3 := Lib.hid hW3
  have b0 := gb3.c 0 _ rfl
  have b1 := gh3.c 0 _ rfl
  have b2 := gh3.c 1 _ rfl
  have GB3 := Lib.hid gb3
  have GH3 := Lib.hid gh3
  clear gb3 gh3 hb3 hW3 HR3 RA3 RB3 HB3 HO3 HH3 HS
  go_wp2_with fail
  rw [← HW3.out]
  obtain ⟨wd, hwd⟩ : ∃ W, W = W3.drew := ⟨_, rfl⟩
  have HRd : Hid (Rdr g A1 n1 c1 ds (0 + 3000) wd) := by rw [hwd]; exact HR4.out.drew
  have hbd : Below W3.heap.size W3 wd := by rw [hwd]; exact (Below.refl _ _).drew
  have hsd : wd.heap.size = w2.heap.size + 2 := by rw [hwd]; exact hs3
  have RAd := Lib.hid (RA4.out.step hbd)
  have RBd := Lib.hid (RB4.out.step hbd)
  have HBd := Lib.hid (HB4.out.trans (hbd.mono (by omega)))
  have HOd := Lib.hid (HO4.out.step hbd)
  have HHd := Lib.hid (HH4.out.step hbd)
  have GBd := Lib.hid (GB3.out.step hbd)
  have GHd := Lib.hid (GH3.out.step hbd)
  refine wp_region_held_drew (S := fun w' => w'.cell? ⟨w2.heap.size, 0, none⟩ = some (.slice A2 k c2) ∧ w'.cell? ⟨w2.heap.size + 1, 0, none⟩ = some (.slice E l d) ∧ w'.cell? ⟨w2.heap.size + 1, 1, none⟩ = some (.int .i64 y)) (by kernel_rfl) ⟨b0, b1, b2⟩ (fun hHeld => ?_)
  clear hHeld b0 b1 b2
  rw [← hwd]
  have e0 := GBd.out.c 0 _ rfl
  have e1 := GHd.out.c 0 _ rfl
  have e2 := GHd.out.c 1 _ rfl
  have hHeld : wd.cell? ⟨w2.heap.size, 0, none⟩ = some (.slice A2 k c2) ∧ wd.cell? ⟨w2.heap.size + 1, 0, none⟩ = some (.slice E l d) ∧ wd.cell? ⟨w2.heap.size + 1, 1, none⟩ = some (.int .i64 y) := ⟨e0, e1, e2⟩
  clear hwd hbd HR4 RA4 RB4 HB4 HO4 HH4 GB3 GH3 HW3
  refine wpAnyH_take (i := 0) (oi := ⟨some 15, _, _, _, _, _⟩) (v := ?_) rfl (by kernel_rfl) (by kernel_rfl) (by kernel_rfl) (fun _ _ _ h => h) (Or.inl ⟨by rfl, ?_⟩) (by assumption) ?_; rotate_left; (focus (intro w hSw; (try dsimp only at hSw); go_simp; (try with_reducible rfl))); (try simp only [Act.put, List.setIfInBounds_toArray, List.set_cons_zero, List.set_cons_succ])
  refine wpAnyH_take (i := 1) (oi := ⟨some 16, _, _, _, _, _⟩) (v := ?_) rfl (by kernel_rfl) (by kernel_rfl) (by kernel_rfl) (fun _ _ _ h => h) (Or.inl ⟨by rfl, ?_⟩) (by assumption) ?_; rotate_left; (focus (intro w hSw; (try dsimp only at hSw); go_simp; (try with_reducible rfl))); (try simp only [Act.put, List.setIfInBounds_toArray, List.set_cons_zero, List.set_cons_succ])
  refine wpAnyH_take (i := 2) (oi := ⟨some 17, _, _, _, _, _⟩) (v := ?_) rfl (by kernel_rfl) (by kernel_rfl) (by kernel_rfl) (fun _ _ _ h => h) (Or.inl ⟨by rfl, ?_⟩) (by assumption) ?_; rotate_left; (focus (intro w hSw; (try dsimp only at hSw); go_simp; (try with_reducible rfl))); (try simp only [Act.put, List.setIfInBounds_toArray, List.set_cons_zero, List.set_cons_succ])
  refine wpAnyH_ready (rs := [3]) (by kernel_rfl) (by simp) ?_; refine AllReadyH.cons (o := ⟨some 18, _, _, _, _, _⟩) rfl (fun K hK => ?_) AllReadyH.nil; go_simp
  obtain ⟨wm, hwm⟩ : ∃ W, W = wd.alloc (.cells #[.int .i64 (-1), .int .i64 1, .int .i64 0, .int .i64 (-2), .int .i64 2, .int .i64 11, .int .i64 (-11)] 3) := ⟨_, rfl⟩
  have hcm : Hid (∀ j, j < 7 → wm.cell? ⟨w2.heap.size + 2, 0 + j, none⟩ = some (.int .i64 ([-1, 1, 0, -2, 2, 11, -11].getD j 0))) := by
    intro j hj
    have : j = 0 ∨ j = 1 ∨ j = 2 ∨ j = 3 ∨ j = 4 ∨ j = 5 ∨ j = 6 := by omega
    rw [hwm, ← hsd]
    rcases this with rfl | rfl | rfl | rfl | rfl | rfl | rfl <;> go_simp
  have hbm : Below wd.heap.size wd wm := by rw [hwm]; exact (Below.refl _ _).alloc (Nat.le_refl _) _
  have hsm' : wm.heap.size = wd.heap.size + 1 := by rw [hwm]; simp
  have e3 := (GBd.out.step hbm).c 0 _ rfl
  have e4 := (GHd.out.step hbm).c 0 _ rfl
  have e5 := (GHd.out.step hbm).c 1 _ rfl
  have HRm := Lib.hid (HRd.out.step hbm)
  rw [← hwm]
  have HBM := Lib.hid hbm
  have HWM := Lib.hid hwm
  have hgd := HRd.out.lt
  clear hwm hbm
  refine hK.out _ _ ⟨e3, e4, e5⟩ (fun hHeld => ?_); clear hK K; (try simp only [Act.put, List.setIfInBounds_toArray, List.set_cons_zero, List.set_cons_succ])
  clear e3 e4 e5
  refine wpAnyH_ready (rs := [4]) (by kernel_rfl) (by simp) ?_; refine AllReadyH.cons (o := ⟨some 19, _, _, _, _, _⟩) rfl (fun K hK => ?_) AllReadyH.nil; go_simp
  go_at_call 46
  refine (one_any g A1 n1 c1 ds (0 + 3000) (w2.heap.size + 2) 0 7 7 [-1, 1, 0, -2, 2, 11, -11] wm HRm.out HN1.out HY1.out hn2 (by omega) rfl (by omega) (by omega) hcm.out (by omega) (by omega)).mono ?_
  rintro e w5 ⟨x, rfl, hxm, hr5, ht5'⟩
  have hx9 : -11 ≤ x ∧ x ≤ 11 := by
    simp only [List.mem_cons, List.not_mem_nil, or_false] at hxm
    omega
  have ht5 : Tch g (g + 1) wd w5 := (Tch.of_below HBM.out).trans ht5'
  clear hcm HRm HBM HWM hxm ht5' 
  have hz5 := ht5.size
  have RA5 := Lib.hid (RAd.out.keep (ht5.block _ (by omega) (by omega)) ht5.size)
  have RB5 := Lib.hid (RBd.out.keep (ht5.block _ (by omega) (by omega)) ht5.size)
  have GB5 := Lib.hid (GBd.out.keep (ht5.block _ (by omega) (by omega)) ht5.size)
  have GH5 := Lib.hid (GHd.out.keep (ht5.block _ (by omega) (by omega)) ht5.size)
  have HB5 := Lib.hid (HBd.out.trans (ht5.below (B := w.heap.size) (by omega) (by omega)))
  have HO5 := Lib.hid (HOd.out.turn ht5 (.inl (by omega)))
  have HH5 := Lib.hid (HHd.out.turn ht5 (.inl (by omega)))
  have d0 := RA5.out.c 0 _ rfl
  have d1 := RB5.out.c 0 _ rfl
  have d2 := RB5.out.c 1 _ rfl
  have f0 := RA5.out.f 0
  have u0 := GB5.out.c 0 _ rfl
  have u1 := GH5.out.c 0 _ rfl
  have u2 := GH5.out.c 1 _ rfl
  clear RAd RBd GBd GHd HBd HOd HHd ht5 hr5 HRd e0 e1 e2
  refine hK.out _ _ ⟨u0, u1, u2⟩ (fun hHeld => ?_); clear hK K; (try simp only [Act.put, List.setIfInBounds_toArray, List.set_cons_zero, List.set_cons_succ])
  clear u0 u1 u2
  refine wpAnyH_ready (rs := [5]) (by kernel_rfl) (by simp) ?_; refine AllReadyH.cons (o := ⟨none, _, _, _, _, _⟩) rfl (fun K hK => ?_) AllReadyH.nil; go_simp
  obtain ⟨w6, hw6⟩ : ∃ W, W = w5.setCell ⟨w.heap.size, 0, none⟩ (.slice A2 k c2) := ⟨_, rfl⟩
  rw [← hw6]
  have v1 : w6.cell? ⟨w.heap.size + 1, 0, none⟩ = some (.slice none 0 0) := by rw [hw6]; exact (RB5.out.other ⟨w.heap.size, 0, none⟩ (by show w.heap.size + 1 ≠ w.heap.size; omega) _).c 0 _ rfl
  have v2 : w6.cell? ⟨w.heap.size + 1, 1, none⟩ = some (.int .i64 0) := by rw [hw6]; exact (RB5.out.other ⟨w.heap.size, 0, none⟩ (by show w.heap.size + 1 ≠ w.heap.size; omega) _).c 1 _ rfl
  have g1 : w6.frozen? ⟨w.heap.size + 1, 0, none⟩ = false := by rw [hw6]; exact (RB5.out.other ⟨w.heap.size, 0, none⟩ (by show w.heap.size + 1 ≠ w.heap.size; omega) _).f 0
  have g2 : w6.frozen? ⟨w.heap.size + 1, 1, none⟩ = false := by rw [hw6]; exact (RB5.out.other ⟨w.heap.size, 0, none⟩ (by show w.heap.size + 1 ≠ w.heap.size; omega) _).f 1
  have GB6 : Hid (Bx w2.heap.size [.slice A2 k c2] w6) := by rw [hw6]; exact GB5.out.other ⟨w.heap.size, 0, none⟩ (by show w2.heap.size ≠ w.heap.size; omega) _
  have GH6 : Hid (Bx (w2.heap.size + 1) [.slice E l d, .int .i64 y] w6) := by rw [hw6]; exact GH5.out.other ⟨w.heap.size, 0, none⟩ (by show w2.heap.size + 1 ≠ w.heap.size; omega) _
  have HD0 := Lib.hid d0
  have HD1 := Lib.hid d1
  have HD2 := Lib.hid d2
  have HW6 := Lib.hid hw6
  have u0 := GB6.out.c 0 _ rfl
  have u1 := GH6.out.c 0 _ rfl
  have u2 := GH6.out.c 1 _ rfl
  clear d0 d1 d2 f0 hw6 RA5 RB5 GB5 GH5
  refine hK.out _ _ ⟨u0, u1, u2⟩ (fun hHeld => ?_); clear hK K; (try simp only [Act.put, List.setIfInBounds_toArray, List.set_cons_zero, List.set_cons_succ])
  clear u0 u1 u2
  refine wpAnyH_ready (rs := [6]) (by kernel_rfl) (by simp) ?_; refine AllReadyH.cons (o := ⟨none, _, _, _, _, _⟩) rfl (fun K hK => ?_) AllReadyH.nil; go_simp
  obtain ⟨xf, hxf⟩ : ∃ X, X = (w6.setCell ⟨w.heap.size + 1, 0, none⟩ (.slice E l d)).setCell ⟨w.heap.size + 1, 1, none⟩ (.int .i64 y) := ⟨_, rfl⟩
  rw [← hxf]
  have u0 : xf.cell? ⟨w2.heap.size, 0, none⟩ = some (.slice A2 k c2) := by rw [hxf]; exact ((GB6.out.other ⟨w.heap.size + 1, 0, none⟩ (by show w2.heap.size ≠ w.heap.size + 1; omega) _).other ⟨w.heap.size + 1, 1, none⟩ (by show w2.heap.size ≠ w.heap.size + 1; omega) _).c 0 _ rfl
  have u3 : Bx (w2.heap.size + 1) [.slice E l d, .int .i64 y] xf := by rw [hxf]; exact (GH6.out.other ⟨w.heap.size + 1, 0, none⟩ (by show w2.heap.size + 1 ≠ w.heap.size + 1; omega) _).other ⟨w.heap.size + 1, 1, none⟩ (by show w2.heap.size + 1 ≠ w.heap.size + 1; omega) _
  have u1 := u3.c 0 _ rfl
  have u2 := u3.c 1 _ rfl
  refine hK.out _ _ ⟨u0, u1, u2⟩ (fun hHeld => ?_); clear hK K; (try simp only [Act.put, List.setIfInBounds_toArray, List.set_cons_zero, List.set_cons_succ])
  refine wpAnyH_take (i := 7) (oi := ⟨some 4, _, _, _, _, _⟩) (v := ?_) rfl (by kernel_rfl) (by kernel_rfl) (by kernel_rfl) (fun _ _ _ h => h) (Or.inl ⟨by rfl, ?_⟩) (by assumption) ?_; rotate_left; (focus (intro w hSw; (try dsimp only at hSw); go_simp; (try with_reducible rfl))); (try simp only [Act.put, List.setIfInBounds_toArray, List.set_cons_zero, List.set_cons_succ])
  refine wpAnyH_done (by kernel_rfl) ?_ _
  rw [HW6.out] at hxf
  obtain ⟨r0, r1, r2⟩ := gh_cells HD0.out HD1.out HD2.out hxf
  have hxz : xf.heap.size = w5.heap.size := by rw [hxf]; simp [World.setCell]
  have hxk : ∀ b, w.heap.size + 2 ≤ b → xf.heap[b]? = w5.heap[b]? := fun b hb => by
    rw [hxf]
    exact (Below.heap_setCell _ _ _ _ (by show b ≠ w.heap.size + 1; omega)).trans ((Below.heap_setCell _ _ _ _ (by show b ≠ w.heap.size + 1; omega)).trans (Below.heap_setCell _ _ _ _ (by show b ≠ w.heap.size; omega)))
  have HGH := Lib.hid (GH.fin HB5.out (by omega) (by omega) HO5.out.it HH5.out.it HO5.out.le HH5.out.le hk2 hk10 hsm hl1 hl2 HX.out hy1 hy2 hxf)
  clear u0 u1 u2 u3 v1 v2 g1 g2 hxf HW6
  go_wp2
  refine bodyPost_ret (v := .tuple #[.agg #[.slice A2 k c2], .agg #[.slice E l d, .int .i64 y], .int .i64 x]) (by simp [results, Try.results21, go_sem, r0, r1, r2]) rfl ?_
  exact ⟨A2, k, c2, gs, E, l, d, ss, y, x, rfl, HGH.out, hx9.1, hx9.2⟩
end Go.Proofs.Ytfooafnfdeofoaa
