/- For all bytes the law FnSetCell holds: a set cell has its value, and set back the cells are as before; and the bytes stay as they were. Conditions: none. -/
import Derived.Test.YtgbijmfmdcphhaaZ06
import Derived.Deep.RegionHeld3
/- What the law of SetCell draws. -/
namespace Go.Proofs.Ytgbijmfmdcphhaa
set_option linter.unusedSimpArgs false
set_option linter.unusedVariables false
open Go.RowKit

/-- Returns a graph, cells and two numbers. -/
def DrGCN (w : World) (e : Ending) (w' : World) : Prop :=
  ∃ (A : Option Addr) (n c : Nat) (gs : List Nd) (E : Option Addr) (m d : Nat) (xs : List Int) (x y : Int), e = .returned (.tuple #[.agg #[.slice A n c], .slice E m d, .int .i64 x, .int .i64 y]) ∧ n = gs.length ∧ 2 ≤ n ∧ n ≤ 10 ∧ n ≤ c ∧ (∀ j, (gs.getD j default).ps.length ≤ 40) ∧ m = xs.length ∧ n ≤ m ∧ m ≤ n + 1 ∧ m ≤ d ∧ GS w' w'.heap.size A gs ∧ IS w' w'.heap.size E xs ∧ Below w.heap.size w w'

set_option maxRecDepth 100000 in
set_option maxHeartbeats 12800000 in
theorem spec_DrawSetCell (A : Option Addr) (n c : Nat) (bs : List Int) (w : World) (hn : n = bs.length) (hnc : n ≤ c) (h : BS w w.heap.size A bs) (hy : BY bs) (hs : n ≤ 1048576) :
    Calls Try.prog 42 #[.slice A n c] w fun e w' => DrGCN w e w' := by
  have h1 : BS (w.alloc (.cells #[.slice none 0 0] 41)) w.heap.size A bs := h.keep fun p hp => World.cell?_alloc_lt w _ p (by omega)
  have HCR := Lib.hid (spec_newReader A n c bs _ w.heap.size (by simp) hn hnc h1 hy hs)
  clear hn hnc h h1 hy hs
  go_enter Try.func42, Try.ntmps42
  go_wp2_with fail
  refine HCR.out.mono ?_
  rintro e w1 ⟨g, A1, n1, c1, ds, rfl, hn1, hn2, hy1, hr, hg, hb⟩
  have q0 : w1.cell? ⟨w.heap.size, 0, none⟩ = some (.slice none 0 0) := (hb.cell (p := ⟨w.heap.size, 0, none⟩) (by simp)).trans (by go_simp)
  have f0 : w1.frozen? ⟨w.heap.size, 0, none⟩ = false := (hb.frozen (p := ⟨w.heap.size, 0, none⟩) (by simp)).trans (by go_simp)
  have hl1 : w.heap.size < w1.heap.size := by have := hb.size; simp at this; omega
  have hgw : w.heap.size < g := by simp at hg; omega
  have hgl := hr.lt
  have HB1 : Hid (As w.heap.size (w.heap.size + 1) (fun w' => w'.cell? ⟨w.heap.size, 0, none⟩ = some (.slice none 0 0) ∧ w'.frozen? ⟨w.heap.size, 0, none⟩ = false) w1) :=
    ⟨⟨q0, f0⟩, hl1, fun w w' h hk => ⟨(World.cell?_of_block (a := ⟨_, 0, none⟩) (hk _ (Nat.le_refl _) (Nat.lt_succ_self _))).trans h.1, (World.frozen?_of_block (a := ⟨_, 0, none⟩) (hk _ (Nat.le_refl _) (Nat.lt_succ_self _))).trans h.2⟩⟩
  have HE1 := Lib.hid (((Below.refl w.heap.size w).alloc (Nat.le_refl _) (.cells #[.slice none 0 0] 41)).trans (hb.mono (by simp)))
  have HN1 := Lib.hid hn1
  have HS := Lib.hid (graphOf_any g A1 n1 c1 ds 0 w1 hr hn1 hy1 hn2 (by omega))
  clear hn1 hr hb HCR q0 f0
  go_wp2_with fail
  refine HS.out.mono ?_
  rintro e w2 ⟨V, kk, gs, v5, xs, rfl, hk2, hk10, hsm, hx1, hx2, ho, ho3, hr2, ht⟩
  obtain ⟨gn, cg, rfl⟩ := ho.pos (by omega)
  obtain ⟨E5, c5, rfl, _⟩ := OwnI.form ho3
  unfold OwnI at ho3
  have hs2 := ht.size
  obtain ⟨bG, hbG⟩ : ∃ bG, bG = w2.heap.size := ⟨_, rfl⟩
  have HBG := Lib.hid hbG
  have HCC := Lib.hid (own_ncap ho3)
  have HO1 : Hid (As w1.heap.size bG (OwG w1.heap.size bG (.slice (some ⟨gn, 0, none⟩) kk cg) kk gs) w2) := by rw [hbG]; exact graph_start ho
  have HC1 : Hid (As w1.heap.size bG (OwR w1.heap.size bG 3 1 (.slice E5 xs.length c5) xs.length (xs.map (Value.int .i64))) w2) := by rw [hbG]; exact row_start ho3
  have HB2 := Lib.hid (HB1.out.turn ht (.inr (by omega)))
  have HE2 := Lib.hid (HE1.out.trans (ht.below (B := w.heap.size) (by omega) (by omega)))
  have HG0 := box_new w2 (.slice (some ⟨gn, 0, none⟩) kk cg) 41
  rw [← hbG] at HG0
  have HG0 := Lib.hid HG0
  have HO0 := Lib.hid (HO1.out.alloc (.cells #[.slice (some ⟨gn, 0, none⟩) kk cg] 41))
  have HC0 := Lib.hid (HC1.out.alloc (.cells #[.slice (some ⟨gn, 0, none⟩) kk cg] 41))
  have HB0 := Lib.hid (HB2.out.alloc (.cells #[.slice (some ⟨gn, 0, none⟩) kk cg] 41))
  have HR0 := Lib.hid (hr2.alloc (.cells #[.slice (some ⟨gn, 0, none⟩) kk cg] 41))
  have HE0 := Lib.hid (HE2.out.alloc (by omega) (.cells #[.slice (some ⟨gn, 0, none⟩) kk cg] 41))
  have hzG : bG < (w2.alloc (.cells #[.slice (some ⟨gn, 0, none⟩) kk cg] 41)).heap.size := by rw [hbG]; simp
  have hgG : w1.heap.size ≤ bG := by omega
  have hkk : ((kk : Nat) : Int) ≤ 1000000 := by omega
  clear ho ho3 hr2 ht HO1 HC1 HB1 HB2 HE1 HE2 HS hbG
  have q0 := HG0.out.it
  go_wp2
  rw [← HBG.out]
  generalize w2.alloc (.cells #[.slice (some ⟨gn, 0, none⟩) kk cg] 41) = W0 at *
  have hv0 : w1.heap.size ≤ W0.heap.size := by omega
  refine wp_region_held_drew (S := fun w' => w'.cell? ⟨bG, 0, none⟩ = some (.slice (some ⟨gn, 0, none⟩) kk cg)) (by kernel_rfl) q0 (fun hHeld => ?_)
  refine wpAnyH_take (i := 0) (oi := ⟨some 16, _, _, _, _, _⟩) (v := ?_) rfl (by kernel_rfl) (by kernel_rfl) (by kernel_rfl) (fun _ _ _ h => h) (Or.inl ⟨by rfl, ?_⟩) (by assumption) ?_; rotate_left; (focus (intro w hSw; (try dsimp only at hSw); go_simp; (try with_reducible rfl))); (try simp only [Act.put, List.setIfInBounds_toArray, List.set_cons_zero, List.set_cons_succ])
  refine wpAnyH_take (i := 1) (oi := ⟨some 17, _, _, _, _, _⟩) (v := ?_) rfl (by kernel_rfl) (by kernel_rfl) (by kernel_rfl) (fun _ _ _ h => h) (Or.inl ⟨by rfl, ?_⟩) (by assumption) ?_; rotate_left; (focus (intro w hSw; (try dsimp only at hSw); go_simp; (try with_reducible rfl))); (try simp only [Act.put, List.setIfInBounds_toArray, List.set_cons_zero, List.set_cons_succ])
  refine wpAnyH_take (i := 2) (oi := ⟨some 18, _, _, _, _, _⟩) (v := ?_) rfl (by kernel_rfl) (by kernel_rfl) (by kernel_rfl) (fun _ _ _ h => h) (Or.inl ⟨by rfl, ?_⟩) (by assumption) ?_; rotate_left; (focus (intro w hSw; (try dsimp only at hSw); go_simp; (try with_reducible rfl))); (try simp only [Act.put, List.setIfInBounds_toArray, List.set_cons_zero, List.set_cons_succ])
  refine wpAnyH_take (i := 3) (oi := ⟨some 19, _, _, _, _, _⟩) (v := ?_) rfl (by kernel_rfl) (by kernel_rfl) (by kernel_rfl) (fun _ _ _ h => h) (Or.inl ⟨by rfl, ?_⟩) (by assumption) ?_; rotate_left; (focus (intro w hSw; (try dsimp only at hSw); go_simp; (try with_reducible rfl))); (try simp only [Act.put, List.setIfInBounds_toArray, List.set_cons_zero, List.set_cons_succ])
  refine wpAnyH_take (i := 4) (oi := ⟨some 20, _, _, _, _, _⟩) (v := ?_) rfl (by kernel_rfl) (by kernel_rfl) (by kernel_rfl) (fun _ _ _ h => h) (Or.inl ⟨by rfl, ?_⟩) (by assumption) ?_; rotate_left; (focus (intro w hSw; (try dsimp only at hSw); go_simp; (try with_reducible rfl))); (try simp only [Act.put, List.setIfInBounds_toArray, List.set_cons_zero, List.set_cons_succ])
  refine wpAnyH_take (i := 5) (oi := ⟨some 21, _, _, _, _, _⟩) (v := ?_) rfl (by kernel_rfl) (by kernel_rfl) (by kernel_rfl) (fun _ _ _ h => h) (Or.inl ⟨by rfl, ?_⟩) (by assumption) ?_; rotate_left; (focus (intro w hSw; (try dsimp only at hSw); go_simp; (try with_reducible rfl))); (try simp only [Act.put, List.setIfInBounds_toArray, List.set_cons_zero, List.set_cons_succ])
  refine wpAnyH_take (i := 6) (oi := ⟨some 22, _, _, _, _, _⟩) (v := ?_) rfl (by kernel_rfl) (by kernel_rfl) (by kernel_rfl) (fun _ _ _ h => h) (Or.inl ⟨by rfl, ?_⟩) (by assumption) ?_; rotate_left; (focus (intro w hSw; (try dsimp only at hSw); go_simp; (try with_reducible rfl))); (try simp only [Act.put, List.setIfInBounds_toArray, List.set_cons_zero, List.set_cons_succ])
  refine wpAnyH_take (i := 10) (oi := ⟨some 26, _, _, _, _, _⟩) (v := ?_) rfl (by kernel_rfl) (by kernel_rfl) (by kernel_rfl) (fun _ _ _ h => h) (Or.inl ⟨by rfl, ?_⟩) (by assumption) ?_; rotate_left; (focus (intro w hSw; (try dsimp only at hSw); go_simp; (try with_reducible rfl))); (try simp only [Act.put, List.setIfInBounds_toArray, List.set_cons_zero, List.set_cons_succ])
  refine wpAnyH_ready (rs := [7, 11]) (by kernel_rfl) (by simp) ?_; refine AllReadyH.cons (o := ⟨some 23, _, _, _, _, _⟩) rfl (fun K hK => ?_) (AllReadyH.cons (o := ⟨some 27, _, _, _, _, _⟩) rfl (fun K hK => ?_) AllReadyH.nil)
  · go_simp
    go_at_call 65
    refine (pick_any g A1 n1 c1 ds (2600) kk _ ?_ HN1.out hy1 hn2 (by omega) (by omega)).mono ?_
    · first | exact HR0.out | exact HR0.out.drew
    rintro e v1 ⟨x3, rfl, _, _, hr, ht'⟩
    have ht : Tch g (g + 1) W0 v1 := ⟨ht'.os, ht'.tape, ht'.output, ht'.size, ht'.block⟩
    have hz1 := ht.size
    have hv1 : w1.heap.size ≤ v1.heap.size := by omega
    have HR1 := Lib.hid hr
    have HO1 := Lib.hid (HO0.out.turn ht (by omega))
    have HC1 := Lib.hid (HC0.out.turn ht (by omega))
    have HB1 := Lib.hid (HB0.out.turn ht (by omega))
    have HG1 := Lib.hid (HG0.out.turn ht (by omega))
    have HE1 := Lib.hid (HE0.out.trans (ht.below (B := w.heap.size) (by omega) (by omega)))
    have q1 := HG1.out.it
    clear hr ht ht'
    refine hK.out _ _ q1 (fun hHeld => ?_); clear hK K; (try simp only [Act.put, List.setIfInBounds_toArray, List.set_cons_zero, List.set_cons_succ])
    refine wpAnyH_ready (rs := [8, 11]) (by kernel_rfl) (by simp) ?_; refine AllReadyH.cons (o := ⟨some 24, _, _, _, _, _⟩) rfl (fun K hK => ?_) (AllReadyH.cons (o := ⟨some 27, _, _, _, _, _⟩) rfl (fun K hK => ?_) AllReadyH.nil)
    · go_simp
      have HO2 := Lib.hid (HO1.out.alloc (.cells #[.int .i64 0, .int .i64 1, .int .i64 x3, .int .i64 (-1)] 3))
      have HC2 := Lib.hid (HC1.out.alloc (.cells #[.int .i64 0, .int .i64 1, .int .i64 x3, .int .i64 (-1)] 3))
      have HB2 := Lib.hid (HB1.out.alloc (.cells #[.int .i64 0, .int .i64 1, .int .i64 x3, .int .i64 (-1)] 3))
      have HG2 := Lib.hid (HG1.out.alloc (.cells #[.int .i64 0, .int .i64 1, .int .i64 x3, .int .i64 (-1)] 3))
      have HR2 := Lib.hid (HR1.out.alloc (.cells #[.int .i64 0, .int .i64 1, .int .i64 x3, .int .i64 (-1)] 3))
      have HE2 := Lib.hid (HE1.out.alloc (by omega) (.cells #[.int .i64 0, .int .i64 1, .int .i64 x3, .int .i64 (-1)] 3))
      have LA2 : Hid (As v1.heap.size (v1.heap.size + 1) (fun w' => ∀ j, j < 4 → w'.cell? ⟨v1.heap.size, 0 + j, none⟩ = some (.int .i64 (([0, 1, (x3 : Int), -1] : List Int).getD j 0))) (v1.alloc (.cells #[.int .i64 0, .int .i64 1, .int .i64 x3, .int .i64 (-1)] 3))) := by
        refine ⟨fun j hj => ?_, by simp, fun u u' h hk j hj => (World.cell?_of_block (a := ⟨_, 0 + j, none⟩) (hk _ (Nat.le_refl _) (Nat.lt_succ_self _))).trans (h j hj)⟩
        have : j = 0 ∨ j = 1 ∨ j = 2 ∨ j = 3 := by omega
        rcases this with rfl | rfl | rfl | rfl <;> go_simp
      have hz2 : v1.heap.size < (v1.alloc (.cells #[.int .i64 0, .int .i64 1, .int .i64 x3, .int .i64 (-1)] 3)).heap.size := by simp
      have hv2 : w1.heap.size ≤ (v1.alloc (.cells #[.int .i64 0, .int .i64 1, .int .i64 x3, .int .i64 (-1)] 3)).heap.size := by omega
      have q2 := HG2.out.it
      refine hK.out _ _ q2 (fun hHeld => ?_); clear hK K; (try simp only [Act.put, List.setIfInBounds_toArray, List.set_cons_zero, List.set_cons_succ])
      have hs2 : v1.heap.size + 1 ≤ (v1.alloc (.cells #[.int .i64 0, .int .i64 1, .int .i64 x3, .int .i64 (-1)] 3)).heap.size := by simp
      generalize (v1.alloc (.cells #[.int .i64 0, .int .i64 1, .int .i64 x3, .int .i64 (-1)] 3)) = u2 at *
      refine wpAnyH_ready (rs := [9, 11]) (by kernel_rfl) (by simp) ?_; refine AllReadyH.cons (o := ⟨some 25, _, _, _, _, _⟩) rfl (fun K hK => ?_) (AllReadyH.cons (o := ⟨some 27, _, _, _, _, _⟩) rfl (fun K hK => ?_) AllReadyH.nil)
      · go_simp
        go_at_call 64
        refine (one_any g A1 n1 c1 ds (2601) v1.heap.size 0 4 4 [0, 1, (x3 : Int), -1] _ ?_ HN1.out hy1 hn2 (by omega) rfl (by omega) (by omega) ?_ ?_ ?_).mono ?_
        · first | exact HR2.out | exact HR2.out.drew
        · exact LA2.out.it
        · have := hgl; omega
        · have := LA2.out.le; first | exact this | omega | (simp at this ⊢; omega)
        rintro e v3 ⟨x5, rfl, _, hr, ht'⟩
        have ht : Tch g (g + 1) u2 v3 := ⟨ht'.os, ht'.tape, ht'.output, ht'.size, ht'.block⟩
        have hz3 := ht.size
        have hv3 : w1.heap.size ≤ v3.heap.size := by omega
        have HR3 := Lib.hid hr
        have HO3 := Lib.hid (HO2.out.turn ht (by omega))
        have HC3 := Lib.hid (HC2.out.turn ht (by omega))
        have HB3 := Lib.hid (HB2.out.turn ht (by omega))
        have HG3 := Lib.hid (HG2.out.turn ht (by omega))
        have LA3 := Lib.hid (LA2.out.turn ht (by omega))
        have HE3 := Lib.hid (HE2.out.trans (ht.below (B := w.heap.size) (by omega) (by omega)))
        have q3 := HG3.out.it
        clear hr ht ht'
        refine hK.out _ _ q3 (fun hHeld => ?_); clear hK K; (try simp only [Act.put, List.setIfInBounds_toArray, List.set_cons_zero, List.set_cons_succ])
        refine wpAnyH_ready (rs := [11]) (by kernel_rfl) (by simp) ?_; refine AllReadyH.cons (o := ⟨some 27, _, _, _, _, _⟩) rfl (fun K hK => ?_) AllReadyH.nil; go_simp
        have HO4 := Lib.hid (HO3.out.alloc (.cells #[.int .i64 5, .int .i64 0, .int .i64 999, .int .i64 1000, .int .i64 (-1)] 3))
        have HC4 := Lib.hid (HC3.out.alloc (.cells #[.int .i64 5, .int .i64 0, .int .i64 999, .int .i64 1000, .int .i64 (-1)] 3))
        have HB4 := Lib.hid (HB3.out.alloc (.cells #[.int .i64 5, .int .i64 0, .int .i64 999, .int .i64 1000, .int .i64 (-1)] 3))
        have HG4 := Lib.hid (HG3.out.alloc (.cells #[.int .i64 5, .int .i64 0, .int .i64 999, .int .i64 1000, .int .i64 (-1)] 3))
        have HR4 := Lib.hid (HR3.out.alloc (.cells #[.int .i64 5, .int .i64 0, .int .i64 999, .int .i64 1000, .int .i64 (-1)] 3))
        have HE4 := Lib.hid (HE3.out.alloc (by omega) (.cells #[.int .i64 5, .int .i64 0, .int .i64 999, .int .i64 1000, .int .i64 (-1)] 3))
        have LA4 := Lib.hid (LA3.out.alloc (.cells #[.int .i64 5, .int .i64 0, .int .i64 999, .int .i64 1000, .int .i64 (-1)] 3))
        have LB4 : Hid (As v3.heap.size (v3.heap.size + 1) (fun w' => ∀ j, j < 5 → w'.cell? ⟨v3.heap.size, 0 + j, none⟩ = some (.int .i64 (([5, 0, 999, 1000, -1] : List Int).getD j 0))) (v3.alloc (.cells #[.int .i64 5, .int .i64 0, .int .i64 999, .int .i64 1000, .int .i64 (-1)] 3))) := by
          refine ⟨fun j hj => ?_, by simp, fun u u' h hk j hj => (World.cell?_of_block (a := ⟨_, 0 + j, none⟩) (hk _ (Nat.le_refl _) (Nat.lt_succ_self _))).trans (h j hj)⟩
          have : j = 0 ∨ j = 1 ∨ j = 2 ∨ j = 3 ∨ j = 4 := by omega
          rcases this with rfl | rfl | rfl | rfl | rfl <;> go_simp
        have hz4 : v3.heap.size < (v3.alloc (.cells #[.int .i64 5, .int .i64 0, .int .i64 999, .int .i64 1000, .int .i64 (-1)] 3)).heap.size := by simp
        have hv4 : w1.heap.size ≤ (v3.alloc (.cells #[.int .i64 5, .int .i64 0, .int .i64 999, .int .i64 1000, .int .i64 (-1)] 3)).heap.size := by omega
        have q4 := HG4.out.it
        refine hK.out _ _ q4 (fun hHeld => ?_); clear hK K; (try simp only [Act.put, List.setIfInBounds_toArray, List.set_cons_zero, List.set_cons_succ])
        have hs4 : v3.heap.size + 1 ≤ (v3.alloc (.cells #[.int .i64 5, .int .i64 0, .int .i64 999, .int .i64 1000, .int .i64 (-1)] 3)).heap.size := by simp
        generalize (v3.alloc (.cells #[.int .i64 5, .int .i64 0, .int .i64 999, .int .i64 1000, .int .i64 (-1)] 3)) = u4 at *
        refine wpAnyH_ready (rs := [12]) (by kernel_rfl) (by simp) ?_; refine AllReadyH.cons (o := ⟨some 28, _, _, _, _, _⟩) rfl (fun K hK => ?_) AllReadyH.nil; go_simp
        go_at_call 64
        refine (one_any g A1 n1 c1 ds (2602) v3.heap.size 0 5 5 [5, 0, 999, 1000, -1] _ ?_ HN1.out hy1 hn2 (by omega) rfl (by omega) (by omega) ?_ ?_ ?_).mono ?_
        · first | exact HR4.out | exact HR4.out.drew
        · exact LB4.out.it
        · have := hgl; omega
        · have := LB4.out.le; first | exact this | omega | (simp at this ⊢; omega)
        rintro e v5 ⟨x7, rfl, _, hr, ht'⟩
        have ht : Tch g (g + 1) u4 v5 := ⟨ht'.os, ht'.tape, ht'.output, ht'.size, ht'.block⟩
        have hz5 := ht.size
        have hv5 : w1.heap.size ≤ v5.heap.size := by omega
        have HR5 := Lib.hid hr
        have HO5 := Lib.hid (HO4.out.turn ht (by omega))
        have HC5 := Lib.hid (HC4.out.turn ht (by omega))
        have HB5 := Lib.hid (HB4.out.turn ht (by omega))
        have HG5 := Lib.hid (HG4.out.turn ht (by omega))
        have LA5 := Lib.hid (LA4.out.turn ht (by omega))
        have LB5 := Lib.hid (LB4.out.turn ht (by omega))
        have HE5 := Lib.hid (HE4.out.trans (ht.below (B := w.heap.size) (by omega) (by omega)))
        have q5 := HG5.out.it
        clear hr ht ht'
        refine hK.out _ _ q5 (fun hHeld => ?_); clear hK K; (try simp only [Act.put, List.setIfInBounds_toArray, List.set_cons_zero, List.set_cons_succ])
        obtain ⟨r0, r1⟩ := HB5.out.it
        have qs : (v5.setCell ⟨w.heap.size, 0, none⟩ (.slice (some ⟨gn, 0, none⟩) kk cg)).cell? ⟨bG, 0, none⟩ = some (.slice (some ⟨gn, 0, none⟩) kk cg) := (World.cell?_setCell_other _ _ _ _ (by intro e; have := congrArg Addr.block e; simp at this; omega)).trans q5
        refine wpAnyH_ready (rs := [13]) (by kernel_rfl) (by simp) ?_; refine AllReadyH.cons (o := ⟨none, _, _, _, _, _⟩) rfl (fun K hK => ?_) AllReadyH.nil; go_simp
        refine hK.out _ _ qs (fun hHeld => ?_); clear hK K; (try simp only [Act.put, List.setIfInBounds_toArray, List.set_cons_zero, List.set_cons_succ])
        refine wpAnyH_take (i := 14) (oi := ⟨some 3, _, _, _, _, _⟩) (v := ?_) rfl (by kernel_rfl) (by kernel_rfl) (by kernel_rfl) (fun _ _ _ h => h) (Or.inl ⟨by rfl, ?_⟩) (by assumption) ?_; rotate_left; (focus (intro w hSw; (try dsimp only at hSw); go_simp; (try with_reducible rfl))); (try simp only [Act.put, List.setIfInBounds_toArray, List.set_cons_zero, List.set_cons_succ])
        refine wpAnyH_take (i := 15) (oi := ⟨some 4, _, _, _, _, _⟩) (v := ?_) rfl (by kernel_rfl) (by kernel_rfl) (by kernel_rfl) (fun _ _ _ h => h) (Or.inl ⟨by rfl, ?_⟩) (by assumption) ?_; rotate_left; (focus (intro w hSw; (try dsimp only at hSw); go_simp; (try with_reducible rfl))); (try simp only [Act.put, List.setIfInBounds_toArray, List.set_cons_zero, List.set_cons_succ])
        refine wpAnyH_take (i := 16) (oi := ⟨some 5, _, _, _, _, _⟩) (v := ?_) rfl (by kernel_rfl) (by kernel_rfl) (by kernel_rfl) (fun _ _ _ h => h) (Or.inl ⟨by rfl, ?_⟩) (by assumption) ?_; rotate_left; (focus (intro w hSw; (try dsimp only at hSw); go_simp; (try with_reducible rfl))); (try simp only [Act.put, List.setIfInBounds_toArray, List.set_cons_zero, List.set_cons_succ])
        refine wpAnyH_done (by kernel_rfl) ?_ _
        have r2 : (v5.setCell ⟨w.heap.size, 0, none⟩ (.slice (some ⟨gn, 0, none⟩) kk cg)).cell? ⟨w.heap.size, 0, none⟩ = some (.slice (some ⟨gn, 0, none⟩) kk cg) := World.cell?_setCell_same _ _ _ r0
        go_wp2
        refine bodyPost_ret (v := .tuple #[.agg #[.slice (some ⟨gn, 0, none⟩) kk cg], .slice E5 xs.length c5, .int .i64 x5, .int .i64 x7]) (by simp [results, Try.results42, go_sem, r2]) rfl ?_
        have hO : OwG w1.heap.size bG (.slice (some ⟨gn, 0, none⟩) kk cg) kk gs (v5.setCell ⟨w.heap.size, 0, none⟩ (.slice (some ⟨gn, 0, none⟩) kk cg)) := OwG.loc _ _ _ _ _ _ _ HO5.out.it fun b x y => Below.heap_setCell _ _ _ _ (by show b ≠ w.heap.size; omega)
        have hC : IS (v5.setCell ⟨w.heap.size, 0, none⟩ (.slice (some ⟨gn, 0, none⟩) kk cg)) bG E5 xs := (OwR.ints ((HC5.out.it).keep (w' := (v5.setCell ⟨w.heap.size, 0, none⟩ (.slice (some ⟨gn, 0, none⟩) kk cg))) fun b x y => Below.heap_setCell _ _ _ _ (by show b ≠ w.heap.size; omega)))
        have hl := HC5.out.le
        exact ⟨_, kk, cg, gs, E5, xs.length, c5, xs, x5, x7, rfl, hO.1, hk2, hk10, hO.ncap, hsm, rfl, hx1, hx2, HCC.out, hO.nodes.more (by simp [World.setCell]; omega), hC.more (by simp [World.setCell]; omega), below_set0 HE5.out _⟩
      · go_simp
        have HO6 := Lib.hid (HO2.out.alloc (.cells #[.int .i64 5, .int .i64 0, .int .i64 999, .int .i64 1000, .int .i64 (-1)] 3))
        have HC6 := Lib.hid (HC2.out.alloc (.cells #[.int .i64 5, .int .i64 0, .int .i64 999, .int .i64 1000, .int .i64 (-1)] 3))
        have HB6 := Lib.hid (HB2.out.alloc (.cells #[.int .i64 5, .int .i64 0, .int .i64 999, .int .i64 1000, .int .i64 (-1)] 3))
        have HG6 := Lib.hid (HG2.out.alloc (.cells #[.int .i64 5, .int .i64 0, .int .i64 999, .int .i64 1000, .int .i64 (-1)] 3))
        have HR6 := Lib.hid (HR2.out.alloc (.cells #[.int .i64 5, .int .i64 0, .int .i64 999, .int .i64 1000, .int .i64 (-1)] 3))
        have HE6 := Lib.hid (HE2.out.alloc (by omega) (.cells #[.int .i64 5, .int .i64 0, .int .i64 999, .int .i64 1000, .int .i64 (-1)] 3))
        have LA6 := Lib.hid (LA2.out.alloc (.cells #[.int .i64 5, .int .i64 0, .int .i64 999, .int .i64 1000, .int .i64 (-1)] 3))
        have LB6 : Hid (As u2.heap.size (u2.heap.size + 1) (fun w' => ∀ j, j < 5 → w'.cell? ⟨u2.heap.size, 0 + j, none⟩ = some (.int .i64 (([5, 0, 999, 1000, -1] : List Int).getD j 0))) (u2.alloc (.cells #[.int .i64 5, .int .i64 0, .int .i64 999, .int .i64 1000, .int .i64 (-1)] 3))) := by
          refine ⟨fun j hj => ?_, by simp, fun u u' h hk j hj => (World.cell?_of_block (a := ⟨_, 0 + j, none⟩) (hk _ (Nat.le_refl _) (Nat.lt_succ_self _))).trans (h j hj)⟩
          have : j = 0 ∨ j = 1 ∨ j = 2 ∨ j = 3 ∨ j = 4 := by omega
          rcases this with rfl | rfl | rfl | rfl | rfl <;> go_simp
        have hz6 : u2.heap.size < (u2.alloc (.cells #[.int .i64 5, .int .i64 0, .int .i64 999, .int .i64 1000, .int .i64 (-1)] 3)).heap.size := by simp
        have hv6 : w1.heap.size ≤ (u2.alloc (.cells #[.int .i64 5, .int .i64 0, .int .i64 999, .int .i64 1000, .int .i64 (-1)] 3)).heap.size := by omega
        have q6 := HG6.out.it
        refine hK.out _ _ q6 (fun hHeld => ?_); clear hK K; (try simp only [Act.put, List.setIfInBounds_toArray, List.set_cons_zero, List.set_cons_succ])
        have hs6 : u2.heap.size + 1 ≤ (u2.alloc (.cells #[.int .i64 5, .int .i64 0, .int .i64 999, .int .i64 1000, .int .i64 (-1)] 3)).heap.size := by simp
        generalize (u2.alloc (.cells #[.int .i64 5, .int .i64 0, .int .i64 999, .int .i64 1000, .int .i64 (-1)] 3)) = u6 at *
        refine wpAnyH_ready (rs := [9]) (by kernel_rfl) (by simp) ?_; refine AllReadyH.cons (o := ⟨some 25, _, _, _, _, _⟩) rfl (fun K hK => ?_) AllReadyH.nil; go_simp
        go_at_call 64
        refine (one_any g A1 n1 c1 ds (2601) v1.heap.size 0 4 4 [0, 1, (x3 : Int), -1] _ ?_ HN1.out hy1 hn2 (by omega) rfl (by omega) (by omega) ?_ ?_ ?_).mono ?_
        · first | exact HR6.out | exact HR6.out.drew
        · exact LA6.out.it
        · have := hgl; omega
        · have := LA6.out.le; first | exact this | omega | (simp at this ⊢; omega)
        rintro e v7 ⟨x5, rfl, _, hr, ht'⟩
        have ht : Tch g (g + 1) u6 v7 := ⟨ht'.os, ht'.tape, ht'.output, ht'.size, ht'.block⟩
        have hz7 := ht.size
        have hv7 : w1.heap.size ≤ v7.heap.size := by omega
        have HR7 := Lib.hid hr
        have HO7 := Lib.hid (HO6.out.turn ht (by omega))
        have HC7 := Lib.hid (HC6.out.turn ht (by omega))
        have HB7 := Lib.hid (HB6.out.turn ht (by omega))
        have HG7 := Lib.hid (HG6.out.turn ht (by omega))
        have LA7 := Lib.hid (LA6.out.turn ht (by omega))
        have LB7 := Lib.hid (LB6.out.turn ht (by omega))
        have HE7 := Lib.hid (HE6.out.trans (ht.below (B := w.heap.size) (by omega) (by omega)))
        have q7 := HG7.out.it
        clear hr ht ht'
        refine hK.out _ _ q7 (fun hHeld => ?_); clear hK K; (try simp only [Act.put, List.setIfInBounds_toArray, List.set_cons_zero, List.set_cons_succ])
        refine wpAnyH_ready (rs := [12]) (by kernel_rfl) (by simp) ?_; refine AllReadyH.cons (o := ⟨some 28, _, _, _, _, _⟩) rfl (fun K hK => ?_) AllReadyH.nil; go_simp
        go_at_call 64
        refine (one_any g A1 n1 c1 ds (2602) u2.heap.size 0 5 5 [5, 0, 999, 1000, -1] _ ?_ HN1.out hy1 hn2 (by omega) rfl (by omega) (by omega) ?_ ?_ ?_).mono ?_
        · first | exact HR7.out | exact HR7.out.drew
        · exact LB7.out.it
        · have := hgl; omega
        · have := LB7.out.le; first | exact this | omega | (simp at this ⊢; omega)
        rintro e v8 ⟨x7, rfl, _, hr, ht'⟩
        have ht : Tch g (g + 1) v7 v8 := ⟨ht'.os, ht'.tape, ht'.output, ht'.size, ht'.block⟩
        have hz8 := ht.size
        have hv8 : w1.heap.size ≤ v8.heap.size := by omega
        have HR8 := Lib.hid hr
        have HO8 := Lib.hid (HO7.out.turn ht (by omega))
        have HC8 := Lib.hid (HC7.out.turn ht (by omega))
        have HB8 := Lib.hid (HB7.out.turn ht (by omega))
        have HG8 := Lib.hid (HG7.out.turn ht (by omega))
        have LA8 := Lib.hid (LA7.out.turn ht (by omega))
        have LB8 := Lib.hid (LB7.out.turn ht (by omega))
        have HE8 := Lib.hid (HE7.out.trans (ht.below (B := w.heap.size) (by omega) (by omega)))
        have q8 := HG8.out.it
        clear hr ht ht'
        refine hK.out _ _ q8 (fun hHeld => ?_); clear hK K; (try simp only [Act.put, List.setIfInBounds_toArray, List.set_cons_zero, List.set_cons_succ])
        obtain ⟨r0, r1⟩ := HB8.out.it
        have qs : (v8.setCell ⟨w.heap.size, 0, none⟩ (.slice (some ⟨gn, 0, none⟩) kk cg)).cell? ⟨bG, 0, none⟩ = some (.slice (some ⟨gn, 0, none⟩) kk cg) := (World.cell?_setCell_other _ _ _ _ (by intro e; have := congrArg Addr.block e; simp at this; omega)).trans q8
        refine wpAnyH_ready (rs := [13]) (by kernel_rfl) (by simp) ?_; refine AllReadyH.cons (o := ⟨none, _, _, _, _, _⟩) rfl (fun K hK => ?_) AllReadyH.nil; go_simp
        refine hK.out _ _ qs (fun hHeld => ?_); clear hK K; (try simp only [Act.put, List.setIfInBounds_toArray, List.set_cons_zero, List.set_cons_succ])
        refine wpAnyH_take (i := 14) (oi := ⟨some 3, _, _, _, _, _⟩) (v := ?_) rfl (by kernel_rfl) (by kernel_rfl) (by kernel_rfl) (fun _ _ _ h => h) (Or.inl ⟨by rfl, ?_⟩) (by assumption) ?_; rotate_left; (focus (intro w hSw; (try dsimp only at hSw); go_simp; (try with_reducible rfl))); (try simp only [Act.put, List.setIfInBounds_toArray, List.set_cons_zero, List.set_cons_succ])
        refine wpAnyH_take (i := 15) (oi := ⟨some 4, _, _, _, _, _⟩) (v := ?_) rfl (by kernel_rfl) (by kernel_rfl) (by kernel_rfl) (fun _ _ _ h => h) (Or.inl ⟨by rfl, ?_⟩) (by assumption) ?_; rotate_left; (focus (intro w hSw; (try dsimp only at hSw); go_simp; (try with_reducible rfl))); (try simp only [Act.put, List.setIfInBounds_toArray, List.set_cons_zero, List.set_cons_succ])
        refine wpAnyH_take (i := 16) (oi := ⟨some 5, _, _, _, _, _⟩) (v := ?_) rfl (by kernel_rfl) (by kernel_rfl) (by kernel_rfl) (fun _ _ _ h => h) (Or.inl ⟨by rfl, ?_⟩) (by assumption) ?_; rotate_left; (focus (intro w hSw; (try dsimp only at hSw); go_simp; (try with_reducible rfl))); (try simp only [Act.put, List.setIfInBounds_toArray, List.set_cons_zero, List.set_cons_succ])
        refine wpAnyH_done (by kernel_rfl) ?_ _
        have r2 : (v8.setCell ⟨w.heap.size, 0, none⟩ (.slice (some ⟨gn, 0, none⟩) kk cg)).cell? ⟨w.heap.size, 0, none⟩ = some (.slice (some ⟨gn, 0, none⟩) kk cg) := World.cell?_setCell_same _ _ _ r0
        go_wp2
        refine bodyPost_ret (v := .tuple #[.agg #[.slice (some ⟨gn, 0, none⟩) kk cg], .slice E5 xs.length c5, .int .i64 x5, .int .i64 x7]) (by simp [results, Try.results42, go_sem, r2]) rfl ?_
        have hO : OwG w1.heap.size bG (.slice (some ⟨gn, 0, none⟩) kk cg) kk gs (v8.setCell ⟨w.heap.size, 0, none⟩ (.slice (some ⟨gn, 0, none⟩) kk cg)) := OwG.loc _ _ _ _ _ _ _ HO8.out.it fun b x y => Below.heap_setCell _ _ _ _ (by show b ≠ w.heap.size; omega)
        have hC : IS (v8.setCell ⟨w.heap.size, 0, none⟩ (.slice (some ⟨gn, 0, none⟩) kk cg)) bG E5 xs := (OwR.ints ((HC8.out.it).keep (w' := (v8.setCell ⟨w.heap.size, 0, none⟩ (.slice (some ⟨gn, 0, none⟩) kk cg))) fun b x y => Below.heap_setCell _ _ _ _ (by show b ≠ w.heap.size; omega)))
        have hl := HC8.out.le
        exact ⟨_, kk, cg, gs, E5, xs.length, c5, xs, x5, x7, rfl, hO.1, hk2, hk10, hO.ncap, hsm, rfl, hx1, hx2, HCC.out, hO.nodes.more (by simp [World.setCell]; omega), hC.more (by simp [World.setCell]; omega), below_set0 HE8.out _⟩
    · go_simp
      have HO9 := Lib.hid (HO1.out.alloc (.cells #[.int .i64 5, .int .i64 0, .int .i64 999, .int .i64 1000, .int .i64 (-1)] 3))
      have HC9 := Lib.hid (HC1.out.alloc (.cells #[.int .i64 5, .int .i64 0, .int .i64 999, .int .i64 1000, .int .i64 (-1)] 3))
      have HB9 := Lib.hid (HB1.out.alloc (.cells #[.int .i64 5, .int .i64 0, .int .i64 999, .int .i64 1000, .int .i64 (-1)] 3))
      have HG9 := Lib.hid (HG1.out.alloc (.cells #[.int .i64 5, .int .i64 0, .int .i64 999, .int .i64 1000, .int .i64 (-1)] 3))
      have HR9 := Lib.hid (HR1.out.alloc (.cells #[.int .i64 5, .int .i64 0, .int .i64 999, .int .i64 1000, .int .i64 (-1)] 3))
      have HE9 := Lib.hid (HE1.out.alloc (by omega) (.cells #[.int .i64 5, .int .i64 0, .int .i64 999, .int .i64 1000, .int .i64 (-1)] 3))
      have LB9 : Hid (As v1.heap.size (v1.heap.size + 1) (fun w' => ∀ j, j < 5 → w'.cell? ⟨v1.heap.size, 0 + j, none⟩ = some (.int .i64 (([5, 0, 999, 1000, -1] : List Int).getD j 0))) (v1.alloc (.cells #[.int .i64 5, .int .i64 0, .int .i64 999, .int .i64 1000, .int .i64 (-1)] 3))) := by
        refine ⟨fun j hj => ?_, by simp, fun u u' h hk j hj => (World.cell?_of_block (a := ⟨_, 0 + j, none⟩) (hk _ (Nat.le_refl _) (Nat.lt_succ_self _))).trans (h j hj)⟩
        have : j = 0 ∨ j = 1 ∨ j = 2 ∨ j = 3 ∨ j = 4 := by omega
        rcases this with rfl | rfl | rfl | rfl | rfl <;> go_simp
      have hz9 : v1.heap.size < (v1.alloc (.cells #[.int .i64 5, .int .i64 0, .int .i64 999, .int .i64 1000, .int .i64 (-1)] 3)).heap.size := by simp
      have hv9 : w1.heap.size ≤ (v1.alloc (.cells #[.int .i64 5, .int .i64 0, .int .i64 999, .int .i64 1000, .int .i64 (-1)] 3)).heap.size := by omega
      have q9 := HG9.out.it
      refine hK.out _ _ q9 (fun hHeld => ?_); clear hK K; (try simp only [Act.put, List.setIfInBounds_toArray, List.set_cons_zero, List.set_cons_succ])
      have hs9 : v1.heap.size + 1 ≤ (v1.alloc (.cells #[.int .i64 5, .int .i64 0, .int .i64 999, .int .i64 1000, .int .i64 (-1)] 3)).heap.size := by simp
      generalize (v1.alloc (.cells #[.int .i64 5, .int .i64 0, .int .i64 999, .int .i64 1000, .int .i64 (-1)] 3)) = u9 at *
      refine wpAnyH_ready (rs := [8]) (by kernel_rfl) (by simp) ?_; refine AllReadyH.cons (o := ⟨some 24, _, _, _, _, _⟩) rfl (fun K hK => ?_) AllReadyH.nil; go_simp
      have HO10 := Lib.hid (HO9.out.alloc (.cells #[.int .i64 0, .int .i64 1, .int .i64 x3, .int .i64 (-1)] 3))
      have HC10 := Lib.hid (HC9.out.alloc (.cells #[.int .i64 0, .int .i64 1, .int .i64 x3, .int .i64 (-1)] 3))
      have HB10 := Lib.hid (HB9.out.alloc (.cells #[.int .i64 0, .int .i64 1, .int .i64 x3, .int .i64 (-1)] 3))
      have HG10 := Lib.hid (HG9.out.alloc (.cells #[.int .i64 0, .int .i64 1, .int .i64 x3, .int .i64 (-1)] 3))
      have HR10 := Lib.hid (HR9.out.alloc (.cells #[.int .i64 0, .int .i64 1, .int .i64 x3, .int .i64 (-1)] 3))
      have HE10 := Lib.hid (HE9.out.alloc (by omega) (.cells #[.int .i64 0, .int .i64 1, .int .i64 x3, .int .i64 (-1)] 3))
      have LB10 := Lib.hid (LB9.out.alloc (.cells #[.int .i64 0, .int .i64 1, .int .i64 x3, .int .i64 (-1)] 3))
      have LA10 : Hid (As u9.heap.size (u9.heap.size + 1) (fun w' => ∀ j, j < 4 → w'.cell? ⟨u9.heap.size, 0 + j, none⟩ = some (.int .i64 (([0, 1, (x3 : Int), -1] : List Int).getD j 0))) (u9.alloc (.cells #[.int .i64 0, .int .i64 1, .int .i64 x3, .int .i64 (-1)] 3))) := by
        refine ⟨fun j hj => ?_, by simp, fun u u' h hk j hj => (World.cell?_of_block (a := ⟨_, 0 + j, none⟩) (hk _ (Nat.le_refl _) (Nat.lt_succ_self _))).trans (h j hj)⟩
        have : j = 0 ∨ j = 1 ∨ j = 2 ∨ j = 3 := by omega
        rcases this with rfl | rfl | rfl | rfl <;> go_simp
      have hz10 : u9.heap.size < (u9.alloc (.cells #[.int .i64 0, .int .i64 1, .int .i64 x3, .int .i64 (-1)] 3)).heap.size := by simp
      have hv10 : w1.heap.size ≤ (u9.alloc (.cells #[.int .i64 0, .int .i64 1, .int .i64 x3, .int .i64 (-1)] 3)).heap.size := by omega
      have q10 := HG10.out.it
      refine hK.out _ _ q10 (fun hHeld => ?_); clear hK K; (try simp only [Act.put, List.setIfInBounds_toArray, List.set_cons_zero, List.set_cons_succ])
      have hs10 : u9.heap.size + 1 ≤ (u9.alloc (.cells #[.int .i64 0, .int .i64 1, .int .i64 x3, .int .i64 (-1)] 3)).heap.size := by simp
      generalize (u9.alloc (.cells #[.int .i64 0, .int .i64 1, .int .i64 x3, .int .i64 (-1)] 3)) = u10 at *
      refine wpAnyH_ready (rs := [9]) (by kernel_rfl) (by simp) ?_; refine AllReadyH.cons (o := ⟨some 25, _, _, _, _, _⟩) rfl (fun K hK => ?_) AllReadyH.nil; go_simp
      go_at_call 64
      refine (one_any g A1 n1 c1 ds (2601) u9.heap.size 0 4 4 [0, 1, (x3 : Int), -1] _ ?_ HN1.out hy1 hn2 (by omega) rfl (by omega) (by omega) ?_ ?_ ?_).mono ?_
      · first | exact HR10.out | exact HR10.out.drew
      · exact LA10.out.it
      · have := hgl; omega
      · have := LA10.out.le; first | exact this | omega | (simp at this ⊢; omega)
      rintro e v11 ⟨x5, rfl, _, hr, ht'⟩
      have ht : Tch g (g + 1) u10 v11 := ⟨ht'.os, ht'.tape, ht'.output, ht'.size, ht'.block⟩
      have hz11 := ht.size
      have hv11 : w1.heap.size ≤ v11.heap.size := by omega
      have HR11 := Lib.hid hr
      have HO11 := Lib.hid (HO10.out.turn ht (by omega))
      have HC11 := Lib.hid (HC10.out.turn ht (by omega))
      have HB11 := Lib.hid (HB10.out.turn ht (by omega))
      have HG11 := Lib.hid (HG10.out.turn ht (by omega))
      have LA11 := Lib.hid (LA10.out.turn ht (by omega))
      have LB11 := Lib.hid (LB10.out.turn ht (by omega))
      have HE11 := Lib.hid (HE10.out.trans (ht.below (B := w.heap.size) (by omega) (by omega)))
      have q11 := HG11.out.it
      clear hr ht ht'
      refine hK.out _ _ q11 (fun hHeld => ?_); clear hK K; (try simp only [Act.put, List.setIfInBounds_toArray, List.set_cons_zero, List.set_cons_succ])
      refine wpAnyH_ready (rs := [12]) (by kernel_rfl) (by simp) ?_; refine AllReadyH.cons (o := ⟨some 28, _, _, _, _, _⟩) rfl (fun K hK => ?_) AllReadyH.nil; go_simp
      go_at_call 64
      refine (one_any g A1 n1 c1 ds (2602) v1.heap.size 0 5 5 [5, 0, 999, 1000, -1] _ ?_ HN1.out hy1 hn2 (by omega) rfl (by omega) (by omega) ?_ ?_ ?_).mono ?_
      · first | exact HR11.out | exact HR11.out.drew
      · exact LB11.out.it
      · have := hgl; omega
      · have := LB11.out.le; first | exact this | omega | (simp at this ⊢; omega)
      rintro e v12 ⟨x7, rfl, _, hr, ht'⟩
      have ht : Tch g (g + 1) v11 v12 := ⟨ht'.os, ht'.tape, ht'.output, ht'.size, ht'.block⟩
      have hz12 := ht.size
      have hv12 : w1.heap.size ≤ v12.heap.size := by omega
      have HR12 := Lib.hid hr
      have HO12 := Lib.hid (HO11.out.turn ht (by omega))
      have HC12 := Lib.hid (HC11.out.turn ht (by omega))
      have HB12 := Lib.hid (HB11.out.turn ht (by omega))
      have HG12 := Lib.hid (HG11.out.turn ht (by omega))
      have LA12 := Lib.hid (LA11.out.turn ht (by omega))
      have LB12 := Lib.hid (LB11.out.turn ht (by omega))
      have HE12 := Lib.hid (HE11.out.trans (ht.below (B := w.heap.size) (by omega) (by omega)))
      have q12 := HG12.out.it
      clear hr ht ht'
      refine hK.out _ _ q12 (fun hHeld => ?_); clear hK K; (try simp only [Act.put, List.setIfInBounds_toArray, List.set_cons_zero, List.set_cons_succ])
      obtain ⟨r0, r1⟩ := HB12.out.it
      have qs : (v12.setCell ⟨w.heap.size, 0, none⟩ (.slice (some ⟨gn, 0, none⟩) kk cg)).cell? ⟨bG, 0, none⟩ = some (.slice (some ⟨gn, 0, none⟩) kk cg) := (World.cell?_setCell_other _ _ _ _ (by intro e; have := congrArg Addr.block e; simp at this; omega)).trans q12
      refine wpAnyH_ready (rs := [13]) (by kernel_rfl) (by simp) ?_; refine AllReadyH.cons (o := ⟨none, _, _, _, _, _⟩) rfl (fun K hK => ?_) AllReadyH.nil; go_simp
      refine hK.out _ _ qs (fun hHeld => ?_); clear hK K; (try simp only [Act.put, List.setIfInBounds_toArray, List.set_cons_zero, List.set_cons_succ])
      refine wpAnyH_take (i := 14) (oi := ⟨some 3, _, _, _, _, _⟩) (v := ?_) rfl (by kernel_rfl) (by kernel_rfl) (by kernel_rfl) (fun _ _ _ h => h) (Or.inl ⟨by rfl, ?_⟩) (by assumption) ?_; rotate_left; (focus (intro w hSw; (try dsimp only at hSw); go_simp; (try with_reducible rfl))); (try simp only [Act.put, List.setIfInBounds_toArray, List.set_cons_zero, List.set_cons_succ])
      refine wpAnyH_take (i := 15) (oi := ⟨some 4, _, _, _, _, _⟩) (v := ?_) rfl (by kernel_rfl) (by kernel_rfl) (by kernel_rfl) (fun _ _ _ h => h) (Or.inl ⟨by rfl, ?_⟩) (by assumption) ?_; rotate_left; (focus (intro w hSw; (try dsimp only at hSw); go_simp; (try with_reducible rfl))); (try simp only [Act.put, List.setIfInBounds_toArray, List.set_cons_zero, List.set_cons_succ])
      refine wpAnyH_take (i := 16) (oi := ⟨some 5, _, _, _, _, _⟩) (v := ?_) rfl (by kernel_rfl) (by kernel_rfl) (by kernel_rfl) (fun _ _ _ h => h) (Or.inl ⟨by rfl, ?_⟩) (by assumption) ?_; rotate_left; (focus (intro w hSw; (try dsimp only at hSw); go_simp; (try with_reducible rfl))); (try simp only [Act.put, List.setIfInBounds_toArray, List.set_cons_zero, List.set_cons_succ])
      refine wpAnyH_done (by kernel_rfl) ?_ _
      have r2 : (v12.setCell ⟨w.heap.size, 0, none⟩ (.slice (some ⟨gn, 0, none⟩) kk cg)).cell? ⟨w.heap.size, 0, none⟩ = some (.slice (some ⟨gn, 0, none⟩) kk cg) := World.cell?_setCell_same _ _ _ r0
      go_wp2
      refine bodyPost_ret (v := .tuple #[.agg #[.slice (some ⟨gn, 0, none⟩) kk cg], .slice E5 xs.length c5, .int .i64 x5, .int .i64 x7]) (by simp [results, Try.results42, go_sem, r2]) rfl ?_
      have hO : OwG w1.heap.size bG (.slice (some ⟨gn, 0, none⟩) kk cg) kk gs (v12.setCell ⟨w.heap.size, 0, none⟩ (.slice (some ⟨gn, 0, none⟩) kk cg)) := OwG.loc _ _ _ _ _ _ _ HO12.out.it fun b x y => Below.heap_setCell _ _ _ _ (by show b ≠ w.heap.size; omega)
      have hC : IS (v12.setCell ⟨w.heap.size, 0, none⟩ (.slice (some ⟨gn, 0, none⟩) kk cg)) bG E5 xs := (OwR.ints ((HC12.out.it).keep (w' := (v12.setCell ⟨w.heap.size, 0, none⟩ (.slice (some ⟨gn, 0, none⟩) kk cg))) fun b x y => Below.heap_setCell _ _ _ _ (by show b ≠ w.heap.size; omega)))
      have hl := HC12.out.le
      exact ⟨_, kk, cg, gs, E5, xs.length, c5, xs, x5, x7, rfl, hO.1, hk2, hk10, hO.ncap, hsm, rfl, hx1, hx2, HCC.out, hO.nodes.more (by simp [World.setCell]; omega), hC.more (by simp [World.setCell]; omega), below_set0 HE12.out _⟩
  · go_simp
    have HO13 := Lib.hid (HO0.out.alloc (.cells #[.int .i64 5, .int .i64 0, .int .i64 999, .int .i64 1000, .int .i64 (-1)] 3))
    have HC13 := Lib.hid (HC0.out.alloc (.cells #[.int .i64 5, .int .i64 0, .int .i64 999, .int .i64 1000, .int .i64 (-1)] 3))
    have HB13 := Lib.hid (HB0.out.alloc (.cells #[.int .i64 5, .int .i64 0, .int .i64 999, .int .i64 1000, .int .i64 (-1)] 3))
    have HG13 := Lib.hid (HG0.out.alloc (.cells #[.int .i64 5, .int .i64 0, .int .i64 999, .int .i64 1000, .int .i64 (-1)] 3))
    have HR13 := Lib.hid (HR0.out.alloc (.cells #[.int .i64 5, .int .i64 0, .int .i64 999, .int .i64 1000, .int .i64 (-1)] 3))
    have HE13 := Lib.hid (HE0.out.alloc (by omega) (.cells #[.int .i64 5, .int .i64 0, .int .i64 999, .int .i64 1000, .int .i64 (-1)] 3))
    have LB13 : Hid (As W0.heap.size (W0.heap.size + 1) (fun w' => ∀ j, j < 5 → w'.cell? ⟨W0.heap.size, 0 + j, none⟩ = some (.int .i64 (([5, 0, 999, 1000, -1] : List Int).getD j 0))) (W0.alloc (.cells #[.int .i64 5, .int .i64 0, .int .i64 999, .int .i64 1000, .int .i64 (-1)] 3))) := by
      refine ⟨fun j hj => ?_, by simp, fun u u' h hk j hj => (World.cell?_of_block (a := ⟨_, 0 + j, none⟩) (hk _ (Nat.le_refl _) (Nat.lt_succ_self _))).trans (h j hj)⟩
      have : j = 0 ∨ j = 1 ∨ j = 2 ∨ j = 3 ∨ j = 4 := by omega
      rcases this with rfl | rfl | rfl | rfl | rfl <;> go_simp
    have hz13 : W0.heap.size < (W0.alloc (.cells #[.int .i64 5, .int .i64 0, .int .i64 999, .int .i64 1000, .int .i64 (-1)] 3)).heap.size := by simp
    have hv13 : w1.heap.size ≤ (W0.alloc (.cells #[.int .i64 5, .int .i64 0, .int .i64 999, .int .i64 1000, .int .i64 (-1)] 3)).heap.size := by omega
    have q13 := HG13.out.it
    refine hK.out _ _ q13 (fun hHeld => ?_); clear hK K; (try simp only [Act.put, List.setIfInBounds_toArray, List.set_cons_zero, List.set_cons_succ])
    have hs13 : W0.heap.size + 1 ≤ (W0.alloc (.cells #[.int .i64 5, .int .i64 0, .int .i64 999, .int .i64 1000, .int .i64 (-1)] 3)).heap.size := by simp
    generalize (W0.alloc (.cells #[.int .i64 5, .int .i64 0, .int .i64 999, .int .i64 1000, .int .i64 (-1)] 3)) = u13 at *
    refine wpAnyH_ready (rs := [7]) (by kernel_rfl) (by simp) ?_; refine AllReadyH.cons (o := ⟨some 23, _, _, _, _, _⟩) rfl (fun K hK => ?_) AllReadyH.nil; go_simp
    go_at_call 65
    refine (pick_any g A1 n1 c1 ds (2600) kk _ ?_ HN1.out hy1 hn2 (by omega) (by omega)).mono ?_
    · first | exact HR13.out | exact HR13.out.drew
    rintro e v14 ⟨x3, rfl, _, _, hr, ht'⟩
    have ht : Tch g (g + 1) u13 v14 := ⟨ht'.os, ht'.tape, ht'.output, ht'.size, ht'.block⟩
    have hz14 := ht.size
    have hv14 : w1.heap.size ≤ v14.heap.size := by omega
    have HR14 := Lib.hid hr
    have HO14 := Lib.hid (HO13.out.turn ht (by omega))
    have HC14 := Lib.hid (HC13.out.turn ht (by omega))
    have HB14 := Lib.hid (HB13.out.turn ht (by omega))
    have HG14 := Lib.hid (HG13.out.turn ht (by omega))
    have LB14 := Lib.hid (LB13.out.turn ht (by omega))
    have HE14 := Lib.hid (HE13.out.trans (ht.below (B := w.heap.size) (by omega) (by omega)))
    have q14 := HG14.out.it
    clear hr ht ht'
    refine hK.out _ _ q14 (fun hHeld => ?_); clear hK K; (try simp only [Act.put, List.setIfInBounds_toArray, List.set_cons_zero, List.set_cons_succ])
    refine wpAnyH_ready (rs := [8]) (by kernel_rfl) (by simp) ?_; refine AllReadyH.cons (o := ⟨some 24, _, _, _, _, _⟩) rfl (fun K hK => ?_) AllReadyH.nil; go_simp
    have HO15 := Lib.hid (HO14.out.alloc (.cells #[.int .i64 0, .int .i64 1, .int .i64 x3, .int .i64 (-1)] 3))
    have HC15 := Lib.hid (HC14.out.alloc (.cells #[.int .i64 0, .int .i64 1, .int .i64 x3, .int .i64 (-1)] 3))
    have HB15 := Lib.hid (HB14.out.alloc (.cells #[.int .i64 0, .int .i64 1, .int .i64 x3, .int .i64 (-1)] 3))
    have HG15 := Lib.hid (HG14.out.alloc (.cells #[.int .i64 0, .int .i64 1, .int .i64 x3, .int .i64 (-1)] 3))
    have HR15 := Lib.hid (HR14.out.alloc (.cells #[.int .i64 0, .int .i64 1, .int .i64 x3, .int .i64 (-1)] 3))
    have HE15 := Lib.hid (HE14.out.alloc (by omega) (.cells #[.int .i64 0, .int .i64 1, .int .i64 x3, .int .i64 (-1)] 3))
    have LB15 := Lib.hid (LB14.out.alloc (.cells #[.int .i64 0, .int .i64 1, .int .i64 x3, .int .i64 (-1)] 3))
    have LA15 : Hid (As v14.heap.size (v14.heap.size + 1) (fun w' => ∀ j, j < 4 → w'.cell? ⟨v14.heap.size, 0 + j, none⟩ = some (.int .i64 (([0, 1, (x3 : Int), -1] : List Int).getD j 0))) (v14.alloc (.cells #[.int .i64 0, .int .i64 1, .int .i64 x3, .int .i64 (-1)] 3))) := by
      refine ⟨fun j hj => ?_, by simp, fun u u' h hk j hj => (World.cell?_of_block (a := ⟨_, 0 + j, none⟩) (hk _ (Nat.le_refl _) (Nat.lt_succ_self _))).trans (h j hj)⟩
      have : j = 0 ∨ j = 1 ∨ j = 2 ∨ j = 3 := by omega
      rcases this with rfl | rfl | rfl | rfl <;> go_simp
    have hz15 : v14.heap.size < (v14.alloc (.cells #[.int .i64 0, .int .i64 1, .int .i64 x3, .int .i64 (-1)] 3)).heap.size := by simp
    have hv15 : w1.heap.size ≤ (v14.alloc (.cells #[.int .i64 0, .int .i64 1, .int .i64 x3, .int .i64 (-1)] 3)).heap.size := by omega
    have q15 := HG15.out.it
    refine hK.out _ _ q15 (fun hHeld => ?_); clear hK K; (try simp only [Act.put, List.setIfInBounds_toArray, List.set_cons_zero, List.set_cons_succ])
    have hs15 : v14.heap.size + 1 ≤ (v14.alloc (.cells #[.int .i64 0, .int .i64 1, .int .i64 x3, .int .i64 (-1)] 3)).heap.size := by simp
    generalize (v14.alloc (.cells #[.int .i64 0, .int .i64 1, .int .i64 x3, .int .i64 (-1)] 3)) = u15 at *
    refine wpAnyH_ready (rs := [9]) (by kernel_rfl) (by simp) ?_; refine AllReadyH.cons (o := ⟨some 25, _, _, _, _, _⟩) rfl (fun K hK => ?_) AllReadyH.nil; go_simp
    go_at_call 64
    refine (one_any g A1 n1 c1 ds (2601) v14.heap.size 0 4 4 [0, 1, (x3 : Int), -1] _ ?_ HN1.out hy1 hn2 (by omega) rfl (by omega) (by omega) ?_ ?_ ?_).mono ?_
    · first | exact HR15.out | exact HR15.out.drew
    · exact LA15.out.it
    · have := hgl; omega
    · have := LA15.out.le; first | exact this | omega | (simp at this ⊢; omega)
    rintro e v16 ⟨x5, rfl, _, hr, ht'⟩
    have ht : Tch g (g + 1) u15 v16 := ⟨ht'.os, ht'.tape, ht'.output, ht'.size, ht'.block⟩
    have hz16 := ht.size
    have hv16 : w1.heap.size ≤ v16.heap.size := by omega
    have HR16 := Lib.hid hr
    have HO16 := Lib.hid (HO15.out.turn ht (by omega))
    have HC16 := Lib.hid (HC15.out.turn ht (by omega))
    have HB16 := Lib.hid (HB15.out.turn ht (by omega))
    have HG16 := Lib.hid (HG15.out.turn ht (by omega))
    have LA16 := Lib.hid (LA15.out.turn ht (by omega))
    have LB16 := Lib.hid (LB15.out.turn ht (by omega))
    have HE16 := Lib.hid (HE15.out.trans (ht.below (B := w.heap.size) (by omega) (by omega)))
    have q16 := HG16.out.it
    clear hr ht ht'
    refine hK.out _ _ q16 (fun hHeld => ?_); clear hK K; (try simp only [Act.put, List.setIfInBounds_toArray, List.set_cons_zero, List.set_cons_succ])
    refine wpAnyH_ready (rs := [12]) (by kernel_rfl) (by simp) ?_; refine AllReadyH.cons (o := ⟨some 28, _, _, _, _, _⟩) rfl (fun K hK => ?_) AllReadyH.nil; go_simp
    go_at_call 64
    refine (one_any g A1 n1 c1 ds (2602) W0.heap.size 0 5 5 [5, 0, 999, 1000, -1] _ ?_ HN1.out hy1 hn2 (by omega) rfl (by omega) (by omega) ?_ ?_ ?_).mono ?_
    · first | exact HR16.out | exact HR16.out.drew
    · exact LB16.out.it
    · have := hgl; omega
    · have := LB16.out.le; first | exact this | omega | (simp at this ⊢; omega)
    rintro e v17 ⟨x7, rfl, _, hr, ht'⟩
    have ht : Tch g (g + 1) v16 v17 := ⟨ht'.os, ht'.tape, ht'.output, ht'.size, ht'.block⟩
    have hz17 := ht.size
    have hv17 : w1.heap.size ≤ v17.heap.size := by omega
    have HR17 := Lib.hid hr
    have HO17 := Lib.hid (HO16.out.turn ht (by omega))
    have HC17 := Lib.hid (HC16.out.turn ht (by omega))
    have HB17 := Lib.hid (HB16.out.turn ht (by omega))
    have HG17 := Lib.hid (HG16.out.turn ht (by omega))
    have LA17 := Lib.hid (LA16.out.turn ht (by omega))
    have LB17 := Lib.hid (LB16.out.turn ht (by omega))
    have HE17 := Lib.hid (HE16.out.trans (ht.below (B := w.heap.size) (by omega) (by omega)))
    have q17 := HG17.out.it
    clear hr ht ht'
    refine hK.out _ _ q17 (fun hHeld => ?_); clear hK K; (try simp only [Act.put, List.setIfInBounds_toArray, List.set_cons_zero, List.set_cons_succ])
    obtain ⟨r0, r1⟩ := HB17.out.it
    have qs : (v17.setCell ⟨w.heap.size, 0, none⟩ (.slice (some ⟨gn, 0, none⟩) kk cg)).cell? ⟨bG, 0, none⟩ = some (.slice (some ⟨gn, 0, none⟩) kk cg) := (World.cell?_setCell_other _ _ _ _ (by intro e; have := congrArg Addr.block e; simp at this; omega)).trans q17
    refine wpAnyH_ready (rs := [13]) (by kernel_rfl) (by simp) ?_; refine AllReadyH.cons (o := ⟨none, _, _, _, _, _⟩) rfl (fun K hK => ?_) AllReadyH.nil; go_simp
    refine hK.out _ _ qs (fun hHeld => ?_); clear hK K; (try simp only [Act.put, List.setIfInBounds_toArray, List.set_cons_zero, List.set_cons_succ])
    refine wpAnyH_take (i := 14) (oi := ⟨some 3, _, _, _, _, _⟩) (v := ?_) rfl (by kernel_rfl) (by kernel_rfl) (by kernel_rfl) (fun _ _ _ h => h) (Or.inl ⟨by rfl, ?_⟩) (by assumption) ?_; rotate_left; (focus (intro w hSw; (try dsimp only at hSw); go_simp; (try with_reducible rfl))); (try simp only [Act.put, List.setIfInBounds_toArray, List.set_cons_zero, List.set_cons_succ])
    refine wpAnyH_take (i := 15) (oi := ⟨some 4, _, _, _, _, _⟩) (v := ?_) rfl (by kernel_rfl) (by kernel_rfl) (by kernel_rfl) (fun _ _ _ h => h) (Or.inl ⟨by rfl, ?_⟩) (by assumption) ?_; rotate_left; (focus (intro w hSw; (try dsimp only at hSw); go_simp; (try with_reducible rfl))); (try simp only [Act.put, List.setIfInBounds_toArray, List.set_cons_zero, List.set_cons_succ])
    refine wpAnyH_take (i := 16) (oi := ⟨some 5, _, _, _, _, _⟩) (v := ?_) rfl (by kernel_rfl) (by kernel_rfl) (by kernel_rfl) (fun _ _ _ h => h) (Or.inl ⟨by rfl, ?_⟩) (by assumption) ?_; rotate_left; (focus (intro w hSw; (try dsimp only at hSw); go_simp; (try with_reducible rfl))); (try simp only [Act.put, List.setIfInBounds_toArray, List.set_cons_zero, List.set_cons_succ])
    refine wpAnyH_done (by kernel_rfl) ?_ _
    have r2 : (v17.setCell ⟨w.heap.size, 0, none⟩ (.slice (some ⟨gn, 0, none⟩) kk cg)).cell? ⟨w.heap.size, 0, none⟩ = some (.slice (some ⟨gn, 0, none⟩) kk cg) := World.cell?_setCell_same _ _ _ r0
    go_wp2
    refine bodyPost_ret (v := .tuple #[.agg #[.slice (some ⟨gn, 0, none⟩) kk cg], .slice E5 xs.length c5, .int .i64 x5, .int .i64 x7]) (by simp [results, Try.results42, go_sem, r2]) rfl ?_
    have hO : OwG w1.heap.size bG (.slice (some ⟨gn, 0, none⟩) kk cg) kk gs (v17.setCell ⟨w.heap.size, 0, none⟩ (.slice (some ⟨gn, 0, none⟩) kk cg)) := OwG.loc _ _ _ _ _ _ _ HO17.out.it fun b x y => Below.heap_setCell _ _ _ _ (by show b ≠ w.heap.size; omega)
    have hC : IS (v17.setCell ⟨w.heap.size, 0, none⟩ (.slice (some ⟨gn, 0, none⟩) kk cg)) bG E5 xs := (OwR.ints ((HC17.out.it).keep (w' := (v17.setCell ⟨w.heap.size, 0, none⟩ (.slice (some ⟨gn, 0, none⟩) kk cg))) fun b x y => Below.heap_setCell _ _ _ _ (by show b ≠ w.heap.size; omega)))
    have hl := HC17.out.le
    exact ⟨_, kk, cg, gs, E5, xs.length, c5, xs, x5, x7, rfl, hO.1, hk2, hk10, hO.ncap, hsm, rfl, hx1, hx2, HCC.out, hO.nodes.more (by simp [World.setCell]; omega), hC.more (by simp [World.setCell]; omega), below_set0 HE17.out _⟩
end Go.Proofs.Ytgbijmfmdcphhaa

/- laws.FnSetCell returns true for all bytes, and writes nothing that was there. (Made by genpl.py.) -/
namespace Go.Proofs.Ytgbijmfmdcphhaa
set_option linter.unusedSimpArgs false
set_option linter.unusedVariables false
open Go.RowKit

theorem set_back (gs : List Nd) (xs : List Int) (x y : Int) (h : setB gs xs x y = true) : ∃ t : Nat, x = (t : Int) ∧ t < xs.length ∧ xs.length ≤ 10 ∧ setF gs xs x y = xs.set t y ∧ okC gs (xs.set t y) = true ∧ setB gs (xs.set t y) x (xs.getD t 0) = true ∧ setF gs (xs.set t y) x (xs.getD t 0) = xs ∧ (xs.set t y).getD t 0 = y := by
  have h0 := h
  unfold setB at h
  simp only [Bool.and_eq_true] at h
  obtain ⟨⟨hok, hc⟩, hr⟩ := h
  have hc0 := hc
  unfold isC at hc
  simp only [Bool.and_eq_true] at hc
  obtain ⟨t, rfl, ht⟩ := hasN_nat gs x hc.1
  obtain ⟨hg, hvc⟩ := okC_parts gs xs hok
  obtain ⟨hl, hco⟩ := validC_parts gs xs hvc
  have hk := hc.2
  simp only [Int.toNat_natCast] at hk
  have hokF : okC gs (xs.set t y) = true := by
    unfold okC
    rw [hg, Bool.true_and]
    refine validC_fin _ _ (by simp [hl]) fun i hi => ?_
    unfold cellOK
    by_cases e : t = i
    · subst e
      have : (xs.set t y).getD t 0 = y := by simp [List.getD, List.getElem?_set, show t < xs.length by omega]
      rw [this, hr, hk]
      rfl
    · have : (xs.set t y).getD i 0 = xs.getD i 0 := by simp [List.getD, List.getElem?_set, e]
      rw [this]
      exact hco i hi
  have hrt : rng (xs.getD t 0) 0 999 = true := by
    have := hco t ht
    unfold cellOK at this
    simp only [Bool.and_eq_true] at this
    exact this.1
  have hB : setB gs (xs.set t y) t (xs.getD t 0) = true := by
    unfold setB
    rw [hokF, hc0, hrt]
    rfl
  refine ⟨t, rfl, by omega, by have := (validG_parts gs hg).1; omega, ?_, hokF, hB, ?_, ?_⟩
  · unfold setF; rw [h0, if_pos rfl]; rfl
  · unfold setF; rw [hB, if_pos rfl]
    apply List.ext_getElem
    · simp
    · intro i h1 h2
      simp only [Int.toNat_natCast, List.getElem_set]
      split
      · rename_i e; subst e; simp [List.getD, h2]
      · rfl
  · simp [List.getD, List.getElem?_set, show t < xs.length by omega]

set_option maxRecDepth 100000 in
set_option maxHeartbeats 6400000 in
theorem plaw_SetCell (A : Option Addr) (n c : Nat) (bs : List Int) (w : World) (hn : n = bs.length) (hnc : n ≤ c) (h : BS w w.heap.size A bs) (hy : BY bs) (hm : n ≤ 9223372036854775807) :
    Calls Try.prog 10 #[.slice A n c] w fun e w' => e = .returned (.bool true) ∧ Below w.heap.size w w' := by
  by_cases hs : 1048576 < n
  · clear hn hnc h hy
    go_enter Try.func10, Try.ntmps10
    go_wp2
    go_ret
    exact ⟨rfl, Below.refl _ _⟩
  have HC := Lib.hid (spec_DrawSetCell A n c bs w hn hnc h hy (by omega))
  clear hn hnc h hy
  go_enter Try.func10, Try.ntmps10
  go_wp2_with fail
  refine HC.out.mono ?_
  rintro e w1 ⟨A1, n1, c1, gs, E1, m1, d1, xs, x, y, rfl, hp1, hp2, hp3, hnc1, hsm, hm1, hx1, hx2, hmd, hP, hI, hb⟩
  have HN1 := Lib.hid hp1
  have HG := Lib.hid (GB.of_drawn (by omega) hsm)
  have P_1 := Lib.hid (hP)
  have HM1 := Lib.hid hm1
  have I_1 := Lib.hid (hI)
  have B_1 := Lib.hid (hb)
  clear hP hp1 hb HC hsm hI hm1
  go_wp2_with fail
  obtain ⟨w2, hw2⟩ : ∃ W, W = w1.alloc (.cells #[.slice A1 n1 c1] 41) := ⟨_, rfl⟩
  have hb : Below w1.heap.size w1 w2 := by rw [hw2]; exact (Below.refl _ _).alloc (Nat.le_refl _) _
  have P_2 := Lib.hid (P_1.out.step hb)
  clear P_1
  have I_2 := Lib.hid (I_1.out.step hb)
  clear I_1
  have B_2 := Lib.hid (B_1.out.trans (hb.mono B_1.out.size))
  clear B_1
  have F_2 : Hid (As w1.heap.size (w1.heap.size + 1) (fun w' => w'.cell? ⟨w1.heap.size, 0, none⟩ = some (.slice A1 n1 c1)) w2) := by rw [hw2]; exact box_new _ _ _
  clear hb
  rw [← hw2]
  clear hw2
  have HIM := Lib.hid fun (w' : World) (h : GS w' w'.heap.size A1 gs) (h' : IS w' w'.heap.size E1 xs) => top_impl_SetCell gs xs x y HG.out (by have := HM1.out; omega) A1 n1 c1 E1 m1 d1 w' HN1.out hnc1 h HM1.out h'
  have HSP := Lib.hid fun (w' : World) (h : GS w' w'.heap.size A1 gs) (h' : IS w' w'.heap.size E1 xs) => top_spec_SetCell gs xs x y HG.out (by have := HM1.out; omega) A1 n1 c1 E1 m1 d1 w' HN1.out hnc1 h HM1.out h'
  have HSB := Lib.hid (set_back gs xs x y)
  have hfl := setF_len gs xs x y
  generalize setB gs xs x y = b at *
  generalize setF gs xs x y = R at *
  have q0 := F_2.out.it
  go_wp2_with fail
  refine (HIM.out w2 P_2.out I_2.out).mono ?_
  rintro e w3 ⟨v, rfl, ho, hb⟩
  obtain ⟨A3, c3, rfl⟩ := row_form ho
  have P_3 := Lib.hid (P_2.out.step hb)
  clear P_2
  have I_3 := Lib.hid (I_2.out.step hb)
  clear I_2
  have B_3 := Lib.hid (B_2.out.trans (hb.mono B_2.out.size))
  clear B_2
  have F_3 := Lib.hid (F_2.out.step hb)
  clear F_2
  clear hb
  clear q0
  have hI9 := IS.of_own ho
  obtain ⟨rl, hrl2⟩ : ∃ l, l = R.length := ⟨_, rfl⟩
  have HRL := Lib.hid hrl2
  have R_3 := Lib.hid (hI9)
  clear ho hI9
  rw [← hrl2] at hfl
  rw [← hrl2]
  clear hrl2
  have q0 := F_3.out.it
  go_wp2_with fail
  refine (HSP.out w3 P_3.out I_3.out).mono ?_
  rintro e w4 ⟨v, rfl, ho, hb⟩
  obtain ⟨A4, c4, rfl⟩ := row_form ho
  have P_4 := Lib.hid (P_3.out.step hb)
  clear P_3
  have I_4 := Lib.hid (I_3.out.step hb)
  clear I_3
  have B_4 := Lib.hid (B_3.out.trans (hb.mono B_3.out.size))
  clear B_3
  have F_4 := Lib.hid (F_3.out.step hb)
  clear F_3
  have R_4 := Lib.hid (R_3.out.step hb)
  clear R_3
  clear hb
  clear q0
  have hI9 := IS.of_own ho
  have S_4 := Lib.hid (hI9)
  clear ho hI9
  rw [← HRL.out]
  have HEQ := Lib.hid (laws_equalInts A3 A4 rl rl c3 c4 R R w4 w4.heap.size (Nat.le_refl _) HRL.out HRL.out R_4.out S_4.out (by omega) (by omega))
  rw [show decide (R = R) = true from decide_eq_true rfl] at HEQ
  have q0 := F_4.out.it
  go_wp2_with fail
  refine (HEQ.out).mono ?_
  rintro e w5 ⟨rfl, hb⟩
  have P_5 := Lib.hid (P_4.out.step hb)
  clear P_4
  have I_5 := Lib.hid (I_4.out.step hb)
  clear I_4
  have B_5 := Lib.hid (B_4.out.trans (hb.mono B_4.out.size))
  clear B_4
  have F_5 := Lib.hid (F_4.out.step hb)
  clear F_4
  have R_5 := Lib.hid (R_4.out.step hb)
  clear R_4
  have S_5 := Lib.hid (S_4.out.step hb)
  clear S_4
  clear hb
  clear q0
  clear HEQ
  cases b
  · skip
    have HEQ := Lib.hid (laws_equalInts A3 A4 rl rl c3 c4 R R w5 w5.heap.size (Nat.le_refl _) HRL.out HRL.out R_5.out S_5.out (by omega) (by omega))
    rw [show decide (R = R) = true from decide_eq_true rfl] at HEQ
    have q0 := F_5.out.it
    go_wp2_with fail
    refine (HEQ.out).mono ?_
    rintro e w6 ⟨rfl, hb⟩
    have P_6 := Lib.hid (P_5.out.step hb)
    clear P_5
    have I_6 := Lib.hid (I_5.out.step hb)
    clear I_5
    have B_6 := Lib.hid (B_5.out.trans (hb.mono B_5.out.size))
    clear B_5
    have F_6 := Lib.hid (F_5.out.step hb)
    clear F_5
    have R_6 := Lib.hid (R_5.out.step hb)
    clear R_5
    have S_6 := Lib.hid (S_5.out.step hb)
    clear S_5
    clear hb
    clear q0
    clear HEQ
    go_wp2
    go_ret
    exact ⟨rfl, B_6.out⟩
  · obtain ⟨t, rfl, htl, hl10, hRe, hokF, hB2, hF2, hg2⟩ := HSB.out (by first | rfl | trivial)
    subst hRe
    have HI2 := Lib.hid fun (w' : World) (h : GS w' w'.heap.size A1 gs) (h' : IS w' w'.heap.size A3 (xs.set t y)) => top_impl_SetCell gs (xs.set t y) t (xs.getD t 0) HG.out (by have := HM1.out; simp; omega) A1 n1 c1 A3 rl c3 w' HN1.out hnc1 h HRL.out h'
    have HVC := Lib.hid fun (w' : World) (h : GS w' w'.heap.size A1 gs) (h' : IS w' w'.heap.size A3 (xs.set t y)) => top_impl_ValidCells gs (xs.set t y) HG.out (by have := HM1.out; simp; omega) A1 n1 c1 A3 rl c3 w' HN1.out hnc1 h HRL.out h'
    rw [hB2, hF2] at HI2
    rw [hokF] at HVC
    clear hB2 hF2 hokF HSB HIM HSP
    have hrm : rl = m1 := by have h1 := HRL.out; have h2 := HM1.out; rw [List.length_set] at h1; omega
    subst hrm
    have htn : t < rl := by have := HM1.out; omega
    obtain ⟨b2, off2, rfl, hb2, e2⟩ := I_5.out (by have := HM1.out; omega)
    obtain ⟨b3, off3, rfl, hb3, e3⟩ := R_5.out (by have := HRL.out; omega)
    have x2 := e2 t (by have := HM1.out; omega)
    have x3 := e3 t (by have := HRL.out; omega)
    rw [hg2] at x3
    clear e2 e3 hg2
    generalize xs.getD t 0 = z at *
    generalize xs.set t y = Q at *
    have q0 := F_5.out.it
    go_wp2
    refine wp_region_held_drew (S := fun w' => w'.cell? ⟨w1.heap.size, 0, none⟩ = some (.slice A1 n1 c1) ∧ w'.cell? ⟨b2, off2 + t, none⟩ = some (.int .i64 z)) (by kernel_rfl) ⟨q0, x2⟩ (fun hHeld => ?_)
    refine wpAnyH_take (i := 0) (oi := ⟨some 61, _, _, _, _, _⟩) (v := ?_) rfl (by kernel_rfl) (by kernel_rfl) (by kernel_rfl) (fun _ _ _ h => h) (Or.inl ⟨by rfl, ?_⟩) (by assumption) ?_; rotate_left; (focus (intro w hSw; (try dsimp only at hSw); go_simp; (try with_reducible rfl))); (try simp only [Act.put, List.setIfInBounds_toArray, List.set_cons_zero, List.set_cons_succ])
    refine wpAnyH_take (i := 1) (oi := ⟨some 62, _, _, _, _, _⟩) (v := ?_) rfl (by kernel_rfl) (by kernel_rfl) (by kernel_rfl) (fun _ _ _ h => h) (Or.inl ⟨by rfl, ?_⟩) (by assumption) ?_; rotate_left; (focus (intro w hSw; (try dsimp only at hSw); go_simp; (try with_reducible rfl))); (try simp only [Act.put, List.setIfInBounds_toArray, List.set_cons_zero, List.set_cons_succ])
    refine wpAnyH_take (i := 2) (oi := ⟨some 63, _, _, _, _, _⟩) (v := ?_) rfl (by kernel_rfl) (by kernel_rfl) (by kernel_rfl) (fun _ _ _ h => h) (Or.inl ⟨by rfl, ?_⟩) (by assumption) ?_; rotate_left; (focus (intro w hSw; (try dsimp only at hSw); go_simp; (try with_reducible rfl))); (try simp only [Act.put, List.setIfInBounds_toArray, List.set_cons_zero, List.set_cons_succ])
    refine wpAnyH_take (i := 3) (oi := ⟨some 64, _, _, _, _, _⟩) (v := ?_) rfl (by kernel_rfl) (by kernel_rfl) (by kernel_rfl) (fun _ _ _ h => h) (Or.inl ⟨by rfl, ?_⟩) (by assumption) ?_; rotate_left; (focus (intro w hSw; (try dsimp only at hSw); go_simp; (try with_reducible rfl))); (try simp only [Act.put, List.setIfInBounds_toArray, List.set_cons_zero, List.set_cons_succ])
    refine wpAnyH_take (i := 4) (oi := ⟨some 65, _, _, _, _, _⟩) (v := ?_) rfl (by kernel_rfl) (by kernel_rfl) (by kernel_rfl) (fun _ _ _ h => h) (Or.inl ⟨by rfl, ?_⟩) (by assumption) ?_; rotate_left; (focus (intro w hSw; (try dsimp only at hSw); go_simp; (try with_reducible rfl))); (try simp only [Act.put, List.setIfInBounds_toArray, List.set_cons_zero, List.set_cons_succ])
    refine wpAnyH_take (i := 5) (oi := ⟨some 66, _, _, _, _, _⟩) (v := ?_) rfl (by kernel_rfl) (by kernel_rfl) (by kernel_rfl) (fun _ _ _ h => h) (Or.inl ⟨by rfl, ?_⟩) (by assumption) ?_; rotate_left; (focus (intro w hSw; (try dsimp only at hSw); go_simp; (try with_reducible rfl))); (try simp only [Act.put, List.setIfInBounds_toArray, List.set_cons_zero, List.set_cons_succ])
    refine wpAnyH_take (i := 6) (oi := ⟨some 67, _, _, _, _, _⟩) (v := ?_) rfl (by kernel_rfl) (by kernel_rfl) (by kernel_rfl) (fun _ _ _ h => h) (Or.inl ⟨by rfl, ?_⟩) (by assumption) ?_; rotate_left; (focus (intro w hSw; (try dsimp only at hSw); go_simp; (try with_reducible rfl))); (try simp only [Act.put, List.setIfInBounds_toArray, List.set_cons_zero, List.set_cons_succ])
    refine wpAnyH_ready (rs := [7]) (by kernel_rfl) (by simp) ?_; refine AllReadyH.cons (o := ⟨some 68, _, _, _, _, _⟩) rfl (fun K hK => ?_) AllReadyH.nil; go_simp
    go_at_call 43
    refine (HI2.out w5.drew P_5.out R_5.out).mono ?_
    rintro e w6 ⟨v, rfl, ho, hb'⟩
    have hb : Below w5.heap.size w5 w6 := below_of_drew hb'
    obtain ⟨A5, c5, rfl⟩ := row_form ho
    have hI9 : IS w6 w6.heap.size A5 xs := IS.of_own ho
    have y2 := (hb.cell (p := ⟨b2, off2 + t, none⟩) hb2).trans x2
    have y3 := (hb.cell (p := ⟨b3, off3 + t, none⟩) hb3).trans x3
    have hb2 : b2 < w6.heap.size := Nat.lt_of_lt_of_le hb2 hb.size
    have hb3 : b3 < w6.heap.size := Nat.lt_of_lt_of_le hb3 hb.size
    have P_6 := Lib.hid (P_5.out.step hb)
    clear P_5
    have I_6 := Lib.hid (I_5.out.step hb)
    clear I_5
    have B_6 := Lib.hid (B_5.out.trans (hb.mono B_5.out.size))
    clear B_5
    have F_6 := Lib.hid (F_5.out.step hb)
    clear F_5
    have R_6 := Lib.hid (R_5.out.step hb)
    clear R_5
    have S_6 := Lib.hid (S_5.out.step hb)
    clear S_5
    have T_6 := Lib.hid (hI9)
    have q2 := F_6.out.it
    clear hb hb' ho hI9 x2 x3
    rw [← HM1.out]
    refine hK.out _ _ ⟨q2, y2⟩ (fun hHeld => ?_); clear hK K; (try simp only [Act.put, List.setIfInBounds_toArray, List.set_cons_zero, List.set_cons_succ])
    refine wpAnyH_take (i := 8) (oi := ⟨some 60, _, _, _, _, _⟩) (v := ?_) rfl (by kernel_rfl) (by kernel_rfl) (by kernel_rfl) (fun _ _ _ h => h) (Or.inl ⟨by rfl, ?_⟩) (by assumption) ?_; rotate_left; (focus (intro w hSw; (try dsimp only at hSw); go_simp; (try with_reducible rfl))); (try simp only [Act.put, List.setIfInBounds_toArray, List.set_cons_zero, List.set_cons_succ])
    refine wpAnyH_take (i := 9) (oi := ⟨some 69, _, _, _, _, _⟩) (v := ?_) rfl (by kernel_rfl) (by kernel_rfl) (by kernel_rfl) (fun _ _ _ h => h) (Or.inl ⟨by rfl, ?_⟩) (by assumption) ?_; rotate_left; (focus (intro w hSw; (try dsimp only at hSw); go_simp; (try with_reducible rfl))); (try simp only [Act.put, List.setIfInBounds_toArray, List.set_cons_zero, List.set_cons_succ])
    refine wpAnyH_take (i := 10) (oi := ⟨some 70, _, _, _, _, _⟩) (v := ?_) rfl (by kernel_rfl) (by kernel_rfl) (by kernel_rfl) (fun _ _ _ h => h) (Or.inl ⟨by rfl, ?_⟩) (by assumption) ?_; rotate_left; (focus (intro w hSw; (try dsimp only at hSw); go_simp; (try with_reducible rfl))); (try simp only [Act.put, List.setIfInBounds_toArray, List.set_cons_zero, List.set_cons_succ])
    refine wpAnyH_take (i := 11) (oi := ⟨some 11, _, _, _, _, _⟩) (v := ?_) rfl (by kernel_rfl) (by kernel_rfl) (by kernel_rfl) (fun _ _ _ h => h) (Or.inl ⟨by rfl, ?_⟩) (by assumption) ?_; rotate_left; (focus (intro w hSw; (try dsimp only at hSw); go_simp; (try with_reducible rfl))); (try simp only [Act.put, List.setIfInBounds_toArray, List.set_cons_zero, List.set_cons_succ])
    refine wpAnyH_take (i := 12) (oi := ⟨some 12, _, _, _, _, _⟩) (v := ?_) rfl (by kernel_rfl) (by kernel_rfl) (by kernel_rfl) (fun _ _ _ h => h) (Or.inl ⟨by rfl, ?_⟩) (by assumption) ?_; rotate_left; (focus (intro w hSw; (try dsimp only at hSw); go_simp; (try with_reducible rfl))); (try simp only [Act.put, List.setIfInBounds_toArray, List.set_cons_zero, List.set_cons_succ])
    refine wpAnyH_done (by kernel_rfl) ?_ _
    have HEQ := Lib.hid (laws_equalInts A5 (some ⟨b2, off2, none⟩) rl rl c5 d1 xs xs w6 w6.heap.size (Nat.le_refl _) HM1.out HM1.out T_6.out I_6.out (by omega) (by omega))
    rw [show decide (xs = xs) = true from decide_eq_true rfl] at HEQ
    clear q2
    have hyy : (y == y) = true := by simp
    have q0 := F_6.out.it
    go_wp2_with fail
    refine (HEQ.out).mono ?_
    rintro e w7 ⟨rfl, hb⟩
    have z3 := (hb.cell (p := ⟨b3, off3 + t, none⟩) hb3).trans y3
    have P_7 := Lib.hid (P_6.out.step hb)
    clear P_6
    have I_7 := Lib.hid (I_6.out.step hb)
    clear I_6
    have B_7 := Lib.hid (B_6.out.trans (hb.mono B_6.out.size))
    clear B_6
    have F_7 := Lib.hid (F_6.out.step hb)
    clear F_6
    have R_7 := Lib.hid (R_6.out.step hb)
    clear R_6
    have S_7 := Lib.hid (S_6.out.step hb)
    clear S_6
    have T_7 := Lib.hid (T_6.out.step hb)
    clear T_6
    clear hb
    clear q0
    clear HEQ
    have q0 := F_7.out.it
    go_wp2_with fail
    refine (HVC.out w7 P_7.out R_7.out).mono ?_
    rintro e w8 ⟨rfl, hb⟩
    have P_8 := Lib.hid (P_7.out.step hb)
    clear P_7
    have I_8 := Lib.hid (I_7.out.step hb)
    clear I_7
    have B_8 := Lib.hid (B_7.out.trans (hb.mono B_7.out.size))
    clear B_7
    have F_8 := Lib.hid (F_7.out.step hb)
    clear F_7
    have R_8 := Lib.hid (R_7.out.step hb)
    clear R_7
    have S_8 := Lib.hid (S_7.out.step hb)
    clear S_7
    have T_8 := Lib.hid (T_7.out.step hb)
    clear T_7
    clear hb
    clear q0
    go_wp2
    go_ret
    exact ⟨rfl, B_8.out⟩
end Go.Proofs.Ytgbijmfmdcphhaa


namespace Go.Proofs.Ytgbijmfmdcphhaa
set_option linter.unusedSimpArgs false
set_option linter.unusedVariables false
open Go.ChangeShapes Go.WideShapes Go.ChangeAt Go.RowKit

set_option maxRecDepth 100000 in
theorem plifted_SetCell (os : Os) (started : os.Started) (H : Type) (enc : TypeId × Value → H) :
    ReturnsInHanded {} Try.checked os 10 .any (Rows.fnSetCellSpec.pre6 enc Try.prog Try.f10 Rows.fnSetCellRow.domain false) (Rows.fnSetCellSpec.post enc Try.prog Try.f10 false true false false) := by
  refine returnsInHanded_of_change (C := Try.checked) own started (by kernel_rfl) Try.func10
    (ChangeSpec.witness6 (enc := enc) (C := Try.checked) false ⟨#[], #[.slice none 0 0], []⟩ 8 (by kernel_rfl) (by kernel_rfl) (by kernel_rfl) (by kernel_rfl)) ?_
  intro W base args ds gs before hval0 hW hcnd _
  have hval : ∀ (j : Nat) t v, Try.f10.params[j]? = some t → args[j]? = some v → Value.okWide Try.prog W .any base t v := hval0
  have hW' := hW
  obtain ⟨p, q, hA0, hV, rfl, hfz, hnd⟩ := hW
  have hA : DataW.TrodAll enc Try.prog W 0 (fun _ => true) true Try.f10.params.toList args.toList ds p := hA0
  rw [Try.params10] at hA hval
  obtain ⟨v0, vs0, d0, ds0, p0, q0, hargs, rfl, rfl, h0, r0⟩ := trodAll_cons hA
  obtain ⟨rfl, rfl, rfl⟩ := trodAll_nil r0
  obtain rfl : args = #[v0] := by cases args; simp_all
  obtain ⟨rfl, rfl⟩ := trodVars_none hV
  have k0 := h0
  have lt0 : ∀ x ∈ p0, x.block < W.heap.size := by obtain ⟨m, hm⟩ := k0; exact DataW.trod_lt m _ _ _ hm
  obtain ⟨A, n, c, bs, rfl, hn, hnc, hm, hy, hbs⟩ := open_code (hval 0 22 v0 rfl rfl) h0
  clear hA0 hval0
  refine (plaw_SetCell A n c bs W hn hnc hbs hy hm).mono fun e W' ⟨he, bel⟩ => ?_
  subst he
  exact ⟨_, rfl, _, _, _, [], _, [], hW', trodAll_mk1 (shut_bool Try.underlying4 _), (trodAll_cons_mk (Below.trod laidOut (by kernel_rfl) (of_decide_eq_true (by kernel_rfl)) k0 bel lt0) trodAll_mk0), rfl, bel.frame _, fun h => by cases h⟩

theorem pproved_SetCell : Rows.FnSetCellSaid :=
  OpenClaim.holds_of_wide 10 Try.f10 rfl rfl rfl rfl rfl rfl rfl ⟨rfl, rfl, rfl, rfl, rfl⟩ rfl rfl rfl rfl rfl (by kernel_rfl) Try.func10 (by kernel_rfl)
    (of_decide_eq_true (by kernel_rfl)) (by unfold Func.isWrapper; first | (rw [if_pos (by decide +kernel)]; kernel_rfl) | (rw [if_neg (by decide +kernel)]; exact ⟨rfl, rfl⟩))
    (fun os started H enc _ => plifted_SetCell os started H enc)
#print axioms pproved_SetCell
end Go.Proofs.Ytgbijmfmdcphhaa
