/- The drawing of graphs: someGraph. -/
import Derived.Test.YtdhjflhpenkchaaH0

namespace Go.Proofs.Ytdhjflhpenkchaa
set_option linter.unusedSimpArgs false
set_option linter.unusedVariables false
open Go.RowKit

/-- One node is another one. -/
theorem OwG.change {lo hi hi' k j : Nat} {v : Value} {gs : List Nd} {w w' : World} {d : Nd} {x y : Value} {xs xs' : List Value} (h0 : k = gs.length) (hx : OwR lo hi 38 2 v k xs w)
    (hn : ∀ i, i < k → ∃ x y, xs[i * 2]? = some x ∧ xs[i * 2 + 1]? = some y ∧ NdO lo hi (gs.getD i default) x y w) (hg : w.grownBy w' v.ownBlock) (hv : w'.ownsRow lo 38 2 v k xs') (hj : j < k)
    (hx' : xs'[j * 2]? = some x) (hy' : xs'[j * 2 + 1]? = some y) (ho : ∀ i, i ≠ j → xs'[i * 2]? = xs[i * 2]? ∧ xs'[i * 2 + 1]? = xs[i * 2 + 1]?) (hd : NdO lo hi' d x y w') (hle : hi ≤ hi') : OwG lo hi' v k (gs.set j d) w' := by
  refine ⟨by simp [h0], xs', ⟨hv, fun q hq => by have := hx.2 q hq; omega⟩, fun i hi => ?_⟩
  by_cases e : i = j
  · subst e
    have eg : (gs.set i d).getD i default = d := by simp [List.getD, List.getElem?_set, show i < gs.length by omega]
    rw [eg]
    exact ⟨x, y, hx', hy', hd⟩
  · have eg : (gs.set j d).getD i default = gs.getD i default := by simp [List.getD, List.getElem?_set, show ¬ j = i by omega]
    obtain ⟨x1, y1, e1, e2, e3, A', n', c', e4, e5, e6⟩ := hn i hi
    obtain ⟨o1, o2⟩ := ho i e
    rw [eg]
    exact ⟨x1, y1, by rw [o1]; exact e1, by rw [o2]; exact e2, e3, A', n', c', e4, e5, e6.1.kept hg (blocks_ne e6.1 hx.1 node_ne_part.symm), fun q hq => by have := e6.2 q hq; omega⟩

theorem OwG.setKind {lo hi k j gn cg : Nat} {gs : List Nd} {w : World} (h : OwG lo hi (.slice (some ⟨gn, 0, none⟩) k cg) k gs w) (hj : j < k) (z : Int) :
    OwG lo hi (.slice (some ⟨gn, 0, none⟩) k cg) k (gs.set j ⟨z, (gs.getD j default).ps⟩) (w.setCell ⟨gn, j * 2, none⟩ (.int .i64 z)) := by
  obtain ⟨h0, xs, hx, hn⟩ := h
  have hxl : xs.length = k * 2 := hx.1.1
  have hst := hx.1.stored (j * 2) (.int .i64 z)
  obtain ⟨x1, y1, e1, e2, e3, A', n', c', e4, e5, e6⟩ := hn j hj
  refine OwG.change h0 hx hn hst.2 hst.1 hj (x := .int .i64 z) (y := y1) ?_ ?_ (fun i hi => ⟨?_, ?_⟩) ?_ (Nat.le_refl _)
  · rw [List.getElem?_set, if_pos rfl, if_pos (by omega)]
  · rw [List.getElem?_set, if_neg (by omega)]; exact e2
  · rw [List.getElem?_set, if_neg (by omega)]
  · rw [List.getElem?_set, if_neg (by omega)]
  · exact ⟨rfl, A', n', c', e4, e5, e6.1.kept hst.2 (blocks_ne e6.1 hx.1 node_ne_part.symm), e6.2⟩

theorem OwG.setForm {lo hi k j gn cg hi' : Nat} {gs : List Nd} {w : World} (h : OwG lo hi (.slice (some ⟨gn, 0, none⟩) k cg) k gs w) (hj : j < k) {A : Option Addr} {m c : Nat} {ps : List Pt} (hm : m = ps.length)
    (hp : OwR lo hi' 73 5 (.slice A m c) m (ps.flatMap Pt.cells) w) (hle : hi ≤ hi') :
    OwG lo hi' (.slice (some ⟨gn, 0, none⟩) k cg) k (gs.set j ⟨(gs.getD j default).k, ps⟩) (w.setCell ⟨gn, j * 2 + 1, none⟩ (.slice A m c)) := by
  obtain ⟨h0, xs, hx, hn⟩ := h
  have hxl : xs.length = k * 2 := hx.1.1
  have hst := hx.1.stored (j * 2 + 1) (.slice A m c)
  obtain ⟨x1, y1, e1, e2, e3, A', n', c', e4, e5, e6⟩ := hn j hj
  refine OwG.change h0 hx hn hst.2 hst.1 hj (x := x1) (y := .slice A m c) ?_ ?_ (fun i hi => ⟨?_, ?_⟩) ?_ hle
  · rw [List.getElem?_set, if_neg (by omega)]; exact e1
  · rw [List.getElem?_set, if_pos rfl, if_pos (by omega)]
  · rw [List.getElem?_set, if_neg (by omega)]
  · rw [List.getElem?_set, if_neg (by omega)]
  · exact ⟨e3, A, m, c, rfl, hm, hp.1.kept hst.2 (blocks_ne hp.1 hx.1 node_ne_part.symm), hp.2⟩

theorem small_set {gs : List Nd} {j : Nat} {d : Nd} (h : ∀ j, (gs.getD j default).ps.length ≤ 40) (hd : d.ps.length ≤ 40) : ∀ i, ((gs.set j d).getD i default).ps.length ≤ 40 := by
  intro i
  by_cases e : j = i
  · subst e
    by_cases hl : j < gs.length
    · simpa [List.getD, List.getElem?_set, hl] using hd
    · rw [List.set_eq_of_length_le (by omega)]
      exact h j
  · have := h i
    simpa [List.getD, List.getElem?_set, e] using this

theorem OwG.node_cells {lo hi k j gn cg : Nat} {gs : List Nd} {w : World} (h : OwG lo hi (.slice (some ⟨gn, 0, none⟩) k cg) k gs w) (hj : j < k) :
    (∃ x, w.cell? ⟨gn, j * 2, none⟩ = some x) ∧ (∃ x, w.cell? ⟨gn, j * 2 + 1, none⟩ = some x) ∧ w.frozen? ⟨gn, j * 2, none⟩ = false ∧ w.frozen? ⟨gn, j * 2 + 1, none⟩ = false ∧ lo ≤ gn ∧ gn < hi := by
  obtain ⟨h0, xs, hx, hn⟩ := h
  have hxl : xs.length = k * 2 := hx.1.1
  obtain ⟨x1, y1, e1, e2, _⟩ := hn j hj
  exact ⟨⟨x1, (hx.1.cellAt _ (by omega)).trans e1⟩, ⟨y1, (hx.1.cellAt _ (by omega)).trans e2⟩, hx.1.frozenAt _, hx.1.frozenAt _, (hx.1.lt gn rfl).1, hx.2 gn rfl⟩
theorem OwG.pos {lo hi k : Nat} {v : Value} {gs : List Nd} {w : World} (h : OwG lo hi v k gs w) (hk : 0 < k) : ∃ gn cg, v = .slice (some ⟨gn, 0, none⟩) k cg := by
  obtain ⟨h0, xs, hx, _⟩ := h
  exact row_pos hx.1 hk

set_option maxRecDepth 100000 in
set_option maxHeartbeats 40000000 in
theorem someGraph_any (g : Nat) (A : Option Addr) (n c : Nat) (bs : List Int) (P : Nat) (w : World) (h : Rdr g A n c bs P w) (hn : n = bs.length) (hby : BY bs) (hs : n ≤ 2000) (hP : P ≤ 700000) :
    Calls Try.prog 67 #[.pointer (some ⟨g, 0, none⟩)] w fun e w' => GgP g A n c bs (P + 2500) w e w' := by
  have hgw := h.lt
  have HN := Lib.hid hn
  have HR0 := Lib.hid (h.alloc (.cells #[.slice none 0 0] 25))
  clear h hn
  go_enter Try.func67, Try.ntmps67
  go_wp2_with fail
  refine (goodGraph_any g A n c bs P _ HR0.out HN.out hby hs (by omega)).mono ?_
  rintro e w1 ⟨V, k, gs, rfl, hk2, hk10, hsm, hown, hr1, ht1⟩
  have hs1 : w.heap.size + 1 ≤ w1.heap.size := by have := ht1.size; simpa using this
  obtain ⟨gn, cg, rfl⟩ := hown.pos (by omega)
  simp only [World.size_alloc] at hown
  obtain ⟨bG, hbG⟩ : ∃ bG, bG = w1.heap.size := ⟨_, rfl⟩
  have HBG := Lib.hid hbG
  have k0 : w1.cell? ⟨w.heap.size, 0, none⟩ = some (.slice none 0 0) := (World.cell?_of_block (a := ⟨w.heap.size, 0, none⟩) (ht1.block w.heap.size (by simp) (.inr (by omega)))).trans (by go_simp)
  have k1 : w1.frozen? ⟨w.heap.size, 0, none⟩ = false := (World.frozen?_of_block (a := ⟨w.heap.size, 0, none⟩) (ht1.block w.heap.size (by simp) (.inr (by omega)))).trans (by go_simp)
  have HB1 : Hid (As w.heap.size (w.heap.size + 1) (fun w' => w'.cell? ⟨w.heap.size, 0, none⟩ = some (.slice none 0 0) ∧ w'.frozen? ⟨w.heap.size, 0, none⟩ = false) w1) :=
    ⟨⟨k0, k1⟩, hs1, fun w w' h hk => ⟨(World.cell?_of_block (a := ⟨_, 0, none⟩) (hk _ (Nat.le_refl _) (Nat.lt_succ_self _))).trans h.1, (World.frozen?_of_block (a := ⟨_, 0, none⟩) (hk _ (Nat.le_refl _) (Nat.lt_succ_self _))).trans h.2⟩⟩
  have HO1 : Hid (As (w.heap.size + 1) bG (OwG (w.heap.size + 1) bG (.slice (some ⟨gn, 0, none⟩) k cg) k gs) w1) := by rw [hbG]; exact graph_start hown
  have HF1 := Lib.hid ((Frd.of_below (g := g) (s := w.heap.size) ((Below.refl w.heap.size w).alloc (Nat.le_refl _) (.cells #[.slice none 0 0] 25)) (Nat.le_refl _)).trans (Frd.of_tch ht1 (by simp)))
  have HR1 := Lib.hid (hr1.alloc (.cells #[.slice (some ⟨gn, 0, none⟩) k cg] 25))
  have HO2 := Lib.hid (HO1.out.alloc (.cells #[.slice (some ⟨gn, 0, none⟩) k cg] 25))
  have HB2 := Lib.hid (HB1.out.alloc (.cells #[.slice (some ⟨gn, 0, none⟩) k cg] 25))
  have HG2 := box_new w1 (.slice (some ⟨gn, 0, none⟩) k cg) 25
  rw [← hbG] at HG2
  have HG2 := Lib.hid HG2
  have HF2 := Lib.hid (HF1.out.trans (Frd.of_below (w' := w1.alloc (.cells #[.slice (some ⟨gn, 0, none⟩) k cg] 25)) ((Below.refl w1.heap.size w1).alloc (Nat.le_refl _) _) (by omega)))
  have hgG : g < bG := by omega
  have hz2 : bG < (w1.alloc (.cells #[.slice (some ⟨gn, 0, none⟩) k cg] 25)).heap.size := by rw [hbG]; simp
  have hsG : w.heap.size + 1 ≤ bG := by omega
  clear k0 k1 HB1 HO1 HF1 HR0 hown hr1 ht1 hbG
  have q2 := HG2.out.it
  go_wp2_with fail
  generalize w1.alloc (.cells #[.slice (some ⟨gn, 0, none⟩) k cg] 25) = W2 at *
  refine (pick_any g A n c bs (P + 2200) k W2 HR1.out HN.out hby hs (by omega) (by omega)).mono ?_
  rintro e w3 ⟨j, rfl, hj, _, hr3, ht3⟩
  have hjk : j < k := by have := hj (by omega); omega
  have hz3 := ht3.size
  have HR3 := Lib.hid hr3
  have HO3 := Lib.hid (HO2.out.turn ht3 (.inl (by omega)))
  have HB3 := Lib.hid (HB2.out.turn ht3 (.inl (by omega)))
  have HG3 := Lib.hid (HG2.out.turn ht3 (.inl (by omega)))
  have HF3 := Lib.hid (HF2.out.trans (Frd.of_tch ht3 (by omega)))
  clear hj hr3 ht3 HR1 HO2 HB2 HG2 HF2 q2
  have q3 := HG3.out.it
  rw [HBG.out.symm]
  go_wp2_with fail
  refine (pick_any g A n c bs (P + 2201) 24 w3 HR3.out HN.out hby hs (by omega) (by omega)).mono ?_
  rintro e w4 ⟨x, rfl, _, _, hr4, ht4⟩
  have hz4 := ht4.size
  have HR4 := Lib.hid hr4
  have HO4 := Lib.hid (HO3.out.turn ht4 (.inl (by omega)))
  have HB4 := Lib.hid (HB3.out.turn ht4 (.inl (by omega)))
  have HG4 := Lib.hid (HG3.out.turn ht4 (.inl (by omega)))
  have HF4 := Lib.hid (HF3.out.trans (Frd.of_tch ht4 (by omega)))
  clear hr4 ht4 HR3 HO3 HB3 HG3 HF3 q3
  have q4 := HG4.out.it
  obtain ⟨⟨x0, n0⟩, ⟨x1, n1⟩, f0, f1, hlo, hhi⟩ := HO4.out.it.node_cells hjk
  have hzG : bG < w4.heap.size := by omega
  have hwz : w.heap.size < w4.heap.size := by omega
  by_cases hx0 : x = 0
  · subst hx0
    have q5 := (World.cell?_alloc_lt w4 (.cells #[.int .i64 (-1), .int .i64 3, .int .i64 0, .int .i64 2] 3) ⟨bG, 0, none⟩ hzG).trans q4
    go_wp2
    refine wp_region_held_drew (S := fun w' => w'.cell? ⟨bG, 0, none⟩ = some (.slice (some ⟨gn, 0, none⟩) k cg)) (by kernel_rfl) q4 (fun hHeld => ?_)
    refine wpAnyH_take (i := 0) (oi := ⟨some 16, _, _, _, _, _⟩) (v := ?_) rfl (by kernel_rfl) (by kernel_rfl) (by kernel_rfl) (fun _ _ _ h => h) (Or.inl ⟨by rfl, ?_⟩) (by assumption) ?_; rotate_left; (focus (intro w hSw; (try dsimp only at hSw); go_simp; (try with_reducible rfl))); (try simp only [Act.put, List.setIfInBounds_toArray, List.set_cons_zero, List.set_cons_succ])
    refine wpAnyH_take (i := 1) (oi := ⟨some 17, _, _, _, _, _⟩) (v := ?_) rfl (by kernel_rfl) (by kernel_rfl) (by kernel_rfl) (fun _ _ _ h => h) (Or.inl ⟨by rfl, ?_⟩) (by assumption) ?_; rotate_left; (focus (intro w hSw; (try dsimp only at hSw); go_simp; (try with_reducible rfl))); (try simp only [Act.put, List.setIfInBounds_toArray, List.set_cons_zero, List.set_cons_succ])
    refine wpAnyH_take (i := 2) (oi := ⟨some 18, _, _, _, _, _⟩) (v := ?_) rfl (by kernel_rfl) (by kernel_rfl) (by kernel_rfl) (fun _ _ _ h => h) (Or.inl ⟨by rfl, ?_⟩) (by assumption) ?_; rotate_left; (focus (intro w hSw; (try dsimp only at hSw); go_simp; (try with_reducible rfl))); (try simp only [Act.put, List.setIfInBounds_toArray, List.set_cons_zero, List.set_cons_succ])
    refine wpAnyH_take (i := 3) (oi := ⟨some 19, _, _, _, _, _⟩) (v := ?_) rfl (by kernel_rfl) (by kernel_rfl) (by kernel_rfl) (fun _ _ _ h => h) (Or.inl ⟨by rfl, ?_⟩) (by assumption) ?_; rotate_left; (focus (intro w hSw; (try dsimp only at hSw); go_simp; (try with_reducible rfl))); (try simp only [Act.put, List.setIfInBounds_toArray, List.set_cons_zero, List.set_cons_succ])
    refine wpAnyH_ready (rs := [4]) (by kernel_rfl) (by simp) ?_; refine AllReadyH.cons (o := ⟨some 20, _, _, _, _, _⟩) rfl (fun K hK => ?_) AllReadyH.nil; go_simp
    refine hK.out _ _ q5 (fun hHeld => ?_); clear hK K; (try simp only [Act.put, List.setIfInBounds_toArray, List.set_cons_zero, List.set_cons_succ])
    refine wpAnyH_ready (rs := [5]) (by kernel_rfl) (by simp) ?_; refine AllReadyH.cons (o := ⟨some 21, _, _, _, _, _⟩) rfl (fun K hK => ?_) AllReadyH.nil; go_simp
    have HR5 := Lib.hid (HR4.out.alloc (.cells #[.int .i64 (-1), .int .i64 3, .int .i64 0, .int .i64 2] 3))
    have HO5 := Lib.hid (HO4.out.alloc (.cells #[.int .i64 (-1), .int .i64 3, .int .i64 0, .int .i64 2] 3))
    have HB5 := Lib.hid (HB4.out.alloc (.cells #[.int .i64 (-1), .int .i64 3, .int .i64 0, .int .i64 2] 3))
    have HG5 := Lib.hid (HG4.out.alloc (.cells #[.int .i64 (-1), .int .i64 3, .int .i64 0, .int .i64 2] 3))
    have HF5 := Lib.hid (HF4.out.trans (Frd.of_below (w' := w4.alloc (.cells #[.int .i64 (-1), .int .i64 3, .int .i64 0, .int .i64 2] 3)) ((Below.refl w4.heap.size w4).alloc (Nat.le_refl _) _) (by omega)))
    go_at_call 92
    refine (one_any g A n c bs (P + 2202) w4.heap.size 0 4 4 [-1, 3, 0, 2] _ HR5.out.drew HN.out hby hs (by omega) rfl (by omega) (by omega) ?_ (by omega) (by simp)).mono ?_
    · intro j hj
      have : j = 0 ∨ j = 1 ∨ j = 2 ∨ j = 3 := by omega
      rcases this with rfl | rfl | rfl | rfl <;> go_simp
    rintro e w5 ⟨z, rfl, _, hr5, ht5'⟩
    have ht5 : Tch g (g + 1) (w4.alloc (.cells #[.int .i64 (-1), .int .i64 3, .int .i64 0, .int .i64 2] 3)) w5 := ⟨ht5'.os, ht5'.tape, ht5'.output, ht5'.size, ht5'.block⟩
    have hz5 : w4.heap.size + 1 ≤ w5.heap.size := by have := ht5.size; simpa using this
    have HO6 := Lib.hid (HO5.out.turn ht5 (.inl (by omega)))
    have HB6 := Lib.hid (HB5.out.turn ht5 (.inl (by omega)))
    have HG6 := Lib.hid (HG5.out.turn ht5 (.inl (by omega)))
    have HOO := Lib.hid (HO6.out.it.setKind hjk z)
    have q6 := HG6.out.it
    obtain ⟨⟨y0, m0⟩, ⟨y1, m1⟩, e0, e1, _, _⟩ := HO6.out.it.node_cells hjk
    have hne : ∀ q : Nat, (⟨gn, q, none⟩ : Addr) ≠ ⟨bG, 0, none⟩ := fun q e => by have := congrArg Addr.block e; simp at this; omega
    have q7 : (w5.setCell ⟨gn, j * 2, none⟩ (.int .i64 z)).cell? ⟨bG, 0, none⟩ = some (.slice (some ⟨gn, 0, none⟩) k cg) := (World.cell?_setCell_other _ _ _ _ (hne _)).trans q6
    refine hK.out _ _ q6 (fun hHeld => ?_); clear hK K; (try simp only [Act.put, List.setIfInBounds_toArray, List.set_cons_zero, List.set_cons_succ])
    refine wpAnyH_take (i := 6) (oi := ⟨some 22, _, _, _, _, _⟩) (v := ?_) rfl (by kernel_rfl) (by kernel_rfl) (by kernel_rfl) (fun _ _ _ h => h) (Or.inl ⟨by rfl, ?_⟩) (by assumption) ?_; rotate_left; (focus (intro w hSw; (try dsimp only at hSw); go_simp; (try with_reducible rfl))); (try simp only [Act.put, List.setIfInBounds_toArray, List.set_cons_zero, List.set_cons_succ])
    refine wpAnyH_take (i := 7) (oi := ⟨some 23, _, _, _, _, _⟩) (v := ?_) rfl (by kernel_rfl) (by kernel_rfl) (by kernel_rfl) (fun _ _ _ h => h) (Or.inl ⟨by rfl, ?_⟩) (by assumption) ?_; rotate_left; (focus (intro w hSw; (try dsimp only at hSw); go_simp; (try with_reducible rfl))); (try simp only [Act.put, List.setIfInBounds_toArray, List.set_cons_zero, List.set_cons_succ])
    refine wpAnyH_ready (rs := [8]) (by kernel_rfl) (by simp) ?_; refine AllReadyH.cons (o := ⟨none, _, _, _, _, _⟩) rfl (fun K hK => ?_) AllReadyH.nil; go_simp
    refine hK.out _ _ q7 (fun hHeld => ?_); clear hK K; (try simp only [Act.put, List.setIfInBounds_toArray, List.set_cons_zero, List.set_cons_succ])
    refine wpAnyH_done (by kernel_rfl) ?_ _
    have HFF := Lib.hid ((HF5.out.trans (Frd.of_tch ht5 (by simp; omega))).trans (Frd.of_below ((Below.refl w.heap.size w5).setCell (p := ⟨gn, j * 2, none⟩) (by show w.heap.size ≤ gn; omega) (.int .i64 z)) (Nat.le_refl _)))
    have HRR := Lib.hid (hr5.set1 (show g < gn by omega) (j * 2) (.int .i64 z))
    have HBB := Lib.hid (HB6.out.keep (w' := w5.setCell ⟨gn, j * 2, none⟩ (.int .i64 z)) (fun k a b => Below.heap_setCell _ _ _ _ (by show k ≠ gn; omega)) (by simp [World.setCell]))
    have hsz5 : (w5.setCell ⟨gn, j * 2, none⟩ (.int .i64 z)).heap.size = w5.heap.size := by simp [World.setCell]
    have hz6 : w.heap.size < (w5.setCell ⟨gn, j * 2, none⟩ (.int .i64 z)).heap.size := by rw [hsz5]; omega
    obtain ⟨r0, r1⟩ := HBB.out.it
    have HSZ5 := Lib.hid hsz5
    clear hr5 ht5 ht5' hsz5
    go_wp2
    refine bodyPost_ret (v := .agg #[.slice (some ⟨gn, 0, none⟩) k cg]) (by simp [results, Try.results67, go_sem, r0]) rfl ?_
    generalize hW : w5.setCell ⟨gn, j * 2, none⟩ (.int .i64 z) = W6 at *
    have hsz : (W6.setCell ⟨w.heap.size, 0, none⟩ (.slice (some ⟨gn, 0, none⟩) k cg)).heap.size = W6.heap.size := by simp [World.setCell]
    refine ⟨_, k, gs.set j ⟨z, (gs.getD j default).ps⟩, rfl, hk2, hk10, small_set hsm (hsm j), ?_, (HRR.out.mono (by omega)).set1 hgw 0 _, (HFF.out.trans (Frd.of_below ((Below.refl w.heap.size _).setCell (p := ⟨w.heap.size, 0, none⟩) (Nat.le_refl _) _) (Nat.le_refl _))).tch⟩
    rw [hsz]
    exact (OwG.loc _ _ _ _ _ _ _ HOO.out fun b x y => Below.heap_setCell _ _ _ _ (by show b ≠ w.heap.size; omega)).mono (by omega) (by have := HSZ5.out; omega)
  · by_cases hx1 : x = 1
    · subst hx1
      have a8 : IntKind.i64.wrap ((k : Int) - 1) = (k : Int) - 1 := (by rw [IntKind.wrap_i64]; omega)
      have q5 := (World.cell?_alloc_lt w4 (.cells #[.int .i64 j, .int .i64 ((k : Int) - 1)] 3) ⟨bG, 0, none⟩ hzG).trans q4
      go_wp2
      refine wp_region_held_drew (S := fun w' => w'.cell? ⟨bG, 0, none⟩ = some (.slice (some ⟨gn, 0, none⟩) k cg)) (by kernel_rfl) q4 (fun hHeld => ?_)
      refine wpAnyH_take (i := 0) (oi := ⟨some 26, _, _, _, _, _⟩) (v := ?_) rfl (by kernel_rfl) (by kernel_rfl) (by kernel_rfl) (fun _ _ _ h => h) (Or.inl ⟨by rfl, ?_⟩) (by assumption) ?_; rotate_left; (focus (intro w hSw; (try dsimp only at hSw); go_simp; (try with_reducible rfl))); (try simp only [Act.put, List.setIfInBounds_toArray, List.set_cons_zero, List.set_cons_succ])
      refine wpAnyH_take (i := 1) (oi := ⟨some 27, _, _, _, _, _⟩) (v := ?_) rfl (by kernel_rfl) (by kernel_rfl) (by kernel_rfl) (fun _ _ _ h => h) (Or.inl ⟨by rfl, ?_⟩) (by assumption) ?_; rotate_left; (focus (intro w hSw; (try dsimp only at hSw); go_simp; (try with_reducible rfl))); (try simp only [Act.put, List.setIfInBounds_toArray, List.set_cons_zero, List.set_cons_succ])
      refine wpAnyH_take (i := 2) (oi := ⟨some 28, _, _, _, _, _⟩) (v := ?_) rfl (by kernel_rfl) (by kernel_rfl) (by kernel_rfl) (fun _ _ _ h => h) (Or.inl ⟨by rfl, ?_⟩) (by assumption) ?_; rotate_left; (focus (intro w hSw; (try dsimp only at hSw); go_simp; (try with_reducible rfl))); (try simp only [Act.put, List.setIfInBounds_toArray, List.set_cons_zero, List.set_cons_succ])
      refine wpAnyH_take (i := 3) (oi := ⟨some 29, _, _, _, _, _⟩) (v := ?_) rfl (by kernel_rfl) (by kernel_rfl) (by kernel_rfl) (fun _ _ _ h => h) (Or.inl ⟨by rfl, ?_⟩) (by assumption) ?_; rotate_left; (focus (intro w hSw; (try dsimp only at hSw); go_simp; (try with_reducible rfl))); (try simp only [Act.put, List.setIfInBounds_toArray, List.set_cons_zero, List.set_cons_succ])
      refine wpAnyH_take (i := 4) (oi := ⟨some 30, _, _, _, _, _⟩) (v := ?_) rfl (by kernel_rfl) (by kernel_rfl) (by kernel_rfl) (fun _ _ _ h => h) (Or.inl ⟨by rfl, ?_⟩) (by assumption) ?_; rotate_left; (focus (intro w hSw; (try dsimp only at hSw); go_simp; (try with_reducible rfl))); (try simp only [Act.put, List.setIfInBounds_toArray, List.set_cons_zero, List.set_cons_succ])
      refine wpAnyH_take (i := 5) (oi := ⟨some 31, _, _, _, _, _⟩) (v := ?_) rfl (by kernel_rfl) (by kernel_rfl) (by kernel_rfl) (fun _ _ _ h => h) (Or.inl ⟨by rfl, ?_⟩) (by assumption) ?_; rotate_left; (focus (intro w hSw; (try dsimp only at hSw); go_simp; (try with_reducible rfl))); (try simp only [Act.put, List.setIfInBounds_toArray, List.set_cons_zero, List.set_cons_succ])
      refine wpAnyH_take (i := 6) (oi := ⟨some 32, _, _, _, _, _⟩) (v := ?_) rfl (by kernel_rfl) (by kernel_rfl) (by kernel_rfl) (fun _ _ _ h => h) (Or.inl ⟨by rfl, ?_⟩) (by assumption) ?_; rotate_left; (focus (intro w hSw; (try dsimp only at hSw); go_simp; (try with_reducible rfl))); (try simp only [Act.put, List.setIfInBounds_toArray, List.set_cons_zero, List.set_cons_succ])
      refine wpAnyH_take (i := 7) (oi := ⟨some 33, _, _, _, _, _⟩) (v := ?_) rfl (by kernel_rfl) (by kernel_rfl) (by kernel_rfl) (fun _ _ _ h => h) (Or.inl ⟨by rfl, ?_⟩) (by assumption) ?_; rotate_left; (focus (intro w hSw; (try dsimp only at hSw); go_simp; (try with_reducible rfl))); (try simp only [Act.put, List.setIfInBounds_toArray, List.set_cons_zero, List.set_cons_succ])
      refine wpAnyH_take (i := 8) (oi := ⟨some 34, _, _, _, _, _⟩) (v := ?_) rfl (by kernel_rfl) (by kernel_rfl) (by kernel_rfl) (fun _ _ _ h => h) (Or.inl ⟨by rfl, ?_⟩) (by assumption) ?_; rotate_left; (focus (intro w hSw; (try dsimp only at hSw); go_simp; (try with_reducible rfl))); (try simp only [Act.put, List.setIfInBounds_toArray, List.set_cons_zero, List.set_cons_succ])
      refine wpAnyH_ready (rs := [9]) (by kernel_rfl) (by simp) ?_; refine AllReadyH.cons (o := ⟨some 35, _, _, _, _, _⟩) rfl (fun K hK => ?_) AllReadyH.nil; go_simp
      refine hK.out _ _ q5 (fun hHeld => ?_); clear hK K; (try simp only [Act.put, List.setIfInBounds_toArray, List.set_cons_zero, List.set_cons_succ])
      refine wpAnyH_ready (rs := [10]) (by kernel_rfl) (by simp) ?_; refine AllReadyH.cons (o := ⟨some 36, _, _, _, _, _⟩) rfl (fun K hK => ?_) AllReadyH.nil; go_simp
      have HR5 := Lib.hid (HR4.out.alloc (.cells #[.int .i64 j, .int .i64 ((k : Int) - 1)] 3))
      have HO5 := Lib.hid (HO4.out.alloc (.cells #[.int .i64 j, .int .i64 ((k : Int) - 1)] 3))
      have HB5 := Lib.hid (HB4.out.alloc (.cells #[.int .i64 j, .int .i64 ((k : Int) - 1)] 3))
      have HG5 := Lib.hid (HG4.out.alloc (.cells #[.int .i64 j, .int .i64 ((k : Int) - 1)] 3))
      have HF5 := Lib.hid (HF4.out.trans (Frd.of_below (w' := w4.alloc (.cells #[.int .i64 j, .int .i64 ((k : Int) - 1)] 3)) ((Below.refl w4.heap.size w4).alloc (Nat.le_refl _) _) (by omega)))
      go_at_call 108
      refine (goodFormula_any g A n c bs (P + 2202) (some ⟨w4.heap.size, 0, none⟩) 2 2 [(j : Int), (k : Int) - 1] _ HR5.out.drew HN.out hby hs (by omega) rfl (by omega) ?_ ?_).mono ?_
      · intro _
        refine ⟨w4.heap.size, 0, rfl, by simp, fun i hi => ?_⟩
        have : i = 0 ∨ i = 1 := by simp at hi; omega
        rcases this with rfl | rfl <;> go_simp
      · intro b' o' e; cases e; omega
      rintro e w5 ⟨Af, nf, cf, ps, rfl, hpl, hnf1, hnf2, hrow5, hr5, ht5'⟩
      have ht5 : Tch g (g + 1) (w4.alloc (.cells #[.int .i64 j, .int .i64 ((k : Int) - 1)] 3)) w5 := ⟨ht5'.os, ht5'.tape, ht5'.output, ht5'.size, ht5'.block⟩
      have hz5 : w4.heap.size + 1 ≤ w5.heap.size := by have := ht5.size; simpa using this
      have hps40 : ps.length ≤ 40 := by omega
      have HO6 := Lib.hid (HO5.out.turn ht5 (.inl (by omega)))
      have HB6 := Lib.hid (HB5.out.turn ht5 (.inl (by omega)))
      have HG6 := Lib.hid (HG5.out.turn ht5 (.inl (by omega)))
      have HOO := Lib.hid (HO6.out.it.setForm hjk hpl ((OwR.start hrow5).mono (by simp; omega) (Nat.le_refl _)) (show bG ≤ w5.heap.size by omega))
      have q6 := HG6.out.it
      obtain ⟨⟨y0, m0⟩, ⟨y1, m1⟩, e0, e1, _, _⟩ := HO6.out.it.node_cells hjk
      have hne : ∀ q : Nat, (⟨gn, q, none⟩ : Addr) ≠ ⟨bG, 0, none⟩ := fun q e => by have := congrArg Addr.block e; simp at this; omega
      have q7 : (w5.setCell ⟨gn, j * 2 + 1, none⟩ (.slice Af nf cf)).cell? ⟨bG, 0, none⟩ = some (.slice (some ⟨gn, 0, none⟩) k cg) := (World.cell?_setCell_other _ _ _ _ (hne _)).trans q6
      clear hrow5 hpl
      refine hK.out _ _ q6 (fun hHeld => ?_); clear hK K; (try simp only [Act.put, List.setIfInBounds_toArray, List.set_cons_zero, List.set_cons_succ])
      refine wpAnyH_take (i := 11) (oi := ⟨some 37, _, _, _, _, _⟩) (v := ?_) rfl (by kernel_rfl) (by kernel_rfl) (by kernel_rfl) (fun _ _ _ h => h) (Or.inl ⟨by rfl, ?_⟩) (by assumption) ?_; rotate_left; (focus (intro w hSw; (try dsimp only at hSw); go_simp; (try with_reducible rfl))); (try simp only [Act.put, List.setIfInBounds_toArray, List.set_cons_zero, List.set_cons_succ])
      refine wpAnyH_take (i := 12) (oi := ⟨some 38, _, _, _, _, _⟩) (v := ?_) rfl (by kernel_rfl) (by kernel_rfl) (by kernel_rfl) (fun _ _ _ h => h) (Or.inl ⟨by rfl, ?_⟩) (by assumption) ?_; rotate_left; (focus (intro w hSw; (try dsimp only at hSw); go_simp; (try with_reducible rfl))); (try simp only [Act.put, List.setIfInBounds_toArray, List.set_cons_zero, List.set_cons_succ])
      refine wpAnyH_ready (rs := [13]) (by kernel_rfl) (by simp) ?_; refine AllReadyH.cons (o := ⟨none, _, _, _, _, _⟩) rfl (fun K hK => ?_) AllReadyH.nil; go_simp
      refine hK.out _ _ q7 (fun hHeld => ?_); clear hK K; (try simp only [Act.put, List.setIfInBounds_toArray, List.set_cons_zero, List.set_cons_succ])
      refine wpAnyH_done (by kernel_rfl) ?_ _
      have HFF := Lib.hid ((HF5.out.trans (Frd.of_tch ht5 (by simp; omega))).trans (Frd.of_below ((Below.refl w.heap.size w5).setCell (p := ⟨gn, j * 2 + 1, none⟩) (by show w.heap.size ≤ gn; omega) (.slice Af nf cf)) (Nat.le_refl _)))
      have HRR := Lib.hid (hr5.set1 (show g < gn by omega) (j * 2 + 1) (.slice Af nf cf))
      have HBB := Lib.hid (HB6.out.keep (w' := w5.setCell ⟨gn, j * 2 + 1, none⟩ (.slice Af nf cf)) (fun k a b => Below.heap_setCell _ _ _ _ (by show k ≠ gn; omega)) (by simp [World.setCell]))
      have hsz5 : (w5.setCell ⟨gn, j * 2 + 1, none⟩ (.slice Af nf cf)).heap.size = w5.heap.size := by simp [World.setCell]
      have hz6 : w.heap.size < (w5.setCell ⟨gn, j * 2 + 1, none⟩ (.slice Af nf cf)).heap.size := by rw [hsz5]; omega
      obtain ⟨r0, r1⟩ := HBB.out.it
      have HSZ5 := Lib.hid hsz5
      clear hr5 ht5 ht5' hsz5
      go_wp2
      refine bodyPost_ret (v := .agg #[.slice (some ⟨gn, 0, none⟩) k cg]) (by simp [results, Try.results67, go_sem, r0]) rfl ?_
      generalize hW : w5.setCell ⟨gn, j * 2 + 1, none⟩ (.slice Af nf cf) = W6 at *
      have hsz : (W6.setCell ⟨w.heap.size, 0, none⟩ (.slice (some ⟨gn, 0, none⟩) k cg)).heap.size = W6.heap.size := by simp [World.setCell]
      refine ⟨_, k, gs.set j ⟨(gs.getD j default).k, ps⟩, rfl, hk2, hk10, small_set hsm hps40, ?_, (HRR.out.mono (by omega)).set1 hgw 0 _, (HFF.out.trans (Frd.of_below ((Below.refl w.heap.size _).setCell (p := ⟨w.heap.size, 0, none⟩) (Nat.le_refl _) _) (Nat.le_refl _))).tch⟩
      rw [hsz]
      exact (OwG.loc _ _ _ _ _ _ _ HOO.out fun b x y => Below.heap_setCell _ _ _ _ (by show b ≠ w.heap.size; omega)).mono (by omega) (by have := HSZ5.out; omega)
    · obtain ⟨r0, r1⟩ := HB4.out.it
      go_wp2
      refine bodyPost_ret (v := .agg #[.slice (some ⟨gn, 0, none⟩) k cg]) (by simp [results, Try.results67, go_sem, r0]) rfl ?_
      have hsz : (w4.setCell ⟨w.heap.size, 0, none⟩ (.slice (some ⟨gn, 0, none⟩) k cg)).heap.size = w4.heap.size := by simp [World.setCell]
      refine ⟨_, k, gs, rfl, hk2, hk10, hsm, ?_, (HR4.out.mono (by omega)).set1 hgw 0 _, (HF4.out.trans (Frd.of_below ((Below.refl w.heap.size _).setCell (p := ⟨w.heap.size, 0, none⟩) (Nat.le_refl _) _) (Nat.le_refl _))).tch⟩
      rw [hsz]
      exact (OwG.loc _ _ _ _ _ _ _ HO4.out.it fun b x y => Below.heap_setCell _ _ _ _ (by show b ≠ w.heap.size; omega)).mono (by omega) (by omega)
end Go.Proofs.Ytdhjflhpenkchaa
