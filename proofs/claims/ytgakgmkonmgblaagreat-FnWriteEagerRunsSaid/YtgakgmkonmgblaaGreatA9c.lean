/- Words and contracts for memory that the texts behind use. -/
import Derived.Test.YtgakgmkonmgblaaGreatA9b
import Derived.WalkKit
import Derived.Laws.OwnMore
import Derived.Deep.Draws
import Derived.Test.YtgakgmkonmgblaaGreatProg
import Derived.WalkSpells
import Derived.WalkLawsBesides
import Derived.Outline
import Derived.Lib.Hide
import Derived.BigQuiet
import Derived.Deep.QuietTactic
import Derived.StillTailTactics
import Derived.Deep.LoopGhost
import Derived.Laws.MakeOwn
import Derived.WalkSmall
import Derived.RegionTactic
import Derived.BigRegion
import Derived.Deep.RegionWith
import Derived.Deep.RegionHeld3
import Derived.Laws.Entries
import Derived.Laws.Bits64
import Derived.IntWalk
import Derived.Maps.AppendAt
import Derived.Deep.RegionLaw
import Derived.Deep.AppendLies
import Derived.Deep.Cut
import Derived.Deep.DeepCutAuto
import Derived.Laws.CopyOwn

namespace Go.Proofs.YtgakgmkonmgblaaGreat
set_option linter.unusedSimpArgs false
set_option linter.unusedVariables false
open Go.RowKit
/-- One node is another one. -/
theorem OwG.change {lo hi hi' k j : Nat} {v : Value} {gs : List Nd} {w w' : World} {d : Nd} {x y : Value} {xs xs' : List Value} (h0 : k = gs.length) (hx : OwR lo hi 80 2 v k xs w)
    (hn : ∀ i, i < k → ∃ x y, xs[i * 2]? = some x ∧ xs[i * 2 + 1]? = some y ∧ NdO lo hi (gs.getD i default) x y w) (hg : w.grownBy w' v.ownBlock) (hv : w'.ownsRow lo 80 2 v k xs') (hj : j < k)
    (hx' : xs'[j * 2]? = some x) (hy' : xs'[j * 2 + 1]? = some y) (ho : ∀ i, i ≠ j → xs'[i * 2]? = xs[i * 2]? ∧ xs'[i * 2 + 1]? = xs[i * 2 + 1]?) (hd : NdO lo hi' d x y w') (hle : hi ≤ hi') : OwG lo hi' v k (gs.set j d) w' := by
  refine ⟨by simp [h0], xs', ⟨hv, fun q hq => by have := hx.2 q hq; omega⟩, fun i hi => ?_⟩
  by_cases e : i = j
  · subst e
    have eg : (gs.set i d).getD i default = d := by simp [List.getD, List.getElem?_set, show i < gs.length by omega]
    rw [eg]
    exact ⟨x, y, hx', hy', hd⟩
  · have eg : (gs.set j d).getD i default = gs.getD i default := by simp [List.getD, List.getElem?_set, show ¬ j = i by omega]
    obtain ⟨x1, y1, e1, e2, e3, A', n', c', e4, e5, e6⟩ := hn i hi
    obtain ⟨o1, o2⟩ := ho i e
    rw [eg]
    exact ⟨x1, y1, by rw [o1]; exact e1, by rw [o2]; exact e2, e3, A', n', c', e4, e5, e6.1.kept hg (blocks_ne e6.1 hx.1 node_ne_part.symm), fun q hq => by have := e6.2 q hq; omega⟩
theorem OwG.setKind {lo hi k j gn cg : Nat} {gs : List Nd} {w : World} (h : OwG lo hi (.slice (some ⟨gn, 0, none⟩) k cg) k gs w) (hj : j < k) (z : Int) :
    OwG lo hi (.slice (some ⟨gn, 0, none⟩) k cg) k (gs.set j ⟨z, (gs.getD j default).ps⟩) (w.setCell ⟨gn, j * 2, none⟩ (.int .i64 z)) := by
  obtain ⟨h0, xs, hx, hn⟩ := h
  have hxl : xs.length = k * 2 := hx.1.1
  have hst := hx.1.stored (j * 2) (.int .i64 z)
  obtain ⟨x1, y1, e1, e2, e3, A', n', c', e4, e5, e6⟩ := hn j hj
  refine OwG.change h0 hx hn hst.2 hst.1 hj (x := .int .i64 z) (y := y1) ?_ ?_ (fun i hi => ⟨?_, ?_⟩) ?_ (Nat.le_refl _)
  · rw [List.getElem?_set, if_pos rfl, if_pos (by omega)]
  · rw [List.getElem?_set, if_neg (by omega)]; exact e2
  · rw [List.getElem?_set, if_neg (by omega)]
  · rw [List.getElem?_set, if_neg (by omega)]
  · exact ⟨rfl, A', n', c', e4, e5, e6.1.kept hst.2 (blocks_ne e6.1 hx.1 node_ne_part.symm), e6.2⟩
theorem OwG.setForm {lo hi k j gn cg hi' : Nat} {gs : List Nd} {w : World} (h : OwG lo hi (.slice (some ⟨gn, 0, none⟩) k cg) k gs w) (hj : j < k) {A : Option Addr} {m c : Nat} {ps : List Pt} (hm : m = ps.length)
    (hp : OwR lo hi' 143 5 (.slice A m c) m (ps.flatMap Pt.cells) w) (hle : hi ≤ hi') :
    OwG lo hi' (.slice (some ⟨gn, 0, none⟩) k cg) k (gs.set j ⟨(gs.getD j default).k, ps⟩) (w.setCell ⟨gn, j * 2 + 1, none⟩ (.slice A m c)) := by
  obtain ⟨h0, xs, hx, hn⟩ := h
  have hxl : xs.length = k * 2 := hx.1.1
  have hst := hx.1.stored (j * 2 + 1) (.slice A m c)
  obtain ⟨x1, y1, e1, e2, e3, A', n', c', e4, e5, e6⟩ := hn j hj
  refine OwG.change h0 hx hn hst.2 hst.1 hj (x := x1) (y := .slice A m c) ?_ ?_ (fun i hi => ⟨?_, ?_⟩) ?_ hle
  · rw [List.getElem?_set, if_neg (by omega)]; exact e1
  · rw [List.getElem?_set, if_pos rfl, if_pos (by omega)]
  · rw [List.getElem?_set, if_neg (by omega)]
  · rw [List.getElem?_set, if_neg (by omega)]
  · exact ⟨e3, A, m, c, rfl, hm, hp.1.kept hst.2 (blocks_ne hp.1 hx.1 node_ne_part.symm), hp.2⟩
theorem small_set {gs : List Nd} {j : Nat} {d : Nd} (h : ∀ j, (gs.getD j default).ps.length ≤ 40) (hd : d.ps.length ≤ 40) : ∀ i, ((gs.set j d).getD i default).ps.length ≤ 40 := by
  intro i
  by_cases e : j = i
  · subst e
    by_cases hl : j < gs.length
    · simpa [List.getD, List.getElem?_set, hl] using hd
    · rw [List.set_eq_of_length_le (by omega)]
      exact h j
  · have := h i
    simpa [List.getD, List.getElem?_set, e] using this
theorem OwG.node_cells {lo hi k j gn cg : Nat} {gs : List Nd} {w : World} (h : OwG lo hi (.slice (some ⟨gn, 0, none⟩) k cg) k gs w) (hj : j < k) :
    (∃ x, w.cell? ⟨gn, j * 2, none⟩ = some x) ∧ (∃ x, w.cell? ⟨gn, j * 2 + 1, none⟩ = some x) ∧ w.frozen? ⟨gn, j * 2, none⟩ = false ∧ w.frozen? ⟨gn, j * 2 + 1, none⟩ = false ∧ lo ≤ gn ∧ gn < hi := by
  obtain ⟨h0, xs, hx, hn⟩ := h
  have hxl : xs.length = k * 2 := hx.1.1
  obtain ⟨x1, y1, e1, e2, _⟩ := hn j hj
  exact ⟨⟨x1, (hx.1.cellAt _ (by omega)).trans e1⟩, ⟨y1, (hx.1.cellAt _ (by omega)).trans e2⟩, hx.1.frozenAt _, hx.1.frozenAt _, (hx.1.lt gn rfl).1, hx.2 gn rfl⟩
theorem OwG.pos {lo hi k : Nat} {v : Value} {gs : List Nd} {w : World} (h : OwG lo hi v k gs w) (hk : 0 < k) : ∃ gn cg, v = .slice (some ⟨gn, 0, none⟩) k cg := by
  obtain ⟨h0, xs, hx, _⟩ := h
  exact row_pos hx.1 hk
set_option maxRecDepth 100000 in
set_option maxHeartbeats 40000000 in
theorem someGraph_any (g : Nat) (A : Option Addr) (n c : Nat) (bs : List Int) (P : Nat) (w : World) (h : Rdr g A n c bs P w) (hn : n = bs.length) (hby : BY bs) (hs : n ≤ 2000) (hP : P ≤ 700000) :
    Calls Tryz.prog 101 #[.pointer (some ⟨g, 0, none⟩)] w fun e w' => GgP g A n c bs (P + 2500) w e w' := by
  have hgw := h.lt
  have HN := Lib.hid hn
  have HR0 := Lib.hid (h.alloc (.cells #[.slice none 0 0] 25))
  clear h hn
  go_enter Tryz.func101, Tryz.ntmps101
  go_wp2_with fail
  refine (goodGraph_any g A n c bs P _ HR0.out HN.out hby hs (by omega)).mono ?_
  rintro e w1 ⟨V, k, gs, rfl, hk2, hk10, hsm, hown, hr1, ht1⟩
  have hs1 : w.heap.size + 1 ≤ w1.heap.size := by have := ht1.size; simpa using this
  obtain ⟨gn, cg, rfl⟩ := hown.pos (by omega)
  simp only [World.size_alloc] at hown
  obtain ⟨bG, hbG⟩ : ∃ bG, bG = w1.heap.size := ⟨_, rfl⟩
  have HBG := Lib.hid hbG
  have k0 : w1.cell? ⟨w.heap.size, 0, none⟩ = some (.slice none 0 0) := (World.cell?_of_block (a := ⟨w.heap.size, 0, none⟩) (ht1.block w.heap.size (by simp) (.inr (by omega)))).trans (by go_simp)
  have k1 : w1.frozen? ⟨w.heap.size, 0, none⟩ = false := (World.frozen?_of_block (a := ⟨w.heap.size, 0, none⟩) (ht1.block w.heap.size (by simp) (.inr (by omega)))).trans (by go_simp)
  have HB1 : Hid (As w.heap.size (w.heap.size + 1) (fun w' => w'.cell? ⟨w.heap.size, 0, none⟩ = some (.slice none 0 0) ∧ w'.frozen? ⟨w.heap.size, 0, none⟩ = false) w1) :=
    ⟨⟨k0, k1⟩, hs1, fun w w' h hk => ⟨(World.cell?_of_block (a := ⟨_, 0, none⟩) (hk _ (Nat.le_refl _) (Nat.lt_succ_self _))).trans h.1, (World.frozen?_of_block (a := ⟨_, 0, none⟩) (hk _ (Nat.le_refl _) (Nat.lt_succ_self _))).trans h.2⟩⟩
  have HO1 : Hid (As (w.heap.size + 1) bG (OwG (w.heap.size + 1) bG (.slice (some ⟨gn, 0, none⟩) k cg) k gs) w1) := by rw [hbG]; exact graph_start hown
  have HF1 := Lib.hid ((Frd.of_below (g := g) (s := w.heap.size) ((Below.refl w.heap.size w).alloc (Nat.le_refl _) (.cells #[.slice none 0 0] 25)) (Nat.le_refl _)).trans (Frd.of_tch ht1 (by simp)))
  have HR1 := Lib.hid (hr1.alloc (.cells #[.slice (some ⟨gn, 0, none⟩) k cg] 25))
  have HO2 := Lib.hid (HO1.out.alloc (.cells #[.slice (some ⟨gn, 0, none⟩) k cg] 25))
  have HB2 := Lib.hid (HB1.out.alloc (.cells #[.slice (some ⟨gn, 0, none⟩) k cg] 25))
  have HG2 := box_new w1 (.slice (some ⟨gn, 0, none⟩) k cg) 25
  rw [← hbG] at HG2
  have HG2 := Lib.hid HG2
  have HF2 := Lib.hid (HF1.out.trans (Frd.of_below (w' := w1.alloc (.cells #[.slice (some ⟨gn, 0, none⟩) k cg] 25)) ((Below.refl w1.heap.size w1).alloc (Nat.le_refl _) _) (by omega)))
  have hgG : g < bG := by omega
  have hz2 : bG < (w1.alloc (.cells #[.slice (some ⟨gn, 0, none⟩) k cg] 25)).heap.size := by rw [hbG]; simp
  have hsG : w.heap.size + 1 ≤ bG := by omega
  clear k0 k1 HB1 HO1 HF1 HR0 hown hr1 ht1 hbG
  have q2 := HG2.out.it
  go_wp2_with fail
  generalize w1.alloc (.cells #[.slice (some ⟨gn, 0, none⟩) k cg] 25) = W2 at *
  refine (pick_any g A n c bs (P + 2200) k W2 HR1.out HN.out hby hs (by omega) (by omega)).mono ?_
  rintro e w3 ⟨j, rfl, hj, _, hr3, ht3⟩
  have hjk : j < k := by have := hj (by omega); omega
  have hz3 := ht3.size
  have HR3 := Lib.hid hr3
  have HO3 := Lib.hid (HO2.out.turn ht3 (.inl (by omega)))
  have HB3 := Lib.hid (HB2.out.turn ht3 (.inl (by omega)))
  have HG3 := Lib.hid (HG2.out.turn ht3 (.inl (by omega)))
  have HF3 := Lib.hid (HF2.out.trans (Frd.of_tch ht3 (by omega)))
  clear hj hr3 ht3 HR1 HO2 HB2 HG2 HF2 q2
  have q3 := HG3.out.it
  rw [HBG.out.symm]
  go_wp2_with fail
  refine (pick_any g A n c bs (P + 2201) 24 w3 HR3.out HN.out hby hs (by omega) (by omega)).mono ?_
  rintro e w4 ⟨x, rfl, _, _, hr4, ht4⟩
  have hz4 := ht4.size
  have HR4 := Lib.hid hr4
  have HO4 := Lib.hid (HO3.out.turn ht4 (.inl (by omega)))
  have HB4 := Lib.hid (HB3.out.turn ht4 (.inl (by omega)))
  have HG4 := Lib.hid (HG3.out.turn ht4 (.inl (by omega)))
  have HF4 := Lib.hid (HF3.out.trans (Frd.of_tch ht4 (by omega)))
  clear hr4 ht4 HR3 HO3 HB3 HG3 HF3 q3
  have q4 := HG4.out.it
  obtain ⟨⟨x0, n0⟩, ⟨x1, n1⟩, f0, f1, hlo, hhi⟩ := HO4.out.it.node_cells hjk
  have hzG : bG < w4.heap.size := by omega
  have hwz : w.heap.size < w4.heap.size := by omega
  by_cases hx0 : x = 0
  · subst hx0
    have q5 := (World.cell?_alloc_lt w4 (.cells #[.int .i64 (-1), .int .i64 3, .int .i64 0, .int .i64 2] 3) ⟨bG, 0, none⟩ hzG).trans q4
    go_wp2
    refine wp_region_held_drew (S := fun w' => w'.cell? ⟨bG, 0, none⟩ = some (.slice (some ⟨gn, 0, none⟩) k cg)) (by kernel_rfl) q4 (fun hHeld => ?_)
    refine wpAnyH_take (i := 0) (oi := ⟨some 16, _, _, _, _, _⟩) (v := ?_) rfl (by kernel_rfl) (by kernel_rfl) (by kernel_rfl) (fun _ _ _ h => h) (Or.inl ⟨by rfl, ?_⟩) (by assumption) ?_; rotate_left; (focus (intro w hSw; (try dsimp only at hSw); go_simp; (try with_reducible rfl))); (try simp only [Act.put, List.setIfInBounds_toArray, List.set_cons_zero, List.set_cons_succ])
    refine wpAnyH_take (i := 1) (oi := ⟨some 17, _, _, _, _, _⟩) (v := ?_) rfl (by kernel_rfl) (by kernel_rfl) (by kernel_rfl) (fun _ _ _ h => h) (Or.inl ⟨by rfl, ?_⟩) (by assumption) ?_; rotate_left; (focus (intro w hSw; (try dsimp only at hSw); go_simp; (try with_reducible rfl))); (try simp only [Act.put, List.setIfInBounds_toArray, List.set_cons_zero, List.set_cons_succ])
    refine wpAnyH_take (i := 2) (oi := ⟨some 18, _, _, _, _, _⟩) (v := ?_) rfl (by kernel_rfl) (by kernel_rfl) (by kernel_rfl) (fun _ _ _ h => h) (Or.inl ⟨by rfl, ?_⟩) (by assumption) ?_; rotate_left; (focus (intro w hSw; (try dsimp only at hSw); go_simp; (try with_reducible rfl))); (try simp only [Act.put, List.setIfInBounds_toArray, List.set_cons_zero, List.set_cons_succ])
    refine wpAnyH_take (i := 3) (oi := ⟨some 19, _, _, _, _, _⟩) (v := ?_) rfl (by kernel_rfl) (by kernel_rfl) (by kernel_rfl) (fun _ _ _ h => h) (Or.inl ⟨by rfl, ?_⟩) (by assumption) ?_; rotate_left; (focus (intro w hSw; (try dsimp only at hSw); go_simp; (try with_reducible rfl))); (try simp only [Act.put, List.setIfInBounds_toArray, List.set_cons_zero, List.set_cons_succ])
    refine wpAnyH_ready (rs := [4]) (by kernel_rfl) (by simp) ?_; refine AllReadyH.cons (o := ⟨some 20, _, _, _, _, _⟩) rfl (fun K hK => ?_) AllReadyH.nil; go_simp
    refine hK.out _ _ q5 (fun hHeld => ?_); clear hK K; (try simp only [Act.put, List.setIfInBounds_toArray, List.set_cons_zero, List.set_cons_succ])
    refine wpAnyH_ready (rs := [5]) (by kernel_rfl) (by simp) ?_; refine AllReadyH.cons (o := ⟨some 21, _, _, _, _, _⟩) rfl (fun K hK => ?_) AllReadyH.nil; go_simp
    have HR5 := Lib.hid (HR4.out.alloc (.cells #[.int .i64 (-1), .int .i64 3, .int .i64 0, .int .i64 2] 3))
    have HO5 := Lib.hid (HO4.out.alloc (.cells #[.int .i64 (-1), .int .i64 3, .int .i64 0, .int .i64 2] 3))
    have HB5 := Lib.hid (HB4.out.alloc (.cells #[.int .i64 (-1), .int .i64 3, .int .i64 0, .int .i64 2] 3))
    have HG5 := Lib.hid (HG4.out.alloc (.cells #[.int .i64 (-1), .int .i64 3, .int .i64 0, .int .i64 2] 3))
    have HF5 := Lib.hid (HF4.out.trans (Frd.of_below (w' := w4.alloc (.cells #[.int .i64 (-1), .int .i64 3, .int .i64 0, .int .i64 2] 3)) ((Below.refl w4.heap.size w4).alloc (Nat.le_refl _) _) (by omega)))
    go_at_call 77
    refine (one_any g A n c bs (P + 2202) w4.heap.size 0 4 4 [-1, 3, 0, 2] _ HR5.out.drew HN.out hby hs (by omega) rfl (by omega) (by omega) ?_ (by omega) (by simp)).mono ?_
    · intro j hj
      have : j = 0 ∨ j = 1 ∨ j = 2 ∨ j = 3 := by omega
      rcases this with rfl | rfl | rfl | rfl <;> go_simp
    rintro e w5 ⟨z, rfl, _, hr5, ht5'⟩
    have ht5 : Tch g (g + 1) (w4.alloc (.cells #[.int .i64 (-1), .int .i64 3, .int .i64 0, .int .i64 2] 3)) w5 := ⟨ht5'.os, ht5'.tape, ht5'.output, ht5'.size, ht5'.block⟩
    have hz5 : w4.heap.size + 1 ≤ w5.heap.size := by have := ht5.size; simpa using this
    have HO6 := Lib.hid (HO5.out.turn ht5 (.inl (by omega)))
    have HB6 := Lib.hid (HB5.out.turn ht5 (.inl (by omega)))
    have HG6 := Lib.hid (HG5.out.turn ht5 (.inl (by omega)))
    have HOO := Lib.hid (HO6.out.it.setKind hjk z)
    have q6 := HG6.out.it
    obtain ⟨⟨y0, m0⟩, ⟨y1, m1⟩, e0, e1, _, _⟩ := HO6.out.it.node_cells hjk
    have hne : ∀ q : Nat, (⟨gn, q, none⟩ : Addr) ≠ ⟨bG, 0, none⟩ := fun q e => by have := congrArg Addr.block e; simp at this; omega
    have q7 : (w5.setCell ⟨gn, j * 2, none⟩ (.int .i64 z)).cell? ⟨bG, 0, none⟩ = some (.slice (some ⟨gn, 0, none⟩) k cg) := (World.cell?_setCell_other _ _ _ _ (hne _)).trans q6
    refine hK.out _ _ q6 (fun hHeld => ?_); clear hK K; (try simp only [Act.put, List.setIfInBounds_toArray, List.set_cons_zero, List.set_cons_succ])
    refine wpAnyH_take (i := 6) (oi := ⟨some 22, _, _, _, _, _⟩) (v := ?_) rfl (by kernel_rfl) (by kernel_rfl) (by kernel_rfl) (fun _ _ _ h => h) (Or.inl ⟨by rfl, ?_⟩) (by assumption) ?_; rotate_left; (focus (intro w hSw; (try dsimp only at hSw); go_simp; (try with_reducible rfl))); (try simp only [Act.put, List.setIfInBounds_toArray, List.set_cons_zero, List.set_cons_succ])
    refine wpAnyH_take (i := 7) (oi := ⟨some 23, _, _, _, _, _⟩) (v := ?_) rfl (by kernel_rfl) (by kernel_rfl) (by kernel_rfl) (fun _ _ _ h => h) (Or.inl ⟨by rfl, ?_⟩) (by assumption) ?_; rotate_left; (focus (intro w hSw; (try dsimp only at hSw); go_simp; (try with_reducible rfl))); (try simp only [Act.put, List.setIfInBounds_toArray, List.set_cons_zero, List.set_cons_succ])
    refine wpAnyH_ready (rs := [8]) (by kernel_rfl) (by simp) ?_; refine AllReadyH.cons (o := ⟨none, _, _, _, _, _⟩) rfl (fun K hK => ?_) AllReadyH.nil; go_simp
    refine hK.out _ _ q7 (fun hHeld => ?_); clear hK K; (try simp only [Act.put, List.setIfInBounds_toArray, List.set_cons_zero, List.set_cons_succ])
    refine wpAnyH_done (by kernel_rfl) ?_ _
    have HFF := Lib.hid ((HF5.out.trans (Frd.of_tch ht5 (by simp; omega))).trans (Frd.of_below ((Below.refl w.heap.size w5).setCell (p := ⟨gn, j * 2, none⟩) (by show w.heap.size ≤ gn; omega) (.int .i64 z)) (Nat.le_refl _)))
    have HRR := Lib.hid (hr5.set1 (show g < gn by omega) (j * 2) (.int .i64 z))
    have HBB := Lib.hid (HB6.out.keep (w' := w5.setCell ⟨gn, j * 2, none⟩ (.int .i64 z)) (fun k a b => Below.heap_setCell _ _ _ _ (by show k ≠ gn; omega)) (by simp [World.setCell]))
    have hsz5 : (w5.setCell ⟨gn, j * 2, none⟩ (.int .i64 z)).heap.size = w5.heap.size := by simp [World.setCell]
    have hz6 : w.heap.size < (w5.setCell ⟨gn, j * 2, none⟩ (.int .i64 z)).heap.size := by rw [hsz5]; omega
    obtain ⟨r0, r1⟩ := HBB.out.it
    have HSZ5 := Lib.hid hsz5
    clear hr5 ht5 ht5' hsz5
    go_wp2
    refine bodyPost_ret (v := .agg #[.slice (some ⟨gn, 0, none⟩) k cg]) (by simp [results, Tryz.results101, go_sem, r0]) rfl ?_
    generalize hW : w5.setCell ⟨gn, j * 2, none⟩ (.int .i64 z) = W6 at *
    have hsz : (W6.setCell ⟨w.heap.size, 0, none⟩ (.slice (some ⟨gn, 0, none⟩) k cg)).heap.size = W6.heap.size := by simp [World.setCell]
    refine ⟨_, k, gs.set j ⟨z, (gs.getD j default).ps⟩, rfl, hk2, hk10, small_set hsm (hsm j), ?_, (HRR.out.mono (by omega)).set1 hgw 0 _, (HFF.out.trans (Frd.of_below ((Below.refl w.heap.size _).setCell (p := ⟨w.heap.size, 0, none⟩) (Nat.le_refl _) _) (Nat.le_refl _))).tch⟩
    rw [hsz]
    exact (OwG.loc _ _ _ _ _ _ _ HOO.out fun b x y => Below.heap_setCell _ _ _ _ (by show b ≠ w.heap.size; omega)).mono (by omega) (by have := HSZ5.out; omega)
  · by_cases hx1 : x = 1
    · subst hx1
      have a8 : IntKind.i64.wrap ((k : Int) - 1) = (k : Int) - 1 := (by rw [IntKind.wrap_i64]; omega)
      have q5 := (World.cell?_alloc_lt w4 (.cells #[.int .i64 j, .int .i64 ((k : Int) - 1)] 3) ⟨bG, 0, none⟩ hzG).trans q4
      go_wp2
      refine wp_region_held_drew (S := fun w' => w'.cell? ⟨bG, 0, none⟩ = some (.slice (some ⟨gn, 0, none⟩) k cg)) (by kernel_rfl) q4 (fun hHeld => ?_)
      refine wpAnyH_take (i := 0) (oi := ⟨some 26, _, _, _, _, _⟩) (v := ?_) rfl (by kernel_rfl) (by kernel_rfl) (by kernel_rfl) (fun _ _ _ h => h) (Or.inl ⟨by rfl, ?_⟩) (by assumption) ?_; rotate_left; (focus (intro w hSw; (try dsimp only at hSw); go_simp; (try with_reducible rfl))); (try simp only [Act.put, List.setIfInBounds_toArray, List.set_cons_zero, List.set_cons_succ])
      refine wpAnyH_take (i := 1) (oi := ⟨some 27, _, _, _, _, _⟩) (v := ?_) rfl (by kernel_rfl) (by kernel_rfl) (by kernel_rfl) (fun _ _ _ h => h) (Or.inl ⟨by rfl, ?_⟩) (by assumption) ?_; rotate_left; (focus (intro w hSw; (try dsimp only at hSw); go_simp; (try with_reducible rfl))); (try simp only [Act.put, List.setIfInBounds_toArray, List.set_cons_zero, List.set_cons_succ])
      refine wpAnyH_take (i := 2) (oi := ⟨some 28, _, _, _, _, _⟩) (v := ?_) rfl (by kernel_rfl) (by kernel_rfl) (by kernel_rfl) (fun _ _ _ h => h) (Or.inl ⟨by rfl, ?_⟩) (by assumption) ?_; rotate_left; (focus (intro w hSw; (try dsimp only at hSw); go_simp; (try with_reducible rfl))); (try simp only [Act.put, List.setIfInBounds_toArray, List.set_cons_zero, List.set_cons_succ])
      refine wpAnyH_take (i := 3) (oi := ⟨some 29, _, _, _, _, _⟩) (v := ?_) rfl (by kernel_rfl) (by kernel_rfl) (by kernel_rfl) (fun _ _ _ h => h) (Or.inl ⟨by rfl, ?_⟩) (by assumption) ?_; rotate_left; (focus (intro w hSw; (try dsimp only at hSw); go_simp; (try with_reducible rfl))); (try simp only [Act.put, List.setIfInBounds_toArray, List.set_cons_zero, List.set_cons_succ])
      refine wpAnyH_take (i := 4) (oi := ⟨some 30, _, _, _, _, _⟩) (v := ?_) rfl (by kernel_rfl) (by kernel_rfl) (by kernel_rfl) (fun _ _ _ h => h) (Or.inl ⟨by rfl, ?_⟩) (by assumption) ?_; rotate_left; (focus (intro w hSw; (try dsimp only at hSw); go_simp; (try with_reducible rfl))); (try simp only [Act.put, List.setIfInBounds_toArray, List.set_cons_zero, List.set_cons_succ])
      refine wpAnyH_take (i := 5) (oi := ⟨some 31, _, _, _, _, _⟩) (v := ?_) rfl (by kernel_rfl) (by kernel_rfl) (by kernel_rfl) (fun _ _ _ h => h) (Or.inl ⟨by rfl, ?_⟩) (by assumption) ?_; rotate_left; (focus (intro w hSw; (try dsimp only at hSw); go_simp; (try with_reducible rfl))); (try simp only [Act.put, List.setIfInBounds_toArray, List.set_cons_zero, List.set_cons_succ])
      refine wpAnyH_take (i := 6) (oi := ⟨some 32, _, _, _, _, _⟩) (v := ?_) rfl (by kernel_rfl) (by kernel_rfl) (by kernel_rfl) (fun _ _ _ h => h) (Or.inl ⟨by rfl, ?_⟩) (by assumption) ?_; rotate_left; (focus (intro w hSw; (try dsimp only at hSw); go_simp; (try with_reducible rfl))); (try simp only [Act.put, List.setIfInBounds_toArray, List.set_cons_zero, List.set_cons_succ])
      refine wpAnyH_take (i := 7) (oi := ⟨some 33, _, _, _, _, _⟩) (v := ?_) rfl (by kernel_rfl) (by kernel_rfl) (by kernel_rfl) (fun _ _ _ h => h) (Or.inl ⟨by rfl, ?_⟩) (by assumption) ?_; rotate_left; (focus (intro w hSw; (try dsimp only at hSw); go_simp; (try with_reducible rfl))); (try simp only [Act.put, List.setIfInBounds_toArray, List.set_cons_zero, List.set_cons_succ])
      refine wpAnyH_take (i := 8) (oi := ⟨some 34, _, _, _, _, _⟩) (v := ?_) rfl (by kernel_rfl) (by kernel_rfl) (by kernel_rfl) (fun _ _ _ h => h) (Or.inl ⟨by rfl, ?_⟩) (by assumption) ?_; rotate_left; (focus (intro w hSw; (try dsimp only at hSw); go_simp; (try with_reducible rfl))); (try simp only [Act.put, List.setIfInBounds_toArray, List.set_cons_zero, List.set_cons_succ])
      refine wpAnyH_ready (rs := [9]) (by kernel_rfl) (by simp) ?_; refine AllReadyH.cons (o := ⟨some 35, _, _, _, _, _⟩) rfl (fun K hK => ?_) AllReadyH.nil; go_simp
      refine hK.out _ _ q5 (fun hHeld => ?_); clear hK K; (try simp only [Act.put, List.setIfInBounds_toArray, List.set_cons_zero, List.set_cons_succ])
      refine wpAnyH_ready (rs := [10]) (by kernel_rfl) (by simp) ?_; refine AllReadyH.cons (o := ⟨some 36, _, _, _, _, _⟩) rfl (fun K hK => ?_) AllReadyH.nil; go_simp
      have HR5 := Lib.hid (HR4.out.alloc (.cells #[.int .i64 j, .int .i64 ((k : Int) - 1)] 3))
      have HO5 := Lib.hid (HO4.out.alloc (.cells #[.int .i64 j, .int .i64 ((k : Int) - 1)] 3))
      have HB5 := Lib.hid (HB4.out.alloc (.cells #[.int .i64 j, .int .i64 ((k : Int) - 1)] 3))
      have HG5 := Lib.hid (HG4.out.alloc (.cells #[.int .i64 j, .int .i64 ((k : Int) - 1)] 3))
      have HF5 := Lib.hid (HF4.out.trans (Frd.of_below (w' := w4.alloc (.cells #[.int .i64 j, .int .i64 ((k : Int) - 1)] 3)) ((Below.refl w4.heap.size w4).alloc (Nat.le_refl _) _) (by omega)))
      go_at_call 123
      refine (goodFormula_any g A n c bs (P + 2202) (some ⟨w4.heap.size, 0, none⟩) 2 2 [(j : Int), (k : Int) - 1] _ HR5.out.drew HN.out hby hs (by omega) rfl (by omega) ?_ ?_).mono ?_
      · intro _
        refine ⟨w4.heap.size, 0, rfl, by simp, fun i hi => ?_⟩
        have : i = 0 ∨ i = 1 := by simp at hi; omega
        rcases this with rfl | rfl <;> go_simp
      · intro b' o' e; cases e; omega
      rintro e w5 ⟨Af, nf, cf, ps, rfl, hpl, hnf1, hnf2, hrow5, hr5, ht5'⟩
      have ht5 : Tch g (g + 1) (w4.alloc (.cells #[.int .i64 j, .int .i64 ((k : Int) - 1)] 3)) w5 := ⟨ht5'.os, ht5'.tape, ht5'.output, ht5'.size, ht5'.block⟩
      have hz5 : w4.heap.size + 1 ≤ w5.heap.size := by have := ht5.size; simpa using this
      have hps40 : ps.length ≤ 40 := by omega
      have HO6 := Lib.hid (HO5.out.turn ht5 (.inl (by omega)))
      have HB6 := Lib.hid (HB5.out.turn ht5 (.inl (by omega)))
      have HG6 := Lib.hid (HG5.out.turn ht5 (.inl (by omega)))
      have HOO := Lib.hid (HO6.out.it.setForm hjk hpl ((OwR.start hrow5).mono (by simp; omega) (Nat.le_refl _)) (show bG ≤ w5.heap.size by omega))
      have q6 := HG6.out.it
      obtain ⟨⟨y0, m0⟩, ⟨y1, m1⟩, e0, e1, _, _⟩ := HO6.out.it.node_cells hjk
      have hne : ∀ q : Nat, (⟨gn, q, none⟩ : Addr) ≠ ⟨bG, 0, none⟩ := fun q e => by have := congrArg Addr.block e; simp at this; omega
      have q7 : (w5.setCell ⟨gn, j * 2 + 1, none⟩ (.slice Af nf cf)).cell? ⟨bG, 0, none⟩ = some (.slice (some ⟨gn, 0, none⟩) k cg) := (World.cell?_setCell_other _ _ _ _ (hne _)).trans q6
      clear hrow5 hpl
      refine hK.out _ _ q6 (fun hHeld => ?_); clear hK K; (try simp only [Act.put, List.setIfInBounds_toArray, List.set_cons_zero, List.set_cons_succ])
      refine wpAnyH_take (i := 11) (oi := ⟨some 37, _, _, _, _, _⟩) (v := ?_) rfl (by kernel_rfl) (by kernel_rfl) (by kernel_rfl) (fun _ _ _ h => h) (Or.inl ⟨by rfl, ?_⟩) (by assumption) ?_; rotate_left; (focus (intro w hSw; (try dsimp only at hSw); go_simp; (try with_reducible rfl))); (try simp only [Act.put, List.setIfInBounds_toArray, List.set_cons_zero, List.set_cons_succ])
      refine wpAnyH_take (i := 12) (oi := ⟨some 38, _, _, _, _, _⟩) (v := ?_) rfl (by kernel_rfl) (by kernel_rfl) (by kernel_rfl) (fun _ _ _ h => h) (Or.inl ⟨by rfl, ?_⟩) (by assumption) ?_; rotate_left; (focus (intro w hSw; (try dsimp only at hSw); go_simp; (try with_reducible rfl))); (try simp only [Act.put, List.setIfInBounds_toArray, List.set_cons_zero, List.set_cons_succ])
      refine wpAnyH_ready (rs := [13]) (by kernel_rfl) (by simp) ?_; refine AllReadyH.cons (o := ⟨none, _, _, _, _, _⟩) rfl (fun K hK => ?_) AllReadyH.nil; go_simp
      refine hK.out _ _ q7 (fun hHeld => ?_); clear hK K; (try simp only [Act.put, List.setIfInBounds_toArray, List.set_cons_zero, List.set_cons_succ])
      refine wpAnyH_done (by kernel_rfl) ?_ _
      have HFF := Lib.hid ((HF5.out.trans (Frd.of_tch ht5 (by simp; omega))).trans (Frd.of_below ((Below.refl w.heap.size w5).setCell (p := ⟨gn, j * 2 + 1, none⟩) (by show w.heap.size ≤ gn; omega) (.slice Af nf cf)) (Nat.le_refl _)))
      have HRR := Lib.hid (hr5.set1 (show g < gn by omega) (j * 2 + 1) (.slice Af nf cf))
      have HBB := Lib.hid (HB6.out.keep (w' := w5.setCell ⟨gn, j * 2 + 1, none⟩ (.slice Af nf cf)) (fun k a b => Below.heap_setCell _ _ _ _ (by show k ≠ gn; omega)) (by simp [World.setCell]))
      have hsz5 : (w5.setCell ⟨gn, j * 2 + 1, none⟩ (.slice Af nf cf)).heap.size = w5.heap.size := by simp [World.setCell]
      have hz6 : w.heap.size < (w5.setCell ⟨gn, j * 2 + 1, none⟩ (.slice Af nf cf)).heap.size := by rw [hsz5]; omega
      obtain ⟨r0, r1⟩ := HBB.out.it
      have HSZ5 := Lib.hid hsz5
      clear hr5 ht5 ht5' hsz5
      go_wp2
      refine bodyPost_ret (v := .agg #[.slice (some ⟨gn, 0, none⟩) k cg]) (by simp [results, Tryz.results101, go_sem, r0]) rfl ?_
      generalize hW : w5.setCell ⟨gn, j * 2 + 1, none⟩ (.slice Af nf cf) = W6 at *
      have hsz : (W6.setCell ⟨w.heap.size, 0, none⟩ (.slice (some ⟨gn, 0, none⟩) k cg)).heap.size = W6.heap.size := by simp [World.setCell]
      refine ⟨_, k, gs.set j ⟨(gs.getD j default).k, ps⟩, rfl, hk2, hk10, small_set hsm hps40, ?_, (HRR.out.mono (by omega)).set1 hgw 0 _, (HFF.out.trans (Frd.of_below ((Below.refl w.heap.size _).setCell (p := ⟨w.heap.size, 0, none⟩) (Nat.le_refl _) _) (Nat.le_refl _))).tch⟩
      rw [hsz]
      exact (OwG.loc _ _ _ _ _ _ _ HOO.out fun b x y => Below.heap_setCell _ _ _ _ (by show b ≠ w.heap.size; omega)).mono (by omega) (by have := HSZ5.out; omega)
    · obtain ⟨r0, r1⟩ := HB4.out.it
      go_wp2
      refine bodyPost_ret (v := .agg #[.slice (some ⟨gn, 0, none⟩) k cg]) (by simp [results, Tryz.results101, go_sem, r0]) rfl ?_
      have hsz : (w4.setCell ⟨w.heap.size, 0, none⟩ (.slice (some ⟨gn, 0, none⟩) k cg)).heap.size = w4.heap.size := by simp [World.setCell]
      refine ⟨_, k, gs, rfl, hk2, hk10, hsm, ?_, (HR4.out.mono (by omega)).set1 hgw 0 _, (HF4.out.trans (Frd.of_below ((Below.refl w.heap.size _).setCell (p := ⟨w.heap.size, 0, none⟩) (Nat.le_refl _) _) (Nat.le_refl _))).tch⟩
      rw [hsz]
      exact (OwG.loc _ _ _ _ _ _ _ HO4.out.it fun b x y => Below.heap_setCell _ _ _ _ (by show b ≠ w.heap.size; omega)).mono (by omega) (by omega)
end Go.Proofs.YtgakgmkonmgblaaGreat

namespace Go.Proofs.YtgakgmkonmgblaaGreat
set_option linter.unusedSimpArgs false
set_option linter.unusedVariables false
open Go.RowKit
/-- Returns l numbers in a fresh block; the reader has picked Q times at most. -/
def CsP (g : Nat) (A : Option Addr) (n c : Nat) (bs : List Int) (Q : Nat) (l1 l2 : Nat) (w : World) (e : Ending) (w' : World) : Prop :=
  ∃ (v : Value) (xs : List Int), e = .returned v ∧ l1 ≤ xs.length ∧ xs.length ≤ l2 ∧ OwnI w' w.heap.size v xs ∧ Rdr g A n c bs Q w' ∧ Tch g (g + 1) w w'
set_option maxRecDepth 100000 in
set_option maxHeartbeats 3200000 in
theorem goodCells_any (g : Nat) (A : Option Addr) (n c : Nat) (bs : List Int) (P : Nat) (Ag : Option Addr) (k cg lo hi : Nat) (gs : List Nd) (w : World) (h : Rdr g A n c bs P w) (hn : n = bs.length) (hby : BY bs) (hs : n ≤ 2000) (hP : P ≤ 800000)
    (hg : As lo hi (OwG lo hi (.slice Ag k cg) k gs) w) (hlo : g < lo) (hk1 : 1 ≤ k) (hk : k ≤ 10) :
    Calls Tryz.prog 124 #[.pointer (some ⟨g, 0, none⟩), .agg #[.slice Ag k cg]] w fun e w' => CsP g A n c bs (P + 20) k k w e w' := by
  obtain ⟨i0, hi0, hz0, hz1, hz2⟩ := info_parts info_int
  have hgw := h.lt
  have hhi := hg.le
  have HN := Lib.hid hn
  have HR0 := Lib.hid ((h.alloc (.cells #[.slice Ag k cg] 25)).alloc (.cells #[] 3))
  have HA0 := Lib.hid ((hg.alloc (.cells #[.slice Ag k cg] 25)).alloc (.cells #[] 3))
  have HB0 := Lib.hid ((box_new w (.slice Ag k cg) 25).alloc (.cells #[] 3))
  have hrow0 := World.ownsRow_lit (e := 3) (size := 1) (base := w.heap.size + 1) (w.alloc (.cells #[.slice Ag k cg] 25)) #[] 0 (by simp) (by unfold maxLen; omega) (by simp)
  have HROW := Lib.hid (OwR.start hrow0)
  have hBW : Below w.heap.size w ((w.alloc (.cells #[.slice Ag k cg] 25)).alloc (.cells #[] 3)) := ((Below.refl _ _).alloc (Nat.le_refl _) _).alloc (by simp) _
  have HF0 := Lib.hid (Frd.of_below (g := g) (s := w.heap.size) hBW (Nat.le_refl _))
  clear h hn hg hrow0 hBW
  go_enter Tryz.func124, Tryz.ntmps124
  go_wp2
  go_loopw [5, 6] (fun v u wr => ∃ (i : Nat) (xs : List Int), i ≤ k ∧ u = .int .i64 i ∧ xs.length = i ∧ Hid (OwR (w.heap.size + 1) wr.heap.size 3 1 v i (xs.map (Value.int .i64)) wr) ∧ Hid (As lo hi (OwG lo hi (.slice Ag k cg) k gs) wr) ∧ Hid (As w.heap.size (w.heap.size + 1) (fun w' => w'.cell? ⟨w.heap.size, 0, none⟩ = some (.slice Ag k cg)) wr) ∧ Hid (Rdr g A n c bs (P + 2 * i) wr) ∧ Hid (Frd g w.heap.size w wr)) (fun _ u _ => k - (intOf u).toNat)
  case atStart => exact ⟨0, [], Nat.zero_le _, rfl, rfl, by simpa [Hid] using HROW.out, HA0.out, HB0.out, by simpa [Hid] using HR0.out, HF0.out⟩
  case round =>
    obtain ⟨i, xs, hik, rfl, hxl, HO, HA, HB, HR, HF⟩ := hrel
    obtain ⟨Av, cv, rfl⟩ := row_form' HO.out.1
    have hwr : w.heap.size + 1 ≤ wr.heap.size := HB.out.le
    have qb := HB.out.it
    by_cases hlt : i < k
    · obtain ⟨b, off, rfl, hbB, hcc⟩ := HA.out.it.nodes (by have := HA.out.it.1; omega)
      obtain ⟨c0, _⟩ := hcc i (by have := HA.out.it.1; omega)
      have hbw : b < wr.heap.size := by omega
      clear HROW HA0 HB0 HR0 HF0
      generalize gs.getD i default = d at c0
      cases hd : (d.k == 0)
      · have HOa := Lib.hid HO.out
        have HAa := Lib.hid HA.out
        have HBa := Lib.hid HB.out
        have HRa := Lib.hid HR.out
        have HFa := Lib.hid HF.out
        clear HO HA HB HR HF
        have HAb := Lib.hid (HAa.out.alloc (.cells #[.int .i64 0] 3))
        have HBb := Lib.hid (HBa.out.alloc (.cells #[.int .i64 0] 3))
        have HRb := Lib.hid (HRa.out.alloc (.cells #[.int .i64 0] 3))
        have HFb := Lib.hid (HFa.out.trans (Frd.of_below (w' := wr.alloc (.cells #[.int .i64 0] 3)) ((Below.refl wr.heap.size wr).alloc (Nat.le_refl _) _) (by omega)))
        go_wp2_with (at_builtin; refine wpList_append_own _ rfl _ _ 26 rfl (w.heap.size + 1) 3 i0 (.int .i64 0) 1 8 Tryz.underlying26 hi0 hz0 hz1 hz2 rfl (by decide) _ _ _ rfl (HOa.out.1.alloc _) ⟨_, 0, none⟩ 1 1 [.int .i64 0] rfl rfl (cell_one_new _ _ _) ?c2 ?c3 ?c4 ?c5 ?_)
        case c2 => first | rfl | (intro u hu; simp at hu; subst hu; rfl)
        case c3 => unfold maxLen; omega
        case c4 => omega
        case c5 => first | omega | (simp; omega)
        intro v9 w9 hown9 hgrow9 _
        have hpos := (HOa.out.1.alloc (.cells #[.int .i64 0] 3)).lt
        have hb9 : Below (w.heap.size + 1) (wr.alloc (.cells #[.int .i64 0] 3)) w9 := (Below.refl _ _).grown hgrow9 (by simp; omega) (fun q hq => (hpos q hq).1)
        have ht9 : Tch (w.heap.size + 1) (wr.heap.size + 1) (wr.alloc (.cells #[.int .i64 0] 3)) w9 := Tch.of_grown hgrow9 fun q hq => by have := hpos q hq; simp at this; omega
        have HA9 := Lib.hid (HAb.out.turn ht9 (.inr (by omega)))
        have HB9 := Lib.hid (HBb.out.turn ht9 (.inr (Nat.le_refl _)))
        have HR9 := Lib.hid (HRb.out.turn ht9 (by omega))
        have HF9 := Lib.hid (HFb.out.trans (Frd.of_below hb9 (by omega)))
        have HO9 : Hid (OwR (w.heap.size + 1) w9.heap.size 3 1 v9 (i + 1) ((xs ++ [(0 : Int)]).map (Value.int .i64)) w9) := ⟨by simpa using hown9, fun q hq => (hown9.lt q hq).2⟩
        clear hown9 hgrow9 hpos hb9 ht9
        go_wp2
        go_roundw
        case rel => exact ⟨i + 1, xs ++ [(0 : Int)], by omega, by go_num, by simp [hxl], HO9.out, HA9.out, HB9.out, HR9.out.mono (by omega), HF9.out⟩
        case measure => simp [intOf]; omega
      · go_wp2_with fail
        refine (pick_any g A n c bs (P + 2 * i) 1000 _ HR.out HN.out hby hs (by omega) (by omega)).mono ?_
        rintro e w3 ⟨y, rfl, _, _, hr3, ht3⟩
        have hs3 := ht3.size
        have HR3 := Lib.hid (hr3.alloc (.cells #[.int .i64 0, .int .i64 1, .int .i64 y, .int .i64 2, .int .i64 5] 3))
        have HA3 := Lib.hid ((HA.out.turn ht3 (.inl (by omega))).alloc (.cells #[.int .i64 0, .int .i64 1, .int .i64 y, .int .i64 2, .int .i64 5] 3))
        have HB3 := Lib.hid ((HB.out.turn ht3 (.inl (by omega))).alloc (.cells #[.int .i64 0, .int .i64 1, .int .i64 y, .int .i64 2, .int .i64 5] 3))
        have HF3 := Lib.hid ((HF.out.trans (Frd.of_tch ht3 (by omega))).trans (Frd.of_below (w' := w3.alloc (.cells #[.int .i64 0, .int .i64 1, .int .i64 y, .int .i64 2, .int .i64 5] 3)) ((Below.refl w3.heap.size w3).alloc (Nat.le_refl _) _) (by omega)))
        have HO3 := Lib.hid ((HO.out.keep (w' := w3) fun q hq hq' => ht3.block q hq' (.inr (by omega))).keep (w' := w3.alloc (.cells #[.int .i64 0, .int .i64 1, .int .i64 y, .int .i64 2, .int .i64 5] 3)) fun q hq hq' => Below.heap_alloc _ _ _ (by omega))
        clear hr3 ht3 HO HA HB HR HF
        go_wp2_with fail
        refine (one_any g A n c bs (P + 2 * i + 1) w3.heap.size 0 5 5 [0, 1, y, 2, 5] _ HR3.out HN.out hby hs (by omega) rfl (by omega) (by omega) ?_ (by omega) (by simp)).mono ?_
        · intro j hj
          have : j = 0 ∨ j = 1 ∨ j = 2 ∨ j = 3 ∨ j = 4 := by omega
          rcases this with rfl | rfl | rfl | rfl | rfl <;> go_simp
        rintro e w4 ⟨z, rfl, _, hr4, ht4⟩
        have hs4 : w3.heap.size + 1 ≤ w4.heap.size := by have := ht4.size; simpa using this
        have HRa := Lib.hid hr4
        have HAa := Lib.hid (HA3.out.turn ht4 (.inl (by omega)))
        have HBa := Lib.hid (HB3.out.turn ht4 (.inl (by omega)))
        have HFa := Lib.hid (HF3.out.trans (Frd.of_tch ht4 (by simp; omega)))
        have HOa := Lib.hid ((HO3.out.keep (w' := w4) fun q hq hq' => ht4.block q (by simp; omega) (.inr (by omega))).mono (Nat.le_refl _) (show wr.heap.size ≤ w4.heap.size by omega))
        clear hr4 ht4 HR3 HA3 HB3 HF3 HO3
        have HAb := Lib.hid (HAa.out.alloc (.cells #[.int .i64 z] 3))
        have HBb := Lib.hid (HBa.out.alloc (.cells #[.int .i64 z] 3))
        have HRb := Lib.hid (HRa.out.alloc (.cells #[.int .i64 z] 3))
        have HFb := Lib.hid (HFa.out.trans (Frd.of_below (w' := w4.alloc (.cells #[.int .i64 z] 3)) ((Below.refl w4.heap.size w4).alloc (Nat.le_refl _) _) (by omega)))
        go_wp2_with (at_builtin; refine wpList_append_own _ rfl _ _ 26 rfl (w.heap.size + 1) 3 i0 (.int .i64 0) 1 8 Tryz.underlying26 hi0 hz0 hz1 hz2 rfl (by decide) _ _ _ rfl (HOa.out.1.alloc _) ⟨_, 0, none⟩ 1 1 [.int .i64 z] rfl rfl (cell_one_new _ _ _) ?c2 ?c3 ?c4 ?c5 ?_)
        case c2 => first | rfl | (intro u hu; simp at hu; subst hu; rfl)
        case c3 => unfold maxLen; omega
        case c4 => omega
        case c5 => first | omega | (simp; omega)
        intro v9 w9 hown9 hgrow9 _
        have hpos := (HOa.out.1.alloc (.cells #[.int .i64 z] 3)).lt
        have hb9 : Below (w.heap.size + 1) (w4.alloc (.cells #[.int .i64 z] 3)) w9 := (Below.refl _ _).grown hgrow9 (by simp; omega) (fun q hq => (hpos q hq).1)
        have ht9 : Tch (w.heap.size + 1) (w4.heap.size + 1) (w4.alloc (.cells #[.int .i64 z] 3)) w9 := Tch.of_grown hgrow9 fun q hq => by have := hpos q hq; simp at this; omega
        have HA9 := Lib.hid (HAb.out.turn ht9 (.inr (by omega)))
        have HB9 := Lib.hid (HBb.out.turn ht9 (.inr (Nat.le_refl _)))
        have HR9 := Lib.hid (HRb.out.turn ht9 (by omega))
        have HF9 := Lib.hid (HFb.out.trans (Frd.of_below hb9 (by omega)))
        have HO9 : Hid (OwR (w.heap.size + 1) w9.heap.size 3 1 v9 (i + 1) ((xs ++ [(z : Int)]).map (Value.int .i64)) w9) := ⟨by simpa using hown9, fun q hq => (hown9.lt q hq).2⟩
        clear hown9 hgrow9 hpos hb9 ht9
        go_wp2
        go_roundw
        case rel => exact ⟨i + 1, xs ++ [(z : Int)], by omega, by go_num, by simp [hxl], HO9.out, HA9.out, HB9.out, HR9.out.mono (by omega), HF9.out⟩
        case measure => simp [intOf]; omega
    · obtain rfl : i = k := by omega
      go_wp2
      go_ret
      exact ⟨_, xs, rfl, by omega, by omega, by unfold OwnI; rw [hxl]; exact own_mono HO.out.1 (by omega), HR.out.mono (by omega), HF.out.tch⟩
end Go.Proofs.YtgakgmkonmgblaaGreat

namespace Go.Proofs.YtgakgmkonmgblaaGreat
set_option linter.unusedSimpArgs false
set_option linter.unusedVariables false
open Go.RowKit
set_option maxRecDepth 100000 in
set_option maxHeartbeats 3200000 in
theorem someCells_any (g : Nat) (A : Option Addr) (n c : Nat) (bs : List Int) (P : Nat) (Ag : Option Addr) (k cg lo hi : Nat) (gs : List Nd) (w : World) (h : Rdr g A n c bs P w) (hn : n = bs.length) (hby : BY bs) (hs : n ≤ 2000) (hP : P ≤ 800000)
    (hg : As lo hi (OwG lo hi (.slice Ag k cg) k gs) w) (hlo : g < lo) (hk1 : 1 ≤ k) (hk : k ≤ 10) :
    Calls Tryz.prog 102 #[.pointer (some ⟨g, 0, none⟩), .agg #[.slice Ag k cg]] w fun e w' => CsP g A n c bs (P + 30) k (k + 1) w e w' := by
  obtain ⟨i0, hi0, hz0, hz1, hz2⟩ := info_parts info_int
  have hgw := h.lt
  have hhi := hg.le
  have HN := Lib.hid hn
  have HR0 := Lib.hid (h.alloc (.cells #[.slice Ag k cg] 25))
  have HA0 := Lib.hid (hg.alloc (.cells #[.slice Ag k cg] 25))
  have HF0 := Lib.hid (Frd.of_below (g := g) (s := w.heap.size) ((Below.refl w.heap.size w).alloc (Nat.le_refl _) (.cells #[.slice Ag k cg] 25)) (Nat.le_refl _))
  clear h hn hg
  go_enter Tryz.func102, Tryz.ntmps102
  go_wp2_with fail
  refine (goodCells_any g A n c bs P Ag k cg lo hi gs _ HR0.out HN.out hby hs (by omega) HA0.out hlo hk1 hk).mono ?_
  rintro e w1 ⟨v1, xs, rfl, hx1, hx2, hown, hr1, ht1⟩
  have hs1 : w.heap.size + 1 ≤ w1.heap.size := by have := ht1.size; simpa using this
  obtain ⟨l, hl⟩ : ∃ l, l = xs.length := ⟨_, rfl⟩
  unfold OwnI at hown
  rw [← hl] at hown hx1 hx2
  have HL := Lib.hid hl
  obtain ⟨go, co, rfl⟩ := row_pos hown (by omega)
  simp only [World.size_alloc] at hown
  have HO1 := Lib.hid (OwR.start hown)
  have HR1 := Lib.hid hr1
  have HF1 := Lib.hid (HF0.out.trans (Frd.of_tch ht1 (by simp)))
  clear hown hr1 ht1 HR0 HA0 HF0 hl
  go_wp2_with fail
  refine (pick_any g A n c bs (P + 20) 24 w1 HR1.out HN.out hby hs (by omega) (by omega)).mono ?_
  rintro e w2 ⟨x, rfl, _, _, hr2, ht2⟩
  have hs2 := ht2.size
  have HR2 := Lib.hid hr2
  have HF2 := Lib.hid (HF1.out.trans (Frd.of_tch ht2 (by omega)))
  have HO2 := Lib.hid (HO1.out.keep (w' := w2) fun q hq hq' => ht2.block q hq' (.inr (by omega)))
  clear hr2 ht2 HR1 HF1 HO1
  by_cases hx0 : x = 0
  · subst hx0
    have HRb := Lib.hid (HR2.out.alloc (.cells #[.int .i64 0] 3))
    have HFb := Lib.hid (HF2.out.trans (Frd.of_below (w' := w2.alloc (.cells #[.int .i64 0] 3)) ((Below.refl w2.heap.size w2).alloc (Nat.le_refl _) _) (by omega)))
    go_wp2_with (at_builtin; refine wpList_append_own _ rfl _ _ 26 rfl (w.heap.size + 1) 3 i0 (.int .i64 0) 1 8 Tryz.underlying26 hi0 hz0 hz1 hz2 rfl (by decide) _ _ _ rfl (HO2.out.1.alloc _) ⟨_, 0, none⟩ 1 1 [.int .i64 0] rfl rfl (cell_one_new _ _ _) ?c2 ?c3 ?c4 ?c5 ?_)
    case c2 => first | rfl | (intro u hu; simp at hu; subst hu; rfl)
    case c3 => unfold maxLen; omega
    case c4 => omega
    case c5 => first | omega | (simp; omega)
    intro v9 w9 hown9 hgrow9 _
    have hpos := (HO2.out.1.alloc (.cells #[.int .i64 0] 3)).lt
    have hb9 : Below (w.heap.size + 1) (w2.alloc (.cells #[.int .i64 0] 3)) w9 := (Below.refl _ _).grown hgrow9 (by simp; omega) (fun q hq => (hpos q hq).1)
    have ht9 : Tch (w.heap.size + 1) (w2.heap.size + 1) (w2.alloc (.cells #[.int .i64 0] 3)) w9 := Tch.of_grown hgrow9 fun q hq => by have := hpos q hq; simp at this; omega
    have HR9 := Lib.hid (HRb.out.turn ht9 (by omega))
    have HF9 := Lib.hid (HFb.out.trans (Frd.of_below hb9 (by omega)))
    have HO9 := Lib.hid hown9
    clear hown9 hgrow9 hpos hb9 ht9
    go_wp2
    go_ret
    refine ⟨_, xs ++ [0], rfl, by rw [List.length_append, ← HL.out]; simp; omega, by rw [List.length_append, ← HL.out]; simp; omega, ?_, HR9.out.mono (by omega), HF9.out.tch⟩
    unfold OwnI
    rw [List.length_append, ← HL.out]
    exact own_mono (by simpa using HO9.out) (by omega)
  · by_cases hx1 : x = 1
    · subst hx1
      have hlp : ((l : Nat) : Int) ≤ 1000000 := by omega
      go_wp2_with fail
      refine (pick_any g A n c bs (P + 21) l w2 HR2.out HN.out hby hs (by omega) (by omega)).mono ?_
      rintro e w3 ⟨j, rfl, hj, _, hr3, ht3⟩
      have hjl : j < l := by have := hj (by omega); omega
      have hs3 := ht3.size
      have HR3 := Lib.hid (hr3.alloc (.cells #[.int .i64 (-1), .int .i64 1000, .int .i64 7] 3))
      have HF3 := Lib.hid ((HF2.out.trans (Frd.of_tch ht3 (by omega))).trans (Frd.of_below (w' := w3.alloc (.cells #[.int .i64 (-1), .int .i64 1000, .int .i64 7] 3)) ((Below.refl w3.heap.size w3).alloc (Nat.le_refl _) _) (by omega)))
      have HO3 := Lib.hid ((HO2.out.keep (w' := w3) fun q hq hq' => ht3.block q (by omega) (.inr (by omega))).keep (w' := w3.alloc (.cells #[.int .i64 (-1), .int .i64 1000, .int .i64 7] 3)) fun q hq hq' => Below.heap_alloc _ _ _ (by omega))
      clear hj hr3 ht3 HR2 HF2 HO2
      go_wp2_with fail
      refine (one_any g A n c bs (P + 22) w3.heap.size 0 3 3 [-1, 1000, 7] _ HR3.out HN.out hby hs (by omega) rfl (by omega) (by omega) ?_ (by omega) (by simp)).mono ?_
      · intro j hj
        have : j = 0 ∨ j = 1 ∨ j = 2 := by omega
        rcases this with rfl | rfl | rfl <;> go_simp
      rintro e w4 ⟨z, rfl, _, hr4, ht4⟩
      have hs4 : w3.heap.size + 1 ≤ w4.heap.size := by have := ht4.size; simpa using this
      have HR5 := Lib.hid (hr4.turn (w' := w4.setCell ⟨go, j, none⟩ (.int .i64 z)) (Tch.of_grown (grown_setCell0 w4 go j (.int .i64 z)) fun k hk => by cases hk; exact ⟨Nat.le_refl _, Nat.lt_succ_self _⟩) (by have := (HO3.out.1.lt go rfl).1; omega))
      have hol : w.heap.size + 1 ≤ go := (HO3.out.1.lt go rfl).1
      have HF5 := Lib.hid ((HF3.out.trans (Frd.of_tch ht4 (by simp; omega))).trans (Frd.of_below (w' := w4.setCell ⟨go, j, none⟩ (.int .i64 z)) ((Below.refl w.heap.size w4).setCell (by show w.heap.size ≤ go; omega) _) (Nat.le_refl _)))
      have HO5 := Lib.hid (HO3.out.keep (w' := w4) fun q hq hq' => ht4.block q (by simp; omega) (.inr (by omega)))
      have u0 := HO5.out.1.cellAt j (by omega)
      have hxl : xs.length = l := HL.out.symm
      rw [List.getElem?_eq_getElem (by rw [List.length_map]; omega)] at u0
      have f0 := HO5.out.1.frozenAt j
      have hst := (HO5.out.1.stored j (.int .i64 z)).1
      rw [← List.map_set] at hst
      have HST := Lib.hid hst
      generalize (xs.map (Value.int .i64))[j]'_ = vv at u0
      have HXL := Lib.hid hxl
      clear hr4 ht4 hst hxl
      go_wp2
      go_ret
      exact ⟨_, xs.set j z, rfl, by rw [List.length_set, HXL.out]; omega, by rw [List.length_set, HXL.out]; omega, by unfold OwnI; rw [List.length_set, HXL.out]; exact own_mono HST.out (by omega), HR5.out.mono (by omega), HF5.out.tch⟩
    · go_wp2
      go_ret
      exact ⟨_, xs, rfl, by rw [← HL.out]; omega, by rw [← HL.out]; omega, by unfold OwnI; rw [← HL.out]; exact own_mono HO2.out.1 (by omega), HR2.out.mono (by omega), HF2.out.tch⟩
/-- Returns a graph and cells in fresh blocks. -/
def GcP (g : Nat) (A : Option Addr) (n c : Nat) (bs : List Int) (Q : Nat) (w : World) (e : Ending) (w' : World) : Prop :=
  ∃ (V : Value) (k : Nat) (gs : List Nd) (v : Value) (xs : List Int), e = .returned (.tuple #[.agg #[V], v]) ∧ 2 ≤ k ∧ k ≤ 10 ∧ (∀ j, (gs.getD j default).ps.length ≤ 40) ∧ k ≤ xs.length ∧ xs.length ≤ k + 1 ∧ OwG w.heap.size w'.heap.size V k gs w' ∧ OwnI w' w.heap.size v xs ∧ Rdr g A n c bs Q w' ∧ Tch g (g + 1) w w'
set_option maxRecDepth 100000 in
set_option maxHeartbeats 3200000 in
theorem graphOf_any (g : Nat) (A : Option Addr) (n c : Nat) (bs : List Int) (P : Nat) (w : World) (h : Rdr g A n c bs P w) (hn : n = bs.length) (hby : BY bs) (hs : n ≤ 2000) (hP : P ≤ 700000) :
    Calls Tryz.prog 72 #[.pointer (some ⟨g, 0, none⟩)] w fun e w' => GcP g A n c bs (P + 2600) w e w' := by
  have hgw := h.lt
  have HN := Lib.hid hn
  have HR0 := Lib.hid (h.alloc (.cells #[.slice none 0 0] 25))
  clear h hn
  go_enter Tryz.func72, Tryz.ntmps72
  go_wp2_with fail
  refine (someGraph_any g A n c bs P _ HR0.out HN.out hby hs (by omega)).mono ?_
  rintro e w1 ⟨V, k, gs, rfl, hk2, hk10, hsm, hown, hr1, ht1⟩
  have hs1 : w.heap.size + 1 ≤ w1.heap.size := by have := ht1.size; simpa using this
  obtain ⟨gn, cg, rfl⟩ := hown.pos (by omega)
  simp only [World.size_alloc] at hown
  obtain ⟨bG, hbG⟩ : ∃ bG, bG = w1.heap.size := ⟨_, rfl⟩
  have HBG := Lib.hid hbG
  have k0 : w1.cell? ⟨w.heap.size, 0, none⟩ = some (.slice none 0 0) := (World.cell?_of_block (a := ⟨w.heap.size, 0, none⟩) (ht1.block w.heap.size (by simp) (.inr (by omega)))).trans (by go_simp)
  have k1 : w1.frozen? ⟨w.heap.size, 0, none⟩ = false := (World.frozen?_of_block (a := ⟨w.heap.size, 0, none⟩) (ht1.block w.heap.size (by simp) (.inr (by omega)))).trans (by go_simp)
  have HB1 : Hid (As w.heap.size (w.heap.size + 1) (fun w' => w'.cell? ⟨w.heap.size, 0, none⟩ = some (.slice none 0 0) ∧ w'.frozen? ⟨w.heap.size, 0, none⟩ = false) w1) :=
    ⟨⟨k0, k1⟩, hs1, fun w w' h hk => ⟨(World.cell?_of_block (a := ⟨_, 0, none⟩) (hk _ (Nat.le_refl _) (Nat.lt_succ_self _))).trans h.1, (World.frozen?_of_block (a := ⟨_, 0, none⟩) (hk _ (Nat.le_refl _) (Nat.lt_succ_self _))).trans h.2⟩⟩
  have HO1 : Hid (As (w.heap.size + 1) bG (OwG (w.heap.size + 1) bG (.slice (some ⟨gn, 0, none⟩) k cg) k gs) w1) := by rw [hbG]; exact graph_start hown
  have HF1 := Lib.hid ((Frd.of_below (g := g) (s := w.heap.size) ((Below.refl w.heap.size w).alloc (Nat.le_refl _) (.cells #[.slice none 0 0] 25)) (Nat.le_refl _)).trans (Frd.of_tch ht1 (by simp)))
  have HR2 := Lib.hid (hr1.alloc (.cells #[.slice (some ⟨gn, 0, none⟩) k cg] 25))
  have HO2 := Lib.hid (HO1.out.alloc (.cells #[.slice (some ⟨gn, 0, none⟩) k cg] 25))
  have HB2 := Lib.hid (HB1.out.alloc (.cells #[.slice (some ⟨gn, 0, none⟩) k cg] 25))
  have HG2 := box_new w1 (.slice (some ⟨gn, 0, none⟩) k cg) 25
  rw [← hbG] at HG2
  have HG2 := Lib.hid HG2
  have HF2 := Lib.hid (HF1.out.trans (Frd.of_below (w' := w1.alloc (.cells #[.slice (some ⟨gn, 0, none⟩) k cg] 25)) ((Below.refl w1.heap.size w1).alloc (Nat.le_refl _) _) (by omega)))
  have hz2 : bG < (w1.alloc (.cells #[.slice (some ⟨gn, 0, none⟩) k cg] 25)).heap.size := by rw [hbG]; simp
  have hsG : w.heap.size + 1 ≤ bG := by omega
  have hgG : g < bG := by omega
  clear k0 k1 HB1 HO1 HF1 HR0 hown hr1 ht1 hbG
  have q2 := HG2.out.it
  obtain ⟨p0, p1⟩ := HB2.out.it
  have hwz : w.heap.size < (w1.alloc (.cells #[.slice (some ⟨gn, 0, none⟩) k cg] 25)).heap.size := by omega
  go_wp2
  rw [← HBG.out]
  generalize w1.alloc (.cells #[.slice (some ⟨gn, 0, none⟩) k cg] 25) = W2 at *
  refine wp_region_held_drew (S := fun w' => w'.cell? ⟨bG, 0, none⟩ = some (.slice (some ⟨gn, 0, none⟩) k cg)) (by kernel_rfl) q2 (fun hHeld => ?_)
  refine wpAnyH_take (i := 0) (oi := ⟨some 7, _, _, _, _, _⟩) (v := ?_) rfl (by kernel_rfl) (by kernel_rfl) (by kernel_rfl) (fun _ _ _ h => h) (Or.inl ⟨by rfl, ?_⟩) (by assumption) ?_; rotate_left; (focus (intro w hSw; (try dsimp only at hSw); go_simp; (try with_reducible rfl))); (try simp only [Act.put, List.setIfInBounds_toArray, List.set_cons_zero, List.set_cons_succ])
  refine wpAnyH_take (i := 1) (oi := ⟨some 8, _, _, _, _, _⟩) (v := ?_) rfl (by kernel_rfl) (by kernel_rfl) (by kernel_rfl) (fun _ _ _ h => h) (Or.inl ⟨by rfl, ?_⟩) (by assumption) ?_; rotate_left; (focus (intro w hSw; (try dsimp only at hSw); go_simp; (try with_reducible rfl))); (try simp only [Act.put, List.setIfInBounds_toArray, List.set_cons_zero, List.set_cons_succ])
  refine wpAnyH_take (i := 2) (oi := ⟨some 9, _, _, _, _, _⟩) (v := ?_) rfl (by kernel_rfl) (by kernel_rfl) (by kernel_rfl) (fun _ _ _ h => h) (Or.inl ⟨by rfl, ?_⟩) (by assumption) ?_; rotate_left; (focus (intro w hSw; (try dsimp only at hSw); go_simp; (try with_reducible rfl))); (try simp only [Act.put, List.setIfInBounds_toArray, List.set_cons_zero, List.set_cons_succ])
  refine wpAnyH_ready (rs := [3]) (by kernel_rfl) (by simp) ?_; refine AllReadyH.cons (o := ⟨some 10, _, _, _, _, _⟩) rfl (fun K hK => ?_) AllReadyH.nil; go_simp
  go_at_call 102
  refine (someCells_any g A n c bs (P + 2500) (some ⟨gn, 0, none⟩) k cg (w.heap.size + 1) bG gs _ HR2.out.drew HN.out hby hs (by omega) ⟨OwG.loc _ _ _ _ _ _ _ HO2.out.it fun _ _ _ => rfl, HO2.out.le, HO2.out.loc⟩ (by omega) (by omega) hk10).mono ?_
  rintro e w5 ⟨v5, xs, rfl, hx1, hx2, hown5, hr5, ht5'⟩
  have ht5 : Tch g (g + 1) W2 w5 := ⟨ht5'.os, ht5'.tape, ht5'.output, ht5'.size, ht5'.block⟩
  have hz5 := ht5.size
  obtain ⟨A5, c5, rfl, _⟩ := OwnI.form hown5
  unfold OwnI at hown5
  have HO6 := Lib.hid (HO2.out.turn ht5 (.inl (by omega)))
  have HB6 := Lib.hid (HB2.out.turn ht5 (.inl (by omega)))
  have HG6 := Lib.hid (HG2.out.turn ht5 (.inl (by omega)))
  have HF6 := Lib.hid (HF2.out.trans (Frd.of_tch ht5 (by omega)))
  have HR6 := Lib.hid hr5
  have HC6 := Lib.hid (show w5.ownsRow W2.heap.size 3 1 (.slice A5 xs.length c5) xs.length (xs.map (Value.int .i64)) from hown5)
  have q6 := HG6.out.it
  obtain ⟨r0, r1⟩ := HB6.out.it
  have q7 : (w5.setCell ⟨w.heap.size, 0, none⟩ (.slice (some ⟨gn, 0, none⟩) k cg)).cell? ⟨bG, 0, none⟩ = some (.slice (some ⟨gn, 0, none⟩) k cg) := (World.cell?_setCell_other _ _ _ _ (by intro e; have := congrArg Addr.block e; simp at this; omega)).trans q6
  clear hown5 hr5 ht5 ht5' HO2 HB2 HG2 HF2 HR2
  refine hK.out _ _ q6 (fun hHeld => ?_); clear hK K; (try simp only [Act.put, List.setIfInBounds_toArray, List.set_cons_zero, List.set_cons_succ])
  refine wpAnyH_ready (rs := [4]) (by kernel_rfl) (by simp) ?_; refine AllReadyH.cons (o := ⟨none, _, _, _, _, _⟩) rfl (fun K hK => ?_) AllReadyH.nil; go_simp
  refine hK.out _ _ q7 (fun hHeld => ?_); clear hK K; (try simp only [Act.put, List.setIfInBounds_toArray, List.set_cons_zero, List.set_cons_succ])
  refine wpAnyH_take (i := 5) (oi := ⟨some 3, _, _, _, _, _⟩) (v := ?_) rfl (by kernel_rfl) (by kernel_rfl) (by kernel_rfl) (fun _ _ _ h => h) (Or.inl ⟨by rfl, ?_⟩) (by assumption) ?_; rotate_left; (focus (intro w hSw; (try dsimp only at hSw); go_simp; (try with_reducible rfl))); (try simp only [Act.put, List.setIfInBounds_toArray, List.set_cons_zero, List.set_cons_succ])
  refine wpAnyH_done (by kernel_rfl) ?_ _
  have r2 : (w5.setCell ⟨w.heap.size, 0, none⟩ (.slice (some ⟨gn, 0, none⟩) k cg)).cell? ⟨w.heap.size, 0, none⟩ = some (.slice (some ⟨gn, 0, none⟩) k cg) := World.cell?_setCell_same _ _ _ r0
  go_wp2
  refine bodyPost_ret (v := .tuple #[.agg #[.slice (some ⟨gn, 0, none⟩) k cg], .slice A5 xs.length c5]) (by simp [results, Tryz.results72, go_sem, r2]) rfl ?_
  have hsz : (w5.setCell ⟨w.heap.size, 0, none⟩ (.slice (some ⟨gn, 0, none⟩) k cg)).heap.size = w5.heap.size := by simp [World.setCell]
  refine ⟨_, k, gs, _, xs, rfl, hk2, hk10, hsm, by omega, by omega, ?_, ?_, (HR6.out.mono (by omega)).set1 hgw 0 _, (HF6.out.trans (Frd.of_below ((Below.refl w.heap.size _).setCell (p := ⟨w.heap.size, 0, none⟩) (Nat.le_refl _) _) (Nat.le_refl _))).tch⟩
  · rw [hsz]
    exact (OwG.loc _ _ _ _ _ _ _ HO6.out.it fun b x y => Below.heap_setCell _ _ _ _ (by show b ≠ w.heap.size; omega)).mono (by omega) (by omega)
  · unfold OwnI
    exact own_mono (own_keep HC6.out fun b x y => Below.heap_setCell _ _ _ _ (by show b ≠ w.heap.size; omega)) (by omega)
end Go.Proofs.YtgakgmkonmgblaaGreat

namespace Go.Proofs.YtgakgmkonmgblaaGreat
set_option linter.unusedSimpArgs false
set_option linter.unusedVariables false
open Go.RowKit
/-- Returns a fresh reader that has not picked yet. -/
def RdP (w : World) (e : Ending) (w' : World) : Prop :=
  ∃ (g : Nat) (A : Option Addr) (n c : Nat) (bs : List Int), e = .returned (.pointer (some ⟨g, 0, none⟩)) ∧ n = bs.length ∧ n ≤ 2000 ∧ BY bs ∧ Rdr g A n c bs 0 w' ∧ w.heap.size ≤ g ∧ Below w.heap.size w w'
theorem row_form {w : World} {base n size : Nat} {e : TypeId} {v : Value} {xs : List Value} (h : w.ownsRow base e size v n xs) : ∃ A c, v = .slice A n c := by
  rcases h.2 with ⟨rfl, rfl⟩ | ⟨g, cap, cur, rfl, _⟩
  · exact ⟨none, 0, rfl⟩
  · exact ⟨some ⟨g, 0, none⟩, cap, rfl⟩
theorem BY.take {bs : List Int} (h : BY bs) (k : Nat) : BY (bs.take k) := by
  intro j
  by_cases hj : j < k
  · have : (bs.take k).getD j 0 = bs.getD j 0 := by simp only [List.getD, List.getElem?_take, if_pos hj]
    rw [this]; exact h j
  · have : (bs.take k).getD j 0 = 0 := by simp only [List.getD, List.getElem?_take, if_neg hj]; rfl
    rw [this]; omega
theorem BS.take {w : World} {B : Nat} {A : Option Addr} {bs : List Int} (h : BS w B A bs) (k : Nat) : BS w B A (bs.take k) := by
  intro hn
  rw [List.length_take] at hn
  obtain ⟨b, off, e, hb, hc⟩ := h (by omega)
  refine ⟨b, off, e, hb, fun j hj => ?_⟩
  rw [List.length_take] at hj
  have : (bs.take k).getD j 0 = bs.getD j 0 := by simp only [List.getD, List.getElem?_take, if_pos (show j < k by omega)]
  rw [this]
  exact hc j (by omega)
set_option maxHeartbeats 800000 in
theorem spec_newReader (A : Option Addr) (n c : Nat) (bs : List Int) (w : World) (B : Nat) (hB : B ≤ w.heap.size) (hn : n = bs.length) (hnc : n ≤ c) (h : BS w B A bs) (hy : BY bs) (hs : n ≤ 1048576) :
    Calls Tryz.prog 30 #[.slice A n c] w fun e w' => RdP w e w' := by
  by_cases h2 : 2000 < n
  · have h3 : 2000 ≤ c := by omega
    obtain ⟨b, off, rfl, hb, hc⟩ := h (by omega)
    have H := Lib.hid (BS.take (w := w) (B := B) (A := some ⟨b, off, none⟩) (bs := bs) (fun _ => ⟨b, off, rfl, hb, hc⟩) 2000)
    have HY := Lib.hid (hy.take 2000)
    have HL : Hid ((bs.take 2000).length = 2000) := by show _ = _; rw [List.length_take]; omega
    generalize bs.take 2000 = ds at *
    clear h hy hn hc
    go_enter Tryz.func30, Tryz.ntmps30
    go_wp2
    go_ret
    refine ⟨w.heap.size, some ⟨b, off, none⟩, 2000, c, ds, rfl, HL.out.symm, by omega, HY.out, ⟨by simp, by go_simp, ⟨0, Nat.le_refl _, by go_simp⟩, by go_simp, ?_⟩, ?_, ?_⟩
    · exact (H.out.keep fun p hp => World.cell?_alloc_lt w _ p (by omega)).more hB
    · exact Nat.le_refl _
    · exact (Below.refl _ _).alloc (Nat.le_refl _) _
  · have H := Lib.hid h
    have HN := Lib.hid hn
    clear h hn
    go_enter Tryz.func30, Tryz.ntmps30
    go_wp2
    go_ret
    refine ⟨w.heap.size, A, n, c, bs, rfl, HN.out, by omega, hy, ⟨by simp, by go_simp, ⟨0, Nat.le_refl _, by go_simp⟩, by go_simp, ?_⟩, ?_, ?_⟩
    · exact (H.out.keep fun p hp => World.cell?_alloc_lt w _ p (by omega)).more hB
    · exact Nat.le_refl _
    · exact (Below.refl _ _).alloc (Nat.le_refl _) _
end Go.Proofs.YtgakgmkonmgblaaGreat

namespace Go.Proofs.YtgakgmkonmgblaaGreat
set_option linter.unusedSimpArgs false
set_option linter.unusedVariables false
open Go.RowKit
theorem GB.of_drawn {gs : List Nd} (h : gs.length ≤ 10) (h' : ∀ j, (gs.getD j default).ps.length ≤ 40) : GB gs := ⟨by omega, fun j => by have := h' j; omega⟩
theorem own_ncap {w : World} {lo e size n c : Nat} {A : Option Addr} {xs : List Value} (h : w.ownsRow lo e size (.slice A n c) n xs) : n ≤ c := by
  rcases h.2 with ⟨hv, hz⟩ | ⟨g, cap, cur, hv, _, _, h2, _⟩
  · omega
  · simp only [Value.slice.injEq] at hv
    omega
theorem below_set0 {w w' : World} (h : Below w.heap.size w w') (v : Value) : Below w.heap.size w (w'.setCell ⟨w.heap.size, 0, none⟩ v) := h.setCell (Nat.le_refl _) _
end Go.Proofs.YtgakgmkonmgblaaGreat

namespace Go.Proofs.YtgakgmkonmgblaaGreat
set_option linter.unusedSimpArgs false
set_option linter.unusedVariables false
open Go.RowKit
theorem validC_len (gs : List Nd) (cs : List Int) (h : cs.length ≠ gs.length) : validC gs cs = false := by
  unfold validC; rw [decide_eq_false h]; rfl
theorem validC_bad (gs : List Nd) (cs : List Int) (k : Nat) (h : k < gs.length) (hc : cellOK gs cs k = false) : validC gs cs = false := by
  unfold validC
  rw [decide_eq_false (p := ∀ i, i < gs.length → cellOK gs cs i = true) (by intro H; rw [H k h] at hc; cases hc), Bool.and_false]
theorem meanTo_VOK (gs : List Nd) (cs : List Int) (h : okC gs cs = true) (i : Nat) (hi : i ≤ gs.length) : VOK (meanTo gs cs i) := by
  unfold okC at h
  simp only [Bool.and_eq_true] at h
  obtain ⟨hg, hc⟩ := h
  induction i with
  | zero => intro j hj; simp [meanTo] at hj
  | succ i ih =>
    have ih := ih (by omega)
    have hl := meanTo_len gs cs i
    intro j hj
    rw [meanTo_len] at hj
    rcases Nat.lt_or_ge j i with h1 | h1
    · have := ih j (by omega)
      simpa [meanTo, List.getD, List.getElem?_append, hl, h1] using this
    · obtain rfl : j = i := by omega
      have e : (meanTo gs cs (j + 1)).getD j 0 = (if (gs.getD j default).k == 0 then cs.getD j 0 else (whole (gs.getD j default).ps).ev (meanTo gs cs j)) := by
        simp [meanTo, List.getD, List.getElem?_append, hl]
      rw [e]
      cases hk : ((gs.getD j default).k == 0)
      · simp only [Bool.false_eq_true, if_false]
        refine Tm.ev_bd _ ih _ ?_
        rw [hl]
        exact whole_ok _ _ (nodeOK_formula gs j ((validG_parts gs hg).2 j (by omega)) hk).1 (each_ahead gs j j hg (by omega) hk (Nat.le_refl _))
      · simp only [if_true]
        exact cellOK_bd gs cs j ((validC_parts gs cs hc).2 j (by omega))
theorem canEv_of (ps : List Pt) (vs : List Int) (hv : validF ps = true) (hl : vs.length ≤ 10) (hr : VOK vs) (he : eachOK ps vs.length = true) : canEv ps vs = true := by
  unfold canEv
  rw [hv, he, decide_eq_true hl]
  simp only [Bool.true_and, Bool.and_true]
  refine allR_true _ _ _ fun k hk => ?_
  have := hr k hk
  unfold rng
  simpa using this
/-- The formula of a node can be evaluated with the values of the nodes ahead. -/
theorem mean_canEv (gs : List Nd) (cs : List Int) (h : okC gs cs = true) (i : Nat) (hi : i < gs.length) (hk : ((gs.getD i default).k == 0) = false) : canEv (gs.getD i default).ps (meanTo gs cs i) = true := by
  have hv := meanTo_VOK gs cs h i (by omega)
  unfold okC at h
  simp only [Bool.and_eq_true] at h
  obtain ⟨hg, hc⟩ := h
  have hl := meanTo_len gs cs i
  have h10 := (validG_parts gs hg).1
  refine canEv_of _ _ (nodeOK_formula gs i ((validG_parts gs hg).2 i hi) hk).1 (by omega) hv ?_
  rw [hl]
  exact each_ahead gs i i hg hi hk (Nat.le_refl _)
end Go.Proofs.YtgakgmkonmgblaaGreat

namespace Go.Proofs.YtgakgmkonmgblaaGreat
set_option linter.unusedSimpArgs false
set_option linter.unusedVariables false
open Go.RowKit
set_option maxRecDepth 100000 in
set_option maxHeartbeats 1600000 in
theorem spec_validCells (A A' : Option Addr) (n c m c' : Nat) (gs : List Nd) (xs : List Int) (w : World) (B : Nat) (hB : B ≤ w.heap.size) (hn : n = gs.length) (hm : m = xs.length) (h : GS w B A gs) (h' : IS w B A' xs) (hs : n ≤ 2000000) (hs' : m ≤ 2000000) :
    Calls Tryz.prog 74 #[.agg #[.slice A n c], .slice A' m c'] w fun e w' => e = .returned (.bool (validC gs xs)) ∧ Below w.heap.size w w' := by
  by_cases hl : m = n
  · have hne : ((m : Int) != (n : Int)) = false := by simp [hl]
    have HE := Lib.hid hl
    have H := Lib.hid h
    have HI := Lib.hid h'
    have HN := Lib.hid hn
    have HM := Lib.hid hm
    clear h h' hn hm hl
    go_enter Tryz.func74, Tryz.ntmps74
    go_wp2
    go_loopw [5] (fun u wr => ∃ k : Nat, k ≤ m ∧ u = .int .i64 k ∧ Hid (∀ j, j < k → cellOK gs xs j = true) ∧ wr = w.alloc (.cells #[.slice A n c] 25)) (fun u _ => m - (intOf u).toNat)
    case atStart => exact ⟨0, by omega, rfl, by intro j hj; omega, rfl⟩
    case round =>
      obtain ⟨k, hk, rfl, HK, rfl⟩ := hrel
      by_cases hlt : k < m
      · have hkn : k < n := by have := HE.out; omega
        obtain ⟨b, off, rfl, hbB, c0, _⟩ := H.out.at_ k (by have := HN.out; omega)
        obtain ⟨b', off', rfl, hb', hc⟩ := HI.out (by have := HM.out; omega)
        have hx := hc k (by have := HM.out; omega)
        clear hc
        have hbw : b < w.heap.size := by omega
        have hbw' : b' < w.heap.size := by omega
        have hco : cellOK gs xs k = (rng (xs.getD k 0) 0 999 && ((gs.getD k default).k == 0 || xs.getD k 0 == 0)) := rfl
        have HNK := Lib.hid fun (h : cellOK gs xs k = false) => validC_bad gs xs k (by have := HN.out; omega) h
        have HNT : Hid (cellOK gs xs k = true → ∀ j, j < k + 1 → cellOK gs xs j = true) := fun h j hj => by
          rcases Nat.lt_or_ge j k with h1 | h1
          · exact HK.out j h1
          · obtain rfl : j = k := by omega
            exact h
        generalize cellOK gs xs k = r at *
        generalize gs.getD k default = d at *
        generalize xs.getD k 0 = x at *
        subst hco
        cases hr : rng x 0 999
        · go_wp2_with (go_at_call 105; refine (spec_inRange _ _ _ _).mono ?_; rintro e w' ⟨rfl, rfl⟩)
          go_ret
          exact ⟨ret_b (HNK.out (by rw [hr]; rfl)).symm, (Below.refl _ _).alloc (Nat.le_refl _) _⟩
        · cases hd : (d.k == 0)
          · have hd' : (d.k != 0) = true := by simp [bne, hd]
            cases hz : (x == 0)
            · have hz' : (x != 0) = true := by simp [bne, hz]
              go_wp2_with (go_at_call 105; refine (spec_inRange _ _ _ _).mono ?_; rintro e w' ⟨rfl, rfl⟩)
              go_ret
              exact ⟨ret_b (HNK.out (by rw [hd, hz]; simp)).symm, (Below.refl _ _).alloc (Nat.le_refl _) _⟩
            · have hz' : (x != 0) = false := by simp [bne, hz]
              have HR := Lib.hid hr
              have HD := Lib.hid hd
              have HZ := Lib.hid hz
              go_wp2_with (go_at_call 105; refine (spec_inRange _ _ _ _).mono ?_; rintro e w' ⟨rfl, rfl⟩)
              go_roundw
              case rel => exact ⟨k + 1, by omega, by go_num, HNT.out (by rw [HR.out, HD.out, HZ.out]; rfl), by first | rfl | trivial⟩
              case measure => simp [intOf]; omega
          · have hd' : (d.k != 0) = false := by simp [bne, hd]
            have HR := Lib.hid hr
            have HD := Lib.hid hd
            go_wp2_with (go_at_call 105; refine (spec_inRange _ _ _ _).mono ?_; rintro e w' ⟨rfl, rfl⟩)
            go_roundw
            case rel => exact ⟨k + 1, by omega, by go_num, HNT.out (by rw [HR.out, HD.out]; rfl), by first | rfl | trivial⟩
            case measure => simp [intOf]; omega
      · go_wp2
        go_ret
        refine ⟨ret_b ?_, (Below.refl _ _).alloc (Nat.le_refl _) _⟩
        exact (validC_fin gs xs (by have := HN.out; have := HM.out; have := HE.out; omega) fun j hj => HK.out j (by have := HN.out; have := HE.out; omega)).symm
  · have hne : ((m : Int) != (n : Int)) = true := by simp; omega
    rw [validC_len gs xs (by omega)]
    clear hl hn hm h h'
    go_enter Tryz.func74, Tryz.ntmps74
    go_wp2
    go_ret
    exact ⟨rfl, (Below.refl _ _).alloc (Nat.le_refl _) _⟩
end Go.Proofs.YtgakgmkonmgblaaGreat

namespace Go.Proofs.YtgakgmkonmgblaaGreat
set_option linter.unusedSimpArgs false
set_option linter.unusedVariables false
open Go.RowKit
set_option maxRecDepth 100000 in
set_option maxHeartbeats 3200000 in
theorem spec_meaning (A A' : Option Addr) (n c m c' : Nat) (gs : List Nd) (xs : List Int) (w : World) (B : Nat) (hB : B ≤ w.heap.size) (hn : n = gs.length) (hm : m = xs.length) (h : GS w B A gs) (h' : IS w B A' xs) (hok : okC gs xs = true) :
    Calls Tryz.prog 106 #[.agg #[.slice A n c], .slice A' m c'] w fun e w' => RetI w (mean gs xs) e w' := by
  obtain ⟨i0, hi, hz0, hz1, hz2⟩ := info_parts info_int
  obtain ⟨hvg, hvc⟩ := okC_parts gs xs hok
  have hmn : m = n := by have := (validC_parts gs xs hvc).1; omega
  have hn10 : n ≤ 10 := by have := (validG_parts gs hvg).1; omega
  have H := Lib.hid h
  have HI := Lib.hid h'
  have HN := Lib.hid hn
  have HM := Lib.hid hm
  have HMN := Lib.hid hmn
  have HOK := Lib.hid hok
  clear h h' hn hm hmn hok hvg hvc
  go_enter Tryz.func106, Tryz.ntmps106
  go_wp2
  go_loopw [5, 6] (fun v i wr => ∃ k : Nat, k ≤ n ∧ i = .int .i64 k ∧ Hid (OwnI wr (w.heap.size + 1) v (meanTo gs xs k)) ∧ Below (w.heap.size + 1) (w.alloc (.cells #[.slice A n c] 25)) wr) (fun _ i _ => n - (intOf i).toNat)
  case atStart =>
    refine ⟨0, Nat.zero_le _, rfl, ?_, (Below.refl _ _).alloc (by simp) _⟩
    have := World.ownsRow_lit (e := 3) (size := 1) (base := w.heap.size + 1) (w.alloc (.cells #[.slice A n c] 25)) #[] 0 (by simp) (by unfold maxLen; omega) rfl
    simpa [OwnI, Hid, meanTo] using this
  case round =>
    obtain ⟨k, hk, rfl, HO, hbr⟩ := hrel
    have hbox : wr.cell? ⟨w.heap.size, 0, none⟩ = some (.slice A n c) := (hbr.cell (p := ⟨w.heap.size, 0, none⟩) (by simp)).trans (by go_simp)
    have hwr : w.heap.size + 1 ≤ wr.heap.size := by have := hbr.size; simpa using this
    by_cases hlt : k < n
    · have hkm : k < m := by have := HMN.out; omega
      have hkg : k < gs.length := by have := HN.out; omega
      obtain ⟨b, off, rfl, hbB, c0, A1, n1, c1, c2, hn1', hps⟩ := H.out.at_ k hkg
      obtain ⟨b', off', rfl, hb', hc⟩ := HI.out (by have := HM.out; omega)
      have hx := hc k (by have := HM.out; omega)
      clear hc
      have e0 : wr.cell? ⟨b, off + k * 2, none⟩ = _ := ((hbr.cell (p := ⟨b, off + k * 2, none⟩) (by simp; omega)).trans (World.cell?_alloc_lt _ _ _ (by simp; omega))).trans c0
      have e1 : wr.cell? ⟨b, off + k * 2 + 1, none⟩ = _ := ((hbr.cell (p := ⟨b, off + k * 2 + 1, none⟩) (by simp; omega)).trans (World.cell?_alloc_lt _ _ _ (by simp; omega))).trans c2
      have e2 : wr.cell? ⟨b', off' + k, none⟩ = _ := ((hbr.cell (p := ⟨b', off' + k, none⟩) (by simp; omega)).trans (World.cell?_alloc_lt _ _ _ (by simp; omega))).trans hx
      have HPS := Lib.hid ((hps.alloc hB (.cells #[.slice (some ⟨b, off, none⟩) n c] 25)).below hbr (by omega))
      have HST := Lib.hid (mean_step gs xs k)
      have hml := meanTo_len gs xs k
      obtain ⟨hvg, hvc⟩ := okC_parts gs xs HOK.out
      have HND := Lib.hid ((validG_parts gs hvg).2 k hkg)
      have hcE : ((gs.getD k default).k == 0) = false → canEv (gs.getD k default).ps (meanTo gs xs k) = true := mean_canEv gs xs HOK.out k hkg
      clear c0 c2 hx hps hvg hvc
      generalize gs.getD k default = d at *
      generalize xs.getD k 0 = x at *
      generalize meanTo gs xs k = M at *
      obtain ⟨A3, c3, rfl, hI3⟩ := HO.out.at_ hml
      have HI3 := Lib.hid hI3
      have HML := Lib.hid hml
      clear hml hI3
      cases hd : (d.k == 0)
      · have hd' : (d.k != 0) = true := by simp [bne, hd]
        obtain ⟨hv1, hvo, hl10, hea⟩ := canEv_parts d.ps M (hcE hd)
        obtain ⟨hg, h1, h12⟩ := validF_good d.ps hv1
        have HRUN := Lib.hid fun (w' : World) (hB : wr.heap.size ≤ w'.heap.size) (h : PS w' wr.heap.size A1 d.ps) (h' : IS w' wr.heap.size A3 M) => spec_run A1 A3 n1 c1 k c3 d.ps M wr.heap.size hn1' HML.out.symm hg (by rw [← HML.out]; exact hea) hvo (by omega) (by omega) (by omega) w' hB h h'
        have HD := Lib.hid hd
        rw [hd] at HST
        generalize hE : (whole d.ps).ev M = E at *
        clear hE hcE hv1 hvo hl10 hea hg h1 h12 hd hn1'
        go_wp2_with fail
        refine (HRUN.out _ (Nat.le_refl _) (HPS.out.more (by omega)) HI3.out).mono ?_
        rintro e w2 ⟨v2, rfl, hown2, hb2⟩
        clear hown2
        have HO2 := Lib.hid (own_below HO.out hb2)
        have hbr2 := hbr.trans (hb2.mono hwr)
        have hw2 : w.heap.size + 1 ≤ w2.heap.size := by have := hb2.size; omega
        go_wp2_with (at_builtin; refine wpList_append_own _ rfl _ _ 26 rfl (w.heap.size + 1) 3 i0 (.int .i64 0) 1 8 Tryz.underlying26 hi hz0 hz1 hz2 rfl (by decide) _ _ _ rfl (HO2.out.alloc _) ⟨_, 0, none⟩ 1 1 [.int .i64 E] rfl rfl (cell_one_new _ _ _) ?c2 ?c3 ?c4 ?c5 ?_)
        case c2 => first | rfl | (intro u hu; simp at hu; subst hu; rfl)
        case c3 => have := HML.out; unfold maxLen; omega
        case c4 => have := HML.out; omega
        case c5 => first | omega | (simp; omega)
        intro v' w3 hown' hgrow _
        have hpos := (HO2.out.alloc (.cells #[.int .i64 E] 3)).lt
        have HO' : Hid (OwnI w3 (w.heap.size + 1) v' (meanTo gs xs (k + 1))) := by
          rw [HST.out]
          simpa [OwnI, Hid] using hown'
        have HB' := Lib.hid ((hbr2.alloc hw2 (.cells #[.int .i64 E] 3)).grown hgrow (by simp; omega) (fun q hq => (hpos q hq).1))
        clear hown' hgrow hpos
        go_wp2
        go_roundw
        case rel => exact ⟨k + 1, by omega, by go_num, HO'.out, HB'.out⟩
        case measure => simp [intOf]; omega
      · have hd' : (d.k != 0) = false := by simp [bne, hd]
        rw [hd] at HST
        clear hcE hd hn1'
        go_wp2_with (at_builtin; refine wpList_append_own _ rfl _ _ 26 rfl (w.heap.size + 1) 3 i0 (.int .i64 0) 1 8 Tryz.underlying26 hi hz0 hz1 hz2 rfl (by decide) _ _ _ rfl (HO.out.alloc _) ⟨_, 0, none⟩ 1 1 [.int .i64 x] rfl rfl (cell_one_new _ _ _) ?d2 ?d3 ?d4 ?d5 ?_)
        case d2 => first | rfl | (intro u hu; simp at hu; subst hu; rfl)
        case d3 => have := HML.out; unfold maxLen; omega
        case d4 => have := HML.out; omega
        case d5 => first | omega | (simp; omega)
        intro v' w3 hown' hgrow _
        have hpos := (HO.out.alloc (.cells #[.int .i64 x] 3)).lt
        have HO' : Hid (OwnI w3 (w.heap.size + 1) v' (meanTo gs xs (k + 1))) := by
          rw [HST.out]
          simpa [OwnI, Hid] using hown'
        have HB' := Lib.hid ((hbr.alloc hwr (.cells #[.int .i64 x] 3)).grown hgrow (by simp; omega) (fun q hq => (hpos q hq).1))
        clear hown' hgrow hpos
        go_wp2
        go_roundw
        case rel => exact ⟨k + 1, by omega, by go_num, HO'.out, HB'.out⟩
        case measure => simp [intOf]; omega
    · obtain rfl : k = n := by omega
      go_wp2
      go_ret
      refine ⟨_, rfl, ?_, ((Below.refl _ _).alloc (Nat.le_refl _) _).trans (hbr.mono (by omega))⟩
      have := HO.out
      rw [HN.out] at this
      exact own_mono this (by omega)
end Go.Proofs.YtgakgmkonmgblaaGreat

namespace Go.Proofs.YtgakgmkonmgblaaGreat
set_option linter.unusedSimpArgs false
set_option linter.unusedVariables false
open Go.RowKit
theorem depTo_succ (gs : List Nd) (vs : List Int) (k : Nat) : depTo gs vs (k + 1) = depTo gs vs k ++ [depF gs vs k] := by simp [depTo, List.range_succ]
set_option maxRecDepth 100000 in
set_option maxHeartbeats 1600000 in
theorem spec_deps (A A' : Option Addr) (n c m c' : Nat) (gs : List Nd) (vs : List Int) (i : Nat) (w : World) (B : Nat) (hB : B ≤ w.heap.size) (hn : n = gs.length) (hm : m = vs.length) (hmn : m = n) (h : GS w B A gs) (h' : IS w B A' vs) (hv : validG gs = true) (hvo : VOK vs) (hi : i < n) :
    Calls Tryz.prog 107 #[.agg #[.slice A n c], .slice A' m c', .int .i64 i] w fun e w' => RetI w (depF gs vs i) e w' := by
  have h10 := (validG_parts gs hv).1
  have hn10 : n ≤ 10 := by omega
  obtain ⟨b, off, rfl, hbB, c0, A1, n1, c1, c2, hn1', hps⟩ := h.at_ i (by omega)
  have hde : depF gs vs i = if (gs.getD i default).k == 0 then [] else firsts ((whole (gs.getD i default).ps).rds vs) := rfl
  have hnd := (validG_parts gs hv).2 i (by omega)
  have hfm := nodeOK_formula gs i hnd
  have hea := each_ahead gs i m hv (by omega)
  rw [hde]
  clear hde hnd h
  generalize gs.getD i default = d at *
  have hbw : b < w.heap.size := by omega
  cases hd : (d.k == 0)
  · obtain ⟨hvf, _⟩ := hfm hd
    obtain ⟨hg, h1, h12⟩ := validF_good d.ps hvf
    have he := hea hd (by omega)
    have HRUN := Lib.hid fun (w' : World) (hB : B ≤ w'.heap.size) (h : PS w' B A1 d.ps) (h' : IS w' B A' vs) => spec_run A1 A' n1 c1 m c' d.ps vs B hn1' hm hg he hvo (by omega) (by omega) (by omega) w' hB h h'
    generalize firsts ((whole d.ps).rds vs) = R at *
    generalize (whole d.ps).ev vs = E at *
    have HPS := Lib.hid hps
    have HI := Lib.hid h'
    have hlt : i < n := hi
    clear hfm hea hvf hg h1 h12 he hn1' hps h' hn hm hmn h10 hv hvo
    show Calls _ _ _ _ fun e w' => RetI w R e w'
    go_enter Tryz.func107, Tryz.ntmps107
    go_wp2_with fail
    refine (HRUN.out _ (by simp; omega) (HPS.out.alloc hB _) (HI.out.alloc hB _)).mono ?_
    rintro e w1 ⟨v, rfl, ho, hb⟩
    go_wp2
    go_ret
    exact ⟨v, by simp, own_mono ho.1 (by simp), ((Below.refl _ _).alloc (Nat.le_refl _) _).trans (hb.mono (by simp))⟩
  · clear hfm hea hn1' hps h' hn hm hmn h10 hv hvo
    show Calls _ _ _ _ fun e w' => RetI w [] e w'
    have hml : 0 ≤ maxLen := Nat.zero_le _
    go_enter Tryz.func107, Tryz.ntmps107
    go_wp2
    go_ret
    exact retI_lit ((Below.refl _ _).alloc (Nat.le_refl _) _) _ _ 0 rfl hml rfl _ (by simp)
end Go.Proofs.YtgakgmkonmgblaaGreat

namespace Go.Proofs.YtgakgmkonmgblaaGreat
set_option linter.unusedSimpArgs false
set_option linter.unusedVariables false
open Go.RowKit
section
variable {lo hi lo' hi' n c en ec : Nat} {A E : Option Addr} {st : Eg} {k : Int} {w w' : World}
theorem eager_start (h : OwE lo w.heap.size A n c E en ec st w) : As lo w.heap.size (OwE lo w.heap.size A n c E en ec st) w := ⟨h, Nat.le_refl _, OwE.loc _ _ _ _ _ _ _ _ _⟩
theorem As.eager (h : As lo hi (OwE lo hi A n c E en ec st) w) : ES w w.heap.size A E st := h.it.reads.more h.le
end
end Go.Proofs.YtgakgmkonmgblaaGreat

namespace Go.Proofs.YtgakgmkonmgblaaGreat
set_option linter.unusedSimpArgs false
set_option linter.unusedVariables false
open Go.RowKit
set_option maxRecDepth 100000 in
set_option maxHeartbeats 3200000 in
theorem spec_startEager (A A' : Option Addr) (n c m c' : Nat) (gs : List Nd) (xs : List Int) (w : World) (B : Nat) (hB : B ≤ w.heap.size) (hn : n = gs.length) (hm : m = xs.length) (h : GS w B A gs) (h' : IS w B A' xs) (hok : okC gs xs = true) :
    Calls Tryz.prog 75 #[.agg #[.slice A n c], .slice A' m c'] w fun e w' => RetE w ⟨mean gs xs, depTo gs (mean gs xs) gs.length⟩ e w' := by
  obtain ⟨i1, hi, hz0, hz1, hz2⟩ := info_parts info_ints1
  have hvg := (okC_parts gs xs hok).1
  have hn10 : n ≤ 10 := by have := (validG_parts gs hvg).1; omega
  have hml := mean_len gs xs
  rw [← hn] at hml
  have hvo : VOK (mean gs xs) := meanTo_VOK gs xs hok gs.length (Nat.le_refl _)
  have HM := Lib.hid fun (w' : World) (hB : B ≤ w'.heap.size) (h : GS w' B A gs) (h' : IS w' B A' xs) => spec_meaning A A' n c m c' gs xs w' B hB hn hm h h' hok
  have HDP := Lib.hid fun (A5 : Option Addr) (c5 i : Nat) (w' : World) (B : Nat) (hB : B ≤ w'.heap.size) (h : GS w' B A gs) (h' : IS w' B A5 (mean gs xs)) (hi : i < n) => spec_deps A A5 n c n c5 gs (mean gs xs) i w' B hB hn hml.symm rfl h h' hvg hvo hi
  have HML := Lib.hid hml
  have HDT := Lib.hid (depTo_succ gs (mean gs xs))
  have HDL := Lib.hid (depTo_len gs (mean gs xs))
  have H := Lib.hid h
  have HX := Lib.hid h'
  rw [← hn]
  clear hvg hok hml hvo h h' hn hm
  generalize mean gs xs = M at *
  go_enter Tryz.func75, Tryz.ntmps75
  go_wp2_with fail
  refine (HM.out _ (by simp; omega) ((H.out.alloc hB _).alloc (by simp; omega) _) ((HX.out.alloc hB _).alloc (by simp; omega) _)).mono ?_
  rintro e w1 ⟨v1, rfl, ho, hb⟩
  obtain ⟨A1, c1, rfl, hI1⟩ := OwnI.at_ ho HML.out
  have q1 : w1.cell? ⟨w.heap.size, 0, none⟩ = some (.slice A n c) := (hb.cell (p := ⟨w.heap.size, 0, none⟩) (by simp; omega)).trans (by go_simp)
  have k0 : w1.cell? ⟨w.heap.size + 1, 0, none⟩ = some (.slice none 0 0) := (hb.cell (p := ⟨w.heap.size + 1, 0, none⟩) (by simp)).trans (by go_simp)
  have k1 : w1.cell? ⟨w.heap.size + 1, 1, none⟩ = some (.slice none 0 0) := (hb.cell (p := ⟨w.heap.size + 1, 1, none⟩) (by simp)).trans (by go_simp)
  have f0 : w1.frozen? ⟨w.heap.size + 1, 0, none⟩ = false := (hb.frozen (p := ⟨w.heap.size + 1, 0, none⟩) (by simp)).trans (by go_simp)
  have f1 : w1.frozen? ⟨w.heap.size + 1, 1, none⟩ = false := (hb.frozen (p := ⟨w.heap.size + 1, 1, none⟩) (by simp)).trans (by go_simp)
  have hB1 : Below w.heap.size w w1 := (((Below.refl _ _).alloc (Nat.le_refl _) _).alloc (by simp) _).trans (hb.mono (by simp; omega))
  have hl1 : w.heap.size + 2 ≤ w1.heap.size := by have := hb.size; simp at this; omega
  simp only [World.size_alloc] at ho
  have HO1 := Lib.hid ho
  have HI1 := Lib.hid hI1
  have HG1 := Lib.hid ((H.out.below hB1 hB).more (B' := w1.heap.size) (by omega))
  clear hb ho hI1 H HX HM
  go_wp2
  go_loopw [6] (fun u wr => ∃ (k : Nat) (v : Value), k ≤ n ∧ u = .int .i64 k ∧ Hid (wr.cell? ⟨w1.heap.size, 0, none⟩ = some (.slice A1 n c1)) ∧ Hid (wr.cell? ⟨w1.heap.size, 1, none⟩ = some v) ∧ Hid (wr.frozen? ⟨w1.heap.size, 1, none⟩ = false) ∧ Hid (OwSS (w1.heap.size + 1) wr.heap.size v k (depTo gs M k) wr) ∧ Hid (Below w1.heap.size w1 wr) ∧ w1.heap.size + 1 ≤ wr.heap.size) (fun u _ => n - (intOf u).toNat)
  case atStart => exact ⟨0, .slice none 0 0, Nat.zero_le _, rfl, Lib.hid (by go_simp), Lib.hid (by go_simp), Lib.hid (by go_simp), Lib.hid (by simpa [depTo] using OwSS.nil _ _ _), (Below.refl _ _).alloc (Nat.le_refl _) _, by simp⟩
  case round =>
    obtain ⟨k, v, hk, rfl, P0, P1, PF, HO, HB, hwr⟩ := hrel
    have q2 := (HB.out.cell (p := ⟨w.heap.size, 0, none⟩) (by show w.heap.size < w1.heap.size; omega)).trans q1
    by_cases hlt : k < n
    · obtain ⟨hkl, us, hrow, hss⟩ := HO.out
      obtain ⟨Av, cv, rfl⟩ := own_form hrow.1
      have HROW := Lib.hid hrow.1
      have HSS := Lib.hid hss
      have HKL := Lib.hid hkl
      have HGR := Lib.hid (HG1.out.below HB.out (Nat.le_refl _))
      have HIR := Lib.hid (HI1.out.below HB.out (Nat.le_refl _))
      have HDS := Lib.hid (HDT.out k)
      have HDK := Lib.hid fun (w' : World) (B : Nat) (hB : B ≤ w'.heap.size) (h : GS w' B A gs) (h' : IS w' B A1 M) => HDP.out A1 c1 k w' B hB h h' hlt
      generalize depF gs M k = D at *
      have hwr1 : w1.heap.size ≤ wr.heap.size := by omega
      have hy0 : w.heap.size < wr.heap.size := by omega
      have hy1 : w1.heap.size < wr.heap.size := by omega
      have p0 := P0.out
      have p1 := P1.out
      clear hkl hrow hss
      go_wp2
      go_region_law
        (first
          | (go_simp; go_at_call 107; refine (HDK.out _ w1.heap.size ?_ ?_ ?_).mono ?_; exact hwr1; exact HGR.out; exact HIR.out; rintro e w5 ⟨v5, rfl, ho5, hb5'⟩; obtain ⟨A5, c5, rfl, hI5⟩ := OwnI.form ho5; have hb5 : Below wr.heap.size wr w5 := (by first | exact hb5' | exact below_of_drew hb5'); have HO5 := Lib.hid ho5; have HB5 := Lib.hid hb5; have HR5 := Lib.hid (own_below HROW.out hb5); have hs5 : wr.heap.size ≤ w5.heap.size := hb5.size; have r2 := (hb5.cell (p := ⟨w.heap.size, 0, none⟩) hy0).trans q2; have r0 := (hb5.cell (p := ⟨w1.heap.size, 0, none⟩) hy1).trans p0; have r1 := (hb5.cell (p := ⟨w1.heap.size, 1, none⟩) hy1).trans p1; have rf := (hb5.frozen (p := ⟨w1.heap.size, 1, none⟩) hy1).trans PF.out; have s2 := (World.cell?_alloc_lt w5 (.cells #[.slice A5 D.length c5] 26) ⟨w.heap.size, 0, none⟩ (Nat.lt_of_lt_of_le hy0 hs5)).trans r2; have s0 := (World.cell?_alloc_lt w5 (.cells #[.slice A5 D.length c5] 26) ⟨w1.heap.size, 0, none⟩ (Nat.lt_of_lt_of_le hy1 hs5)).trans r0; have s1 := (World.cell?_alloc_lt w5 (.cells #[.slice A5 D.length c5] 26) ⟨w1.heap.size, 1, none⟩ (Nat.lt_of_lt_of_le hy1 hs5)).trans r1; have sf := ((World.frozen?_alloc_past (w := w5) (.cells #[.slice A5 D.length c5] 26) w1.heap.size 1 (Nat.lt_of_lt_of_le hy1 hs5)).trans rf : (w5.alloc (.cells #[.slice A5 D.length c5] 26)).frozen? ⟨w1.heap.size, 1, none⟩ = false); clear hb5 hb5' ho5 hI5)
          | (refine step_append_lies _ (by rfl) _ _ _ (by rfl) (w1.heap.size + 1) 26 i1 _ 1 24 Tryz.underlying27 hi hz0 hz1 hz2 rfl (by omega) (.slice Av k cv) k us (by rfl) (HR5.out.alloc _) ⟨w5.heap.size, 0, none⟩ 1 1 [.slice A5 D.length c5] (by rfl) (by rfl) (cell_one_new _ _ _) (by simp [Value.oneCell']) (by omega) (by unfold maxLen; omega) (by omega) (by simp; omega) (w5.heap.size + 1) (by simp) ?_; intro gg cap w6 hown' hgrow hat hlt6; have hpos := (HR5.out.alloc (.cells #[.slice A5 D.length c5] 26)).lt; have hb6 : Below (w1.heap.size + 1) (w5.alloc (.cells #[.slice A5 D.length c5] 26)) w6 := (Below.refl _ _).grown hgrow (by first | (simp; omega) | omega) (fun q hq => (hpos q hq).1); have t2 := (hb6.cell (p := ⟨w.heap.size, 0, none⟩) (by show w.heap.size < w1.heap.size + 1; omega)).trans s2; have t0 := (hb6.cell (p := ⟨w1.heap.size, 0, none⟩) (by show w1.heap.size < w1.heap.size + 1; omega)).trans s0; have t1 := (hb6.cell (p := ⟨w1.heap.size, 1, none⟩) (by show w1.heap.size < w1.heap.size + 1; omega)).trans s1; have tf := (hb6.frozen (p := ⟨w1.heap.size, 1, none⟩) (by show w1.heap.size < w1.heap.size + 1; omega)).trans sf))
      all_goals
        have HNEW : Hid (OwSS (w1.heap.size + 1) w6.heap.size (.slice (some ⟨gg, 0, none⟩) (k + 1) cap) (k + 1) (depTo gs M (k + 1)) w6) := by
          rw [HDS.out]
          have hd5 := HO5.out
          unfold OwnI at hd5
          exact OwSS.snoc HROW.out HSS.out HKL.out HB5.out hd5 rfl hown' hgrow hwr
        have HB6 : Hid (Below w1.heap.size w1 w6) := ((HB.out.trans (HB5.out.mono hwr1)).alloc (by omega) (.cells #[.slice A5 D.length c5] 26)).trans (hb6.mono (by omega))
        have hs6 : w1.heap.size + 1 ≤ w6.heap.size := by have := hgrow.size; simp at this; omega
        clear hown' hgrow hpos hb6 r2 r0 r1 s2 s0 s1 q2 p0 p1 rf sf
        go_wp2
        go_roundw
        case rel => exact ⟨k + 1, _, by omega, by go_num, Lib.hid ((World.cell?_setCell_other _ _ _ _ (by simp)).trans t0), Lib.hid (World.cell?_setCell_same _ _ _ t1), Lib.hid ((World.frozen?_setCell _ _ _ _).trans tf), Lib.hid (by simpa [World.setCell] using HNEW.out.setCell (a := ⟨w1.heap.size, 1, none⟩) (by simp) (.slice (some ⟨gg, 0, none⟩) (k + 1) cap)), Lib.hid (HB6.out.setCell (Nat.le_refl _) _), by simpa [World.setCell] using hs6⟩
        case measure => simp [intOf]; omega
    · obtain rfl : k = n := by omega
      have e1 := (HB.out.cell (p := ⟨w.heap.size + 1, 0, none⟩) (by show w.heap.size + 1 < w1.heap.size; omega)).trans k0
      have e2 := (HB.out.cell (p := ⟨w.heap.size + 1, 1, none⟩) (by show w.heap.size + 1 < w1.heap.size; omega)).trans k1
      have e3 := (HB.out.frozen (p := ⟨w.heap.size + 1, 0, none⟩) (by show w.heap.size + 1 < w1.heap.size; omega)).trans f0
      have e4 := (HB.out.frozen (p := ⟨w.heap.size + 1, 1, none⟩) (by show w.heap.size + 1 < w1.heap.size; omega)).trans f1
      obtain ⟨Av, cv, rfl⟩ := HO.out.form
      have p0 := P0.out
      have p1 := P1.out
      go_wp2
      refine bodyPost_ret (v := .agg #[.slice A1 k c1, .slice Av k cv]) (by simp [results, Tryz.results75, go_sem, e1, e2]) rfl ?_
      have hrow0 : OwR (w.heap.size + 1 + 1) w1.heap.size 3 1 (.slice A1 k c1) k (M.map (Value.int .i64)) w1 := OwR.of_own HO1.out HML.out.symm
      have hrow1 := hrow0.keep (w' := wr) fun q _ hq => HB.out.block q hq
      have hoe : OwE (w.heap.size + 1 + 1) wr.heap.size A1 k c1 Av k cv ⟨M, depTo gs M k⟩ wr := OwE.join hrow1 HML.out.symm (HO.out.mono (by omega) (Nat.le_refl _)) (by omega) (by omega)
      have o1 := hoe.setCell (a := ⟨w.heap.size + 1, 0, none⟩) (by simp) (.slice A1 k c1)
      have o2 := o1.setCell (a := ⟨w.heap.size + 1, 1, none⟩) (by simp) (.slice Av k cv)
      refine ⟨_, _, _, _, _, _, rfl, ?_, ((hB1.trans (HB.out.mono (by omega))).setCell (by simp) _).setCell (by simp) _⟩
      have o4 := o2.mono (lo' := w.heap.size) (hi' := wr.heap.size) (by omega) (Nat.le_refl _)
      simpa [World.setCell] using o4
end Go.Proofs.YtgakgmkonmgblaaGreat

namespace Go.Proofs.YtgakgmkonmgblaaGreat
set_option linter.unusedSimpArgs false
set_option linter.unusedVariables false
open Go.RowKit
def ISL (lo hi : Nat) (A : Option Addr) (xs : List Int) (w : World) : Prop :=
  0 < xs.length → ∃ b off, A = some ⟨b, off, none⟩ ∧ lo ≤ b ∧ b < hi ∧ ∀ j, j < xs.length → w.cell? ⟨b, off + j, none⟩ = some (.int .i64 (xs.getD j 0))
def SSL (lo hi : Nat) (A : Option Addr) (xss : List (List Int)) (w : World) : Prop :=
  0 < xss.length → ∃ b off, A = some ⟨b, off, none⟩ ∧ lo ≤ b ∧ b < hi ∧ ∀ j, j < xss.length → ∃ A' n c, w.cell? ⟨b, off + j, none⟩ = some (.slice A' n c) ∧ n = (xss.getD j []).length ∧ ISL lo hi A' (xss.getD j []) w
def ESL (lo hi : Nat) (A E : Option Addr) (st : Eg) (w : World) : Prop := ISL lo hi A st.vs w ∧ SSL lo hi E st.rs w
theorem ISL.loc (lo hi : Nat) (A : Option Addr) (xs : List Int) : Loc lo hi (ISL lo hi A xs) := by
  intro w w' h hk hn
  obtain ⟨b, off, e, h1, h2, hc⟩ := h hn
  exact ⟨b, off, e, h1, h2, fun j hj => (World.cell?_of_block (a := ⟨b, off + j, none⟩) (hk b h1 h2)).trans (hc j hj)⟩
theorem SSL.loc (lo hi : Nat) (A : Option Addr) (xss : List (List Int)) : Loc lo hi (SSL lo hi A xss) := by
  intro w w' h hk hn
  obtain ⟨b, off, e, h1, h2, hc⟩ := h hn
  refine ⟨b, off, e, h1, h2, fun j hj => ?_⟩
  obtain ⟨A', n, c, e1, e2, e3⟩ := hc j hj
  exact ⟨A', n, c, (World.cell?_of_block (a := ⟨b, off + j, none⟩) (hk b h1 h2)).trans e1, e2, ISL.loc lo hi A' _ w w' e3 hk⟩
theorem ESL.loc (lo hi : Nat) (A E : Option Addr) (st : Eg) : Loc lo hi (ESL lo hi A E st) := (ISL.loc lo hi A st.vs).and (SSL.loc lo hi E st.rs)
theorem ISL.of_row {lo hi n c : Nat} {A : Option Addr} {xs : List Int} {w : World} (h : OwR lo hi 3 1 (.slice A n c) n (xs.map (Value.int .i64)) w) : ISL lo hi A xs w := by
  intro hn
  obtain ⟨b, off, rfl, _, hc⟩ := IS.of_own h.1 hn
  exact ⟨b, off, rfl, (h.1.lt b rfl).1, h.2 b rfl, hc⟩
theorem SSL.of_rows {lo hi n c : Nat} {A : Option Addr} {xss : List (List Int)} {us : List Value} {w : World} (h0 : n = xss.length) (h1 : OwR lo hi 26 1 (.slice A n c) n us w) (h2 : ∀ j, j < n → ∃ A' m d, us[j]? = some (.slice A' m d) ∧ m = (xss.getD j []).length ∧ ISL lo hi A' (xss.getD j []) w) : SSL lo hi A xss w := by
  intro hn
  rcases h1.1.2 with ⟨_, hz⟩ | ⟨g, cap, cur, hv, _⟩
  · omega
  · have hg := h1.2 g (by rw [hv]; rfl)
    have hl := (h1.1.lt g (by rw [hv]; rfl)).1
    simp only [Value.slice.injEq] at hv
    obtain ⟨rfl, _, rfl⟩ := hv
    have hvl : us.length = n := by have := h1.1.1; omega
    refine ⟨g, 0, rfl, hl, hg, fun j hj => ?_⟩
    obtain ⟨A', m, c', e1, e2, e3⟩ := h2 j (by omega)
    refine ⟨A', m, c', ?_, e2, e3⟩
    rw [Nat.zero_add, h1.1.cellAt _ (by omega)]; exact e1
theorem ISL.is {lo hi : Nat} {A : Option Addr} {xs : List Int} {w : World} (h : ISL lo hi A xs w) : IS w hi A xs := by
  intro hn
  obtain ⟨b, off, e, _, h2, hc⟩ := h hn
  exact ⟨b, off, e, h2, hc⟩
theorem ESL.es {lo hi : Nat} {A E : Option Addr} {st : Eg} {w : World} (h : ESL lo hi A E st w) : ES w hi A E st := by
  refine ⟨h.1.is, fun hn => ?_⟩
  obtain ⟨b, off, e, _, h2, hc⟩ := h.2 hn
  refine ⟨b, off, e, h2, fun j hj => ?_⟩
  obtain ⟨A', n, c, e1, e2, e3⟩ := hc j hj
  exact ⟨A', n, c, e1, e2, e3.is⟩
theorem ISL.mono {lo hi lo' hi' : Nat} {A : Option Addr} {xs : List Int} {w : World} (h : ISL lo hi A xs w) (h1 : lo' ≤ lo) (h2 : hi ≤ hi') : ISL lo' hi' A xs w := by
  intro hn
  obtain ⟨b, off, e, e1, e2, hc⟩ := h hn
  exact ⟨b, off, e, by omega, by omega, hc⟩
theorem SSL.mono {lo hi lo' hi' : Nat} {A : Option Addr} {xss : List (List Int)} {w : World} (h : SSL lo hi A xss w) (h1 : lo' ≤ lo) (h2 : hi ≤ hi') : SSL lo' hi' A xss w := by
  intro hn
  obtain ⟨b, off, e, e1, e2, hc⟩ := h hn
  refine ⟨b, off, e, by omega, by omega, fun j hj => ?_⟩
  obtain ⟨A', n, c, k1, k2, k3⟩ := hc j hj
  exact ⟨A', n, c, k1, k2, k3.mono h1 h2⟩
theorem ESL.mono {lo hi lo' hi' : Nat} {A E : Option Addr} {st : Eg} {w : World} (h : ESL lo hi A E st w) (h1 : lo' ≤ lo) (h2 : hi ≤ hi') : ESL lo' hi' A E st w := ⟨h.1.mono h1 h2, h.2.mono h1 h2⟩
section
variable {lo hi n c en ec : Nat} {A E : Option Addr} {st : Eg} {w : World}
theorem OwE.inner (h : OwE lo hi A n c E en ec st w) : ∃ us, us.length = en ∧ OwR lo hi 26 1 (.slice E en ec) en us w ∧ (∀ j, j < en → ∃ A' m d, us[j]? = some (.slice A' m d) ∧ m = (st.rs.getD j []).length ∧ OwR lo hi 3 1 (.slice A' m d) m ((st.rs.getD j []).map (Value.int .i64)) w) ∧
    ∀ (j : Nat) (u : Value) (k : Nat), us[j]? = some u → (Value.slice A n c).ownBlock = some k → u.ownBlock ≠ some k := by
  obtain ⟨h0, h0', us, e1, e2⟩ := h
  have hul : us.length = en := by have := e1.1.1; omega
  refine ⟨us, hul, e1, fun j hj => ?_, fun j u k hu hk => ?_⟩
  · obtain ⟨A', m, d, r1, r2, r3⟩ := e2.tail.row j (by omega)
    exact ⟨A', m, d, r1, r2, r3⟩
  · exact e2.apart 0 (j + 1) _ u k (by omega) (by simp) (by simpa using hu) hk
theorem OwE.esl (h : OwE lo hi A n c E en ec st w) : ESL lo hi A E st w := by
  obtain ⟨us, hul, e1, e2, _⟩ := h.inner
  exact ⟨ISL.of_row h.row0, SSL.of_rows h.2.1 e1 fun j hj => by obtain ⟨A', m, d, r1, r2, r3⟩ := e2 j hj; exact ⟨A', m, d, r1, r2, ISL.of_row r3⟩⟩
theorem OwE.setVal {go k : Nat} (h : OwE lo hi (some ⟨go, 0, none⟩) n c E en ec st w) (z : Int) : ESL lo hi (some ⟨go, 0, none⟩) E ⟨st.vs.set k z, st.rs⟩ (w.setCell ⟨go, k, none⟩ (.int .i64 z)) := by
  obtain ⟨us, hul, e1, e2, e3⟩ := h.inner
  have hr := h.row0
  have hst := hr.1.stored k (.int .i64 z)
  refine ⟨ISL.of_row (n := n) (c := c) ⟨by have := hst.1; rwa [← List.map_set] at this, hr.2⟩, SSL.of_rows h.2.1 ⟨e1.1.kept hst.2 (blocks_ne e1.1 hr.1 ints_ne_int.symm), e1.2⟩ fun j hj => ?_⟩
  obtain ⟨A', m, d, r1, r2, r3⟩ := e2 j hj
  refine ⟨A', m, d, r1, r2, ISL.of_row ⟨r3.1.kept hst.2 ?_, r3.2⟩⟩
  cases hb : (Value.slice A' m d).ownBlock with
  | none => exact .inl rfl
  | some q => exact .inr fun e => e3 j _ q r1 e.symm hb
theorem OwE.setRow {go k hi' : Nat} {A5 : Option Addr} {m5 c5 : Nat} {ys : List Int} (h : OwE lo hi A n c (some ⟨go, 0, none⟩) en ec st w) (hk : k < en) (hm : m5 = ys.length) (hp : ISL lo hi' A5 ys (w.setCell ⟨go, k, none⟩ (.slice A5 m5 c5))) (hle : hi ≤ hi') :
    ESL lo hi' A (some ⟨go, 0, none⟩) ⟨st.vs, st.rs.set k ys⟩ (w.setCell ⟨go, k, none⟩ (.slice A5 m5 c5)) := by
  obtain ⟨us, hul, e1, e2, _⟩ := h.inner
  have hr := h.row0
  have hst := e1.1.stored k (.slice A5 m5 c5)
  have hrl : en = st.rs.length := h.2.1
  refine ⟨(ISL.of_row (n := n) (c := c) ⟨hr.1.kept hst.2 (blocks_ne hr.1 e1.1 ints_ne_int), hr.2⟩).mono (Nat.le_refl _) hle, SSL.of_rows (n := en) (c := ec) (us := us.set k (.slice A5 m5 c5)) (by simp [hrl]) ⟨hst.1, fun q hq => by have := e1.2 q hq; omega⟩ fun j hj => ?_⟩
  by_cases e : k = j
  · subst e
    have hg : (st.rs.set k ys).getD k [] = ys := by simp [List.getD, List.getElem?_set, show k < st.rs.length by omega]
    rw [hg]
    exact ⟨A5, m5, c5, by rw [List.getElem?_set, if_pos rfl, if_pos (by omega)], hm, hp⟩
  · have hg : (st.rs.set k ys).getD j [] = st.rs.getD j [] := by simp [List.getD, List.getElem?_set, e]
    obtain ⟨A', m, d, r1, r2, r3⟩ := e2 j hj
    rw [hg]
    exact ⟨A', m, d, by rw [List.getElem?_set, if_neg e]; exact r1, r2, (ISL.of_row ⟨r3.1.kept hst.2 (blocks_ne r3.1 e1.1 ints_ne_int), r3.2⟩).mono (Nat.le_refl _) hle⟩
end
theorem SSL.drop1 {lo hi b : Nat} {xss : List (List Int)} {w : World} (h : SSL lo hi (some ⟨b, 0, none⟩) xss w) : SSL lo hi (some ⟨b, 1, none⟩) (xss.drop 1) w := by
  intro hn
  simp only [List.length_drop] at hn
  obtain ⟨b', o', e, h1, h2, hc⟩ := h (by omega)
  cases e
  refine ⟨b, 1, rfl, h1, h2, fun j hj => ?_⟩
  simp only [List.length_drop] at hj
  obtain ⟨A', n, c, e1, e2, e3⟩ := hc (1 + j) (by omega)
  have hg : (xss.drop 1).getD j [] = xss.getD (1 + j) [] := by simp [List.getD, Nat.add_comm]
  rw [hg]
  rw [Nat.zero_add] at e1
  exact ⟨A', n, c, e1, e2, e3⟩
/-- A state without many or long rows. -/
def EM (st : Eg) : Prop := st.vs.length ≤ 11 ∧ st.rs.length ≤ 10 ∧ ∀ j, (st.rs.getD j []).length ≤ 10
theorem EM.val {st : Eg} (h : EM st) (k : Nat) (z : Int) : EM ⟨st.vs.set k z, st.rs⟩ := ⟨by simpa using h.1, h.2⟩
theorem EM.row {st : Eg} (h : EM st) (k : Nat) : EM ⟨st.vs, st.rs.set k [0]⟩ := by
  refine ⟨h.1, by simpa using h.2.1, fun j => ?_⟩
  by_cases e : k = j
  · subst e
    by_cases hl : k < st.rs.length
    · simp [List.getD, List.getElem?_set, hl]
    · rw [show (st.rs.set k [0]) = st.rs from List.set_eq_of_length_le (by omega)]; exact h.2.2 k
  · have hg : (st.rs.set k [0]).getD j [] = st.rs.getD j [] := by simp [List.getD, List.getElem?_set, e]
    show ((st.rs.set k [0]).getD j []).length ≤ 10
    rw [hg]; exact h.2.2 j
theorem EM.drop {st : Eg} (h : EM st) : EM ⟨st.vs, st.rs.drop 1⟩ := by
  refine ⟨h.1, by have := h.2.1; simp; omega, fun j => ?_⟩
  have hg : (st.rs.drop 1).getD j [] = st.rs.getD (1 + j) [] := by simp [List.getD, Nat.add_comm]
  show ((st.rs.drop 1).getD j []).length ≤ 10
  rw [hg]; exact h.2.2 (1 + j)
theorem EM.start (gs : List Nd) (xs : List Int) (h : okC gs xs = true) : EM ⟨mean gs xs, depTo gs (mean gs xs) gs.length⟩ := by
  have hg := (okC_parts gs xs h).1
  have h10 := (validG_parts gs hg).1
  have hml := mean_len gs xs
  refine ⟨by show (mean gs xs).length ≤ 11; omega, by show (depTo gs (mean gs xs) gs.length).length ≤ 10; rw [depTo_len]; exact h10, fun j => ?_⟩
  show ((depTo gs (mean gs xs) gs.length).getD j []).length ≤ 10
  by_cases hj : j < gs.length
  · have : (depTo gs (mean gs xs) gs.length).getD j [] = depF gs (mean gs xs) j := by unfold depTo; simp [List.getD, hj]
    rw [this]
    exact eager_depF_bd gs (mean gs xs) hg hml j hj
  · have : (depTo gs (mean gs xs) gs.length)[j]? = none := List.getElem?_eq_none (by rw [depTo_len]; omega)
    simp [List.getD, this]
end Go.Proofs.YtgakgmkonmgblaaGreat
