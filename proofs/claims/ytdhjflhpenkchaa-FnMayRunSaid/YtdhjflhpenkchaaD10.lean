/- The drawing of cells: someCells; a graph and cells: graphOf. -/
import Derived.Test.YtdhjflhpenkchaaH0
import Derived.Test.YtdhjflhpenkchaaD9

namespace Go.Proofs.Ytdhjflhpenkchaa
set_option linter.unusedSimpArgs false
set_option linter.unusedVariables false
open Go.RowKit

set_option maxRecDepth 100000 in
set_option maxHeartbeats 3200000 in
theorem someCells_any (g : Nat) (A : Option Addr) (n c : Nat) (bs : List Int) (P : Nat) (Ag : Option Addr) (k cg lo hi : Nat) (gs : List Nd) (w : World) (h : Rdr g A n c bs P w) (hn : n = bs.length) (hby : BY bs) (hs : n ≤ 2000) (hP : P ≤ 800000)
    (hg : As lo hi (OwG lo hi (.slice Ag k cg) k gs) w) (hlo : g < lo) (hk1 : 1 ≤ k) (hk : k ≤ 10) :
    Calls Try.prog 109 #[.pointer (some ⟨g, 0, none⟩), .agg #[.slice Ag k cg]] w fun e w' => CsP g A n c bs (P + 30) k (k + 1) w e w' := by
  obtain ⟨i0, hi0, hz0, hz1, hz2⟩ := info_parts info_int
  have hgw := h.lt
  have hhi := hg.le
  have HN := Lib.hid hn
  have HR0 := Lib.hid (h.alloc (.cells #[.slice Ag k cg] 25))
  have HA0 := Lib.hid (hg.alloc (.cells #[.slice Ag k cg] 25))
  have HF0 := Lib.hid (Frd.of_below (g := g) (s := w.heap.size) ((Below.refl w.heap.size w).alloc (Nat.le_refl _) (.cells #[.slice Ag k cg] 25)) (Nat.le_refl _))
  clear h hn hg
  go_enter Try.func109, Try.ntmps109
  go_wp2_with fail
  refine (goodCells_any g A n c bs P Ag k cg lo hi gs _ HR0.out HN.out hby hs (by omega) HA0.out hlo hk1 hk).mono ?_
  rintro e w1 ⟨v1, xs, rfl, hx1, hx2, hown, hr1, ht1⟩
  have hs1 : w.heap.size + 1 ≤ w1.heap.size := by have := ht1.size; simpa using this
  obtain ⟨l, hl⟩ : ∃ l, l = xs.length := ⟨_, rfl⟩
  unfold OwnI at hown
  rw [← hl] at hown hx1 hx2
  have HL := Lib.hid hl
  obtain ⟨go, co, rfl⟩ := row_pos hown (by omega)
  simp only [World.size_alloc] at hown
  have HO1 := Lib.hid (OwR.start hown)
  have HR1 := Lib.hid hr1
  have HF1 := Lib.hid (HF0.out.trans (Frd.of_tch ht1 (by simp)))
  clear hown hr1 ht1 HR0 HA0 HF0 hl
  go_wp2_with fail
  refine (pick_any g A n c bs (P + 20) 24 w1 HR1.out HN.out hby hs (by omega) (by omega)).mono ?_
  rintro e w2 ⟨x, rfl, _, _, hr2, ht2⟩
  have hs2 := ht2.size
  have HR2 := Lib.hid hr2
  have HF2 := Lib.hid (HF1.out.trans (Frd.of_tch ht2 (by omega)))
  have HO2 := Lib.hid (HO1.out.keep (w' := w2) fun q hq hq' => ht2.block q hq' (.inr (by omega)))
  clear hr2 ht2 HR1 HF1 HO1
  by_cases hx0 : x = 0
  · subst hx0
    have HRb := Lib.hid (HR2.out.alloc (.cells #[.int .i64 0] 3))
    have HFb := Lib.hid (HF2.out.trans (Frd.of_below (w' := w2.alloc (.cells #[.int .i64 0] 3)) ((Below.refl w2.heap.size w2).alloc (Nat.le_refl _) _) (by omega)))
    go_wp2_with (at_builtin; refine wpList_append_own _ rfl _ _ 28 rfl (w.heap.size + 1) 3 i0 (.int .i64 0) 1 8 Try.underlying28 hi0 hz0 hz1 hz2 rfl (by decide) _ _ _ rfl (HO2.out.1.alloc _) ⟨_, 0, none⟩ 1 1 [.int .i64 0] rfl rfl (cell_one_new _ _ _) ?c2 ?c3 ?c4 ?c5 ?_)
    case c2 => first | rfl | (intro u hu; simp at hu; subst hu; rfl)
    case c3 => unfold maxLen; omega
    case c4 => omega
    case c5 => first | omega | (simp; omega)
    intro v9 w9 hown9 hgrow9 _
    have hpos := (HO2.out.1.alloc (.cells #[.int .i64 0] 3)).lt
    have hb9 : Below (w.heap.size + 1) (w2.alloc (.cells #[.int .i64 0] 3)) w9 := (Below.refl _ _).grown hgrow9 (by simp; omega) (fun q hq => (hpos q hq).1)
    have ht9 : Tch (w.heap.size + 1) (w2.heap.size + 1) (w2.alloc (.cells #[.int .i64 0] 3)) w9 := Tch.of_grown hgrow9 fun q hq => by have := hpos q hq; simp at this; omega
    have HR9 := Lib.hid (HRb.out.turn ht9 (by omega))
    have HF9 := Lib.hid (HFb.out.trans (Frd.of_below hb9 (by omega)))
    have HO9 := Lib.hid hown9
    clear hown9 hgrow9 hpos hb9 ht9
    go_wp2
    go_ret
    refine ⟨_, xs ++ [0], rfl, by rw [List.length_append, ← HL.out]; simp; omega, by rw [List.length_append, ← HL.out]; simp; omega, ?_, HR9.out.mono (by omega), HF9.out.tch⟩
    unfold OwnI
    rw [List.length_append, ← HL.out]
    exact own_mono (by simpa using HO9.out) (by omega)
  · by_cases hx1 : x = 1
    · subst hx1
      have hlp : ((l : Nat) : Int) ≤ 1000000 := by omega
      go_wp2_with fail
      refine (pick_any g A n c bs (P + 21) l w2 HR2.out HN.out hby hs (by omega) (by omega)).mono ?_
      rintro e w3 ⟨j, rfl, hj, _, hr3, ht3⟩
      have hjl : j < l := by have := hj (by omega); omega
      have hs3 := ht3.size
      have HR3 := Lib.hid (hr3.alloc (.cells #[.int .i64 (-1), .int .i64 1000, .int .i64 7] 3))
      have HF3 := Lib.hid ((HF2.out.trans (Frd.of_tch ht3 (by omega))).trans (Frd.of_below (w' := w3.alloc (.cells #[.int .i64 (-1), .int .i64 1000, .int .i64 7] 3)) ((Below.refl w3.heap.size w3).alloc (Nat.le_refl _) _) (by omega)))
      have HO3 := Lib.hid ((HO2.out.keep (w' := w3) fun q hq hq' => ht3.block q (by omega) (.inr (by omega))).keep (w' := w3.alloc (.cells #[.int .i64 (-1), .int .i64 1000, .int .i64 7] 3)) fun q hq hq' => Below.heap_alloc _ _ _ (by omega))
      clear hj hr3 ht3 HR2 HF2 HO2
      go_wp2_with fail
      refine (one_any g A n c bs (P + 22) w3.heap.size 0 3 3 [-1, 1000, 7] _ HR3.out HN.out hby hs (by omega) rfl (by omega) (by omega) ?_ (by omega) (by simp)).mono ?_
      · intro j hj
        have : j = 0 ∨ j = 1 ∨ j = 2 := by omega
        rcases this with rfl | rfl | rfl <;> go_simp
      rintro e w4 ⟨z, rfl, _, hr4, ht4⟩
      have hs4 : w3.heap.size + 1 ≤ w4.heap.size := by have := ht4.size; simpa using this
      have HR5 := Lib.hid (hr4.turn (w' := w4.setCell ⟨go, j, none⟩ (.int .i64 z)) (Tch.of_grown (grown_setCell0 w4 go j (.int .i64 z)) fun k hk => by cases hk; exact ⟨Nat.le_refl _, Nat.lt_succ_self _⟩) (by have := (HO3.out.1.lt go rfl).1; omega))
      have hol : w.heap.size + 1 ≤ go := (HO3.out.1.lt go rfl).1
      have HF5 := Lib.hid ((HF3.out.trans (Frd.of_tch ht4 (by simp; omega))).trans (Frd.of_below (w' := w4.setCell ⟨go, j, none⟩ (.int .i64 z)) ((Below.refl w.heap.size w4).setCell (by show w.heap.size ≤ go; omega) _) (Nat.le_refl _)))
      have HO5 := Lib.hid (HO3.out.keep (w' := w4) fun q hq hq' => ht4.block q (by simp; omega) (.inr (by omega)))
      have u0 := HO5.out.1.cellAt j (by omega)
      have hxl : xs.length = l := HL.out.symm
      rw [List.getElem?_eq_getElem (by rw [List.length_map]; omega)] at u0
      have f0 := HO5.out.1.frozenAt j
      have hst := (HO5.out.1.stored j (.int .i64 z)).1
      rw [← List.map_set] at hst
      have HST := Lib.hid hst
      generalize (xs.map (Value.int .i64))[j]'_ = vv at u0
      have HXL := Lib.hid hxl
      clear hr4 ht4 hst hxl
      go_wp2
      go_ret
      exact ⟨_, xs.set j z, rfl, by rw [List.length_set, HXL.out]; omega, by rw [List.length_set, HXL.out]; omega, by unfold OwnI; rw [List.length_set, HXL.out]; exact own_mono HST.out (by omega), HR5.out.mono (by omega), HF5.out.tch⟩
    · go_wp2
      go_ret
      exact ⟨_, xs, rfl, by rw [← HL.out]; omega, by rw [← HL.out]; omega, by unfold OwnI; rw [← HL.out]; exact own_mono HO2.out.1 (by omega), HR2.out.mono (by omega), HF2.out.tch⟩

/-- Returns a graph and cells in fresh blocks. -/
def GcP (g : Nat) (A : Option Addr) (n c : Nat) (bs : List Int) (Q : Nat) (w : World) (e : Ending) (w' : World) : Prop :=
  ∃ (V : Value) (k : Nat) (gs : List Nd) (v : Value) (xs : List Int), e = .returned (.tuple #[.agg #[V], v]) ∧ 2 ≤ k ∧ k ≤ 10 ∧ (∀ j, (gs.getD j default).ps.length ≤ 40) ∧ k ≤ xs.length ∧ xs.length ≤ k + 1 ∧ OwG w.heap.size w'.heap.size V k gs w' ∧ OwnI w' w.heap.size v xs ∧ Rdr g A n c bs Q w' ∧ Tch g (g + 1) w w'

set_option maxRecDepth 100000 in
set_option maxHeartbeats 3200000 in
theorem graphOf_any (g : Nat) (A : Option Addr) (n c : Nat) (bs : List Int) (P : Nat) (w : World) (h : Rdr g A n c bs P w) (hn : n = bs.length) (hby : BY bs) (hs : n ≤ 2000) (hP : P ≤ 700000) :
    Calls Try.prog 72 #[.pointer (some ⟨g, 0, none⟩)] w fun e w' => GcP g A n c bs (P + 2600) w e w' := by
  have hgw := h.lt
  have HN := Lib.hid hn
  have HR0 := Lib.hid (h.alloc (.cells #[.slice none 0 0] 25))
  clear h hn
  go_enter Try.func72, Try.ntmps72
  go_wp2_with fail
  refine (someGraph_any g A n c bs P _ HR0.out HN.out hby hs (by omega)).mono ?_
  rintro e w1 ⟨V, k, gs, rfl, hk2, hk10, hsm, hown, hr1, ht1⟩
  have hs1 : w.heap.size + 1 ≤ w1.heap.size := by have := ht1.size; simpa using this
  obtain ⟨gn, cg, rfl⟩ := hown.pos (by omega)
  simp only [World.size_alloc] at hown
  obtain ⟨bG, hbG⟩ : ∃ bG, bG = w1.heap.size := ⟨_, rfl⟩
  have HBG := Lib.hid hbG
  have k0 : w1.cell? ⟨w.heap.size, 0, none⟩ = some (.slice none 0 0) := (World.cell?_of_block (a := ⟨w.heap.size, 0, none⟩) (ht1.block w.heap.size (by simp) (.inr (by omega)))).trans (by go_simp)
  have k1 : w1.frozen? ⟨w.heap.size, 0, none⟩ = false := (World.frozen?_of_block (a := ⟨w.heap.size, 0, none⟩) (ht1.block w.heap.size (by simp) (.inr (by omega)))).trans (by go_simp)
  have HB1 : Hid (As w.heap.size (w.heap.size + 1) (fun w' => w'.cell? ⟨w.heap.size, 0, none⟩ = some (.slice none 0 0) ∧ w'.frozen? ⟨w.heap.size, 0, none⟩ = false) w1) :=
    ⟨⟨k0, k1⟩, hs1, fun w w' h hk => ⟨(World.cell?_of_block (a := ⟨_, 0, none⟩) (hk _ (Nat.le_refl _) (Nat.lt_succ_self _))).trans h.1, (World.frozen?_of_block (a := ⟨_, 0, none⟩) (hk _ (Nat.le_refl _) (Nat.lt_succ_self _))).trans h.2⟩⟩
  have HO1 : Hid (As (w.heap.size + 1) bG (OwG (w.heap.size + 1) bG (.slice (some ⟨gn, 0, none⟩) k cg) k gs) w1) := by rw [hbG]; exact graph_start hown
  have HF1 := Lib.hid ((Frd.of_below (g := g) (s := w.heap.size) ((Below.refl w.heap.size w).alloc (Nat.le_refl _) (.cells #[.slice none 0 0] 25)) (Nat.le_refl _)).trans (Frd.of_tch ht1 (by simp)))
  have HR2 := Lib.hid (hr1.alloc (.cells #[.slice (some ⟨gn, 0, none⟩) k cg] 25))
  have HO2 := Lib.hid (HO1.out.alloc (.cells #[.slice (some ⟨gn, 0, none⟩) k cg] 25))
  have HB2 := Lib.hid (HB1.out.alloc (.cells #[.slice (some ⟨gn, 0, none⟩) k cg] 25))
  have HG2 := box_new w1 (.slice (some ⟨gn, 0, none⟩) k cg) 25
  rw [← hbG] at HG2
  have HG2 := Lib.hid HG2
  have HF2 := Lib.hid (HF1.out.trans (Frd.of_below (w' := w1.alloc (.cells #[.slice (some ⟨gn, 0, none⟩) k cg] 25)) ((Below.refl w1.heap.size w1).alloc (Nat.le_refl _) _) (by omega)))
  have hz2 : bG < (w1.alloc (.cells #[.slice (some ⟨gn, 0, none⟩) k cg] 25)).heap.size := by rw [hbG]; simp
  have hsG : w.heap.size + 1 ≤ bG := by omega
  have hgG : g < bG := by omega
  clear k0 k1 HB1 HO1 HF1 HR0 hown hr1 ht1 hbG
  have q2 := HG2.out.it
  obtain ⟨p0, p1⟩ := HB2.out.it
  have hwz : w.heap.size < (w1.alloc (.cells #[.slice (some ⟨gn, 0, none⟩) k cg] 25)).heap.size := by omega
  go_wp2
  rw [← HBG.out]
  generalize w1.alloc (.cells #[.slice (some ⟨gn, 0, none⟩) k cg] 25) = W2 at *
  refine wp_region_held_drew (S := fun w' => w'.cell? ⟨bG, 0, none⟩ = some (.slice (some ⟨gn, 0, none⟩) k cg)) (by kernel_rfl) q2 (fun hHeld => ?_)
  refine wpAnyH_take (i := 0) (oi := ⟨some 7, _, _, _, _, _⟩) (v := ?_) rfl (by kernel_rfl) (by kernel_rfl) (by kernel_rfl) (fun _ _ _ h => h) (Or.inl ⟨by rfl, ?_⟩) (by assumption) ?_; rotate_left; (focus (intro w hSw; (try dsimp only at hSw); go_simp; (try with_reducible rfl))); (try simp only [Act.put, List.setIfInBounds_toArray, List.set_cons_zero, List.set_cons_succ])
  refine wpAnyH_take (i := 1) (oi := ⟨some 8, _, _, _, _, _⟩) (v := ?_) rfl (by kernel_rfl) (by kernel_rfl) (by kernel_rfl) (fun _ _ _ h => h) (Or.inl ⟨by rfl, ?_⟩) (by assumption) ?_; rotate_left; (focus (intro w hSw; (try dsimp only at hSw); go_simp; (try with_reducible rfl))); (try simp only [Act.put, List.setIfInBounds_toArray, List.set_cons_zero, List.set_cons_succ])
  refine wpAnyH_take (i := 2) (oi := ⟨some 9, _, _, _, _, _⟩) (v := ?_) rfl (by kernel_rfl) (by kernel_rfl) (by kernel_rfl) (fun _ _ _ h => h) (Or.inl ⟨by rfl, ?_⟩) (by assumption) ?_; rotate_left; (focus (intro w hSw; (try dsimp only at hSw); go_simp; (try with_reducible rfl))); (try simp only [Act.put, List.setIfInBounds_toArray, List.set_cons_zero, List.set_cons_succ])
  refine wpAnyH_ready (rs := [3]) (by kernel_rfl) (by simp) ?_; refine AllReadyH.cons (o := ⟨some 10, _, _, _, _, _⟩) rfl (fun K hK => ?_) AllReadyH.nil; go_simp
  go_at_call 109
  refine (someCells_any g A n c bs (P + 2500) (some ⟨gn, 0, none⟩) k cg (w.heap.size + 1) bG gs _ HR2.out.drew HN.out hby hs (by omega) ⟨OwG.loc _ _ _ _ _ _ _ HO2.out.it fun _ _ _ => rfl, HO2.out.le, HO2.out.loc⟩ (by omega) (by omega) hk10).mono ?_
  rintro e w5 ⟨v5, xs, rfl, hx1, hx2, hown5, hr5, ht5'⟩
  have ht5 : Tch g (g + 1) W2 w5 := ⟨ht5'.os, ht5'.tape, ht5'.output, ht5'.size, ht5'.block⟩
  have hz5 := ht5.size
  obtain ⟨A5, c5, rfl, _⟩ := OwnI.form hown5
  unfold OwnI at hown5
  have HO6 := Lib.hid (HO2.out.turn ht5 (.inl (by omega)))
  have HB6 := Lib.hid (HB2.out.turn ht5 (.inl (by omega)))
  have HG6 := Lib.hid (HG2.out.turn ht5 (.inl (by omega)))
  have HF6 := Lib.hid (HF2.out.trans (Frd.of_tch ht5 (by omega)))
  have HR6 := Lib.hid hr5
  have HC6 := Lib.hid (show w5.ownsRow W2.heap.size 3 1 (.slice A5 xs.length c5) xs.length (xs.map (Value.int .i64)) from hown5)
  have q6 := HG6.out.it
  obtain ⟨r0, r1⟩ := HB6.out.it
  have q7 : (w5.setCell ⟨w.heap.size, 0, none⟩ (.slice (some ⟨gn, 0, none⟩) k cg)).cell? ⟨bG, 0, none⟩ = some (.slice (some ⟨gn, 0, none⟩) k cg) := (World.cell?_setCell_other _ _ _ _ (by intro e; have := congrArg Addr.block e; simp at this; omega)).trans q6
  clear hown5 hr5 ht5 ht5' HO2 HB2 HG2 HF2 HR2
  refine hK.out _ _ q6 (fun hHeld => ?_); clear hK K; (try simp only [Act.put, List.setIfInBounds_toArray, List.set_cons_zero, List.set_cons_succ])
  refine wpAnyH_ready (rs := [4]) (by kernel_rfl) (by simp) ?_; refine AllReadyH.cons (o := ⟨none, _, _, _, _, _⟩) rfl (fun K hK => ?_) AllReadyH.nil; go_simp
  refine hK.out _ _ q7 (fun hHeld => ?_); clear hK K; (try simp only [Act.put, List.setIfInBounds_toArray, List.set_cons_zero, List.set_cons_succ])
  refine wpAnyH_take (i := 5) (oi := ⟨some 3, _, _, _, _, _⟩) (v := ?_) rfl (by kernel_rfl) (by kernel_rfl) (by kernel_rfl) (fun _ _ _ h => h) (Or.inl ⟨by rfl, ?_⟩) (by assumption) ?_; rotate_left; (focus (intro w hSw; (try dsimp only at hSw); go_simp; (try with_reducible rfl))); (try simp only [Act.put, List.setIfInBounds_toArray, List.set_cons_zero, List.set_cons_succ])
  refine wpAnyH_done (by kernel_rfl) ?_ _
  have r2 : (w5.setCell ⟨w.heap.size, 0, none⟩ (.slice (some ⟨gn, 0, none⟩) k cg)).cell? ⟨w.heap.size, 0, none⟩ = some (.slice (some ⟨gn, 0, none⟩) k cg) := World.cell?_setCell_same _ _ _ r0
  go_wp2
  refine bodyPost_ret (v := .tuple #[.agg #[.slice (some ⟨gn, 0, none⟩) k cg], .slice A5 xs.length c5]) (by simp [results, Try.results72, go_sem, r2]) rfl ?_
  have hsz : (w5.setCell ⟨w.heap.size, 0, none⟩ (.slice (some ⟨gn, 0, none⟩) k cg)).heap.size = w5.heap.size := by simp [World.setCell]
  refine ⟨_, k, gs, _, xs, rfl, hk2, hk10, hsm, by omega, by omega, ?_, ?_, (HR6.out.mono (by omega)).set1 hgw 0 _, (HF6.out.trans (Frd.of_below ((Below.refl w.heap.size _).setCell (p := ⟨w.heap.size, 0, none⟩) (Nat.le_refl _) _) (Nat.le_refl _))).tch⟩
  · rw [hsz]
    exact (OwG.loc _ _ _ _ _ _ _ HO6.out.it fun b x y => Below.heap_setCell _ _ _ _ (by show b ≠ w.heap.size; omega)).mono (by omega) (by omega)
  · unfold OwnI
    exact own_mono (own_keep HC6.out fun b x y => Below.heap_setCell _ _ _ _ (by show b ≠ w.heap.size; omega)) (by omega)
end Go.Proofs.Ytdhjflhpenkchaa
