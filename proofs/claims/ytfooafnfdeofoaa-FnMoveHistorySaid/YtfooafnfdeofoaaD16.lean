/- The drawing of a graph and a history: historyOf. (Made by d16.py.) -/
import Derived.Test.YtfooafnfdeofoaaH2
import Derived.Test.YtfooafnfdeofoaaD15

namespace Go.Proofs.Ytfooafnfdeofoaa
set_option linter.unusedSimpArgs false
set_option linter.unusedVariables false
open Go.RowKit

/-- Returns a graph and a history of 1 to 10 lists in fresh blocks, of any content. -/
def HgP (g : Nat) (A : Option Addr) (n c : Nat) (bs : List Int) (Q : Nat) (w : World) (e : Ending) (w' : World) : Prop :=
  ∃ (V : Value) (k : Nat) (gs : List Nd) (E : Option Addr) (l d : Nat) (hs : List (List Int)) (y : Int), e = .returned (.tuple #[.agg #[V], .agg #[.slice E l d, .int .i64 y]]) ∧ 2 ≤ k ∧ k ≤ 10 ∧ (∀ j, (gs.getD j default).ps.length ≤ 40) ∧ 1 ≤ l ∧ l ≤ 10 ∧ (∀ x ∈ hs, x.length ≤ 11) ∧ -1 ≤ y ∧ y ≤ 10 ∧ OwG w.heap.size w'.heap.size V k gs w' ∧ OwSS w.heap.size w'.heap.size (.slice E l d) l hs w' ∧ Rdr g A n c bs Q w' ∧ Tch g (g + 1) w w'

theorem HsI.fin {g bG bH n c Q k l d : Nat} {A E : Option Addr} {bs : List Int} {w X : World} {V : Value} {gs : List Nd} {hs : List (List Int)} {y : Int} (h : HsI g w.heap.size bG bH A n c bs Q w V k gs (.slice E l d) l hs y X) (h2 : 2 ≤ k) (h10 : k ≤ 10) (hsm : ∀ j, (gs.getD j default).ps.length ≤ 40) (hl1 : 1 ≤ l) (hl2 : l ≤ 10) (hx : ∀ x ∈ hs, x.length ≤ 11) (hy1 : -1 ≤ y) (hy2 : y ≤ 10) {X' : World} (hX : X' = (((X.setCell ⟨w.heap.size, 0, none⟩ V).setCell ⟨w.heap.size + 1, 0, none⟩ (.slice E l d)).setCell ⟨w.heap.size + 1, 1, none⟩ (.int .i64 y)).drew) :
    HgP g A n c bs Q w (.returned (.tuple #[.agg #[V], .agg #[.slice E l d, .int .i64 y]])) X' := by
  subst hX
  have h1 := h.gs_
  have h3 := h.sG
  have h4 := h.gr.le
  have h5 := h.gb.le
  have hz : (((X.setCell ⟨w.heap.size, 0, none⟩ V).setCell ⟨w.heap.size + 1, 0, none⟩ (.slice E l d)).setCell ⟨w.heap.size + 1, 1, none⟩ (.int .i64 y)).drew.heap.size = X.heap.size := by show (((X.setCell ⟨w.heap.size, 0, none⟩ V).setCell ⟨w.heap.size + 1, 0, none⟩ (.slice E l d)).setCell ⟨w.heap.size + 1, 1, none⟩ (.int .i64 y)).heap.size = _; simp [World.setCell]
  have hk : ∀ b, w.heap.size + 2 ≤ b → (((X.setCell ⟨w.heap.size, 0, none⟩ V).setCell ⟨w.heap.size + 1, 0, none⟩ (.slice E l d)).setCell ⟨w.heap.size + 1, 1, none⟩ (.int .i64 y)).drew.heap[b]? = X.heap[b]? := fun b hb => (Below.heap_setCell _ _ _ _ (by show b ≠ w.heap.size + 1; omega)).trans ((Below.heap_setCell _ _ _ _ (by show b ≠ w.heap.size + 1; omega)).trans (Below.heap_setCell _ _ _ _ (by show b ≠ w.heap.size; omega)))
  refine ⟨V, k, gs, E, l, d, hs, y, rfl, h2, h10, hsm, hl1, hl2, hx, hy1, hy2, ?_, ?_, (((h.rd.set1 h1 0 _).set1 (by omega) 0 _).set1 (by omega) 1 _).drew, (h.fr.trans (Frd.of_below (C := w.heap.size) ((((Below.refl w.heap.size X).setCell (Nat.le_refl _) _).setCell (by simp) _).setCell (by simp) _).drew (Nat.le_refl _))).tch⟩
  · rw [hz]; exact (OwG.loc _ _ _ _ _ _ _ h.gr.it fun b a _ => hk b a).mono (by omega) h4
  · rw [hz]; exact (OwSS.loc _ _ _ _ _ _ _ h.own fun b a _ => hk b (by omega)).mono (by omega) (Nat.le_refl _)

theorem HsI.pos {g s bG bH n c Q k l : Nat} {A : Option Addr} {bs : List Int} {w0 X : World} {V Sv : Value} {gs : List Nd} {hs : List (List Int)} {y : Int} (h : HsI g s bG bH A n c bs Q w0 V k gs Sv l hs y X) (hl : 1 ≤ l) : ∃ sg cap, Sv = .slice (some ⟨sg, 0, none⟩) l cap ∧ l ≤ cap := by
  obtain ⟨_, vs, hr, _⟩ := h.own
  rcases hr.1.2 with ⟨_, hz⟩ | ⟨g', cap, cur, hv, _, _, hn, _⟩
  · omega
  · exact ⟨g', cap, hv, hn⟩

theorem HsI.after {g s bG bH n c Q k l : Nat} {A : Option Addr} {bs : List Int} {w0 X X7 X8 : World} {V Sv : Value} {gs : List Nd} {hs : List (List Int)} {y : Int} {vs : List Value} {o : Obj} (h : HsI g s bG bH A n c bs Q w0 V k gs Sv l hs y X) (ht : Tch g (g + 1) X X7) (hrow : OwR (bG + 1) X.heap.size 33 1 Sv l vs X) (hgrow : (X7.alloc o).grownBy X8 Sv.ownBlock) : Bx bH [Sv, .int .i64 y] X8 ∧ X8.cell? ⟨bG, 0, none⟩ = some V := by
  have h1 := h.gs_
  have h2 := h.sG
  have h3 := h.GH
  have h5 := h.gb.le
  have h6 := h.hb.lt
  have hx7 := ht.size
  have hs8 : X7.heap.size + 1 ≤ X8.heap.size := by have := hgrow.size; simpa using this
  have hbl : ∀ q, Sv.ownBlock = some q → bG + 1 ≤ q ∧ q ≠ bH := fun q hq => ⟨(hrow.1.lt q hq).1, fun e => by
    have := own_tag hrow.1 h.th (by decide)
    rw [hq, e] at this; exact this rfl⟩
  have hblk : ∀ b, b < X.heap.size → b ≠ g → Sv.ownBlock ≠ some b → X8.heap[b]? = X.heap[b]? := fun b hb hg hne => ((hgrow.block b (by simp; omega) (fun e => hne e.symm)).trans (heap_alloc_old X7 _ (by omega))).trans (ht.block b hb (by omega))
  exact ⟨h.hb.keep (hblk bH h6 (by omega) fun e => (hbl bH e).2 rfl) (by omega), (World.cell?_of_block (a := ⟨bG, 0, none⟩) (hblk bG (by omega) (by omega) fun e => by have := (hbl bG e).1; omega)).trans h.gb.it⟩

set_option maxRecDepth 100000 in
set_option maxHeartbeats 12800000 in
theorem historyOf_any (g : Nat) (A : Option Addr) (n c : Nat) (bs : List Int) (P : Nat) (w : World) (h : Rdr g A n c bs P w) (hn : n = bs.length) (hby : BY bs) (hs : n ≤ 2000) (hP : P ≤ 600000) :
    Calls Try.prog 31 #[.pointer (some ⟨g, 0, none⟩)] w fun e w' => HgP g A n c bs (P + 3000) w e w' := by
  obtain ⟨i1, hi, iz0, iz1, iz2⟩ := info_parts info_ints1
  have hgw := h.lt
  have HN := Lib.hid hn
  obtain ⟨W1, hW1⟩ : ∃ W, W = (w.alloc (.cells #[.slice none 0 0] 25)).alloc (.cells #[.slice none 0 0, .int .i64 0] 28) := ⟨_, rfl⟩
  have hb1 : Below w.heap.size w W1 := by rw [hW1]; exact ((Below.refl _ _).alloc (Nat.le_refl _) _).alloc (by simp) _
  have hs1 : W1.heap.size = w.heap.size + 2 := by rw [hW1]; simp
  have ra1 : Bx w.heap.size [.slice none 0 0] W1 := by rw [hW1]; exact (Bx.start w #[.slice none 0 0] _).alloc _
  have rb1 : Bx (w.heap.size + 1) [.slice none 0 0, .int .i64 0] W1 := by rw [hW1]; have := Bx.start (w.alloc (.cells #[.slice none 0 0] 25)) #[.slice none 0 0, .int .i64 0] 28; simpa using this
  have HR1 := Lib.hid (h.step hb1)
  have HF1 := Lib.hid (Frd.of_below (g := g) (s := w.heap.size) hb1 (Nat.le_refl _))
  have RA1 := Lib.hid ra1
  have RB1 := Lib.hid rb1
  have HW1 := Lib.hid hW1
  clear h hn hb1 ra1 rb1 hW1
  go_enter Try.func31, Try.ntmps31
  go_wp2_with fail
  rw [← HW1.out]
  refine (someGraph_any g A n c bs P _ HR1.out HN.out hby hs (by omega)).mono ?_
  rintro e w2 ⟨V, k, gs, rfl, hk2, hk10, hsm, hown, hr2, ht2⟩
  have hz22 := ht2.size
  obtain ⟨gn, cg, rfl⟩ := hown.pos (by omega)
  obtain ⟨bG, hbG⟩ : ∃ bG, bG = w2.heap.size := ⟨_, rfl⟩
  have HBG := Lib.hid hbG
  rw [hs1] at hown
  have HO2 : Hid (As (w.heap.size + 2) bG (OwG (w.heap.size + 2) bG (.slice (some ⟨gn, 0, none⟩) k cg) k gs) w2) := by rw [hbG]; exact graph_start hown
  have RA2 := Lib.hid (RA1.out.keep (ht2.block _ (by omega) (by omega)) ht2.size)
  have RB2 := Lib.hid (RB1.out.keep (ht2.block _ (by omega) (by omega)) ht2.size)
  have HF2 := Lib.hid (HF1.out.trans (Frd.of_tch ht2 (by omega)))
  obtain ⟨W3, hW3⟩ : ∃ W, W = w2.alloc (.cells #[.slice (some ⟨gn, 0, none⟩) k cg] 25) := ⟨_, rfl⟩
  have hb3 : Below w2.heap.size w2 W3 := by rw [hW3]; exact (Below.refl _ _).alloc (Nat.le_refl _) _
  have hs3 : W3.heap.size = bG + 1 := by rw [hW3, hbG]; simp
  have HR3 := Lib.hid (hr2.step hb3)
  have HO3 := Lib.hid (HO2.out.step hb3)
  have HG3 : Hid (As bG (bG + 1) (fun w' => w'.cell? ⟨bG, 0, none⟩ = some (.slice (some ⟨gn, 0, none⟩) k cg)) W3) := by rw [hW3, hbG]; exact box_new w2 _ _
  have RA3 := Lib.hid (RA2.out.step hb3)
  have RB3 := Lib.hid (RB2.out.step hb3)
  have HF3 := Lib.hid (HF2.out.trans (Frd.of_below hb3 (by omega)))
  have HW3 := Lib.hid hW3
  have hsG : w.heap.size + 2 ≤ bG := by omega
  clear hown hr2 ht2 hb3 hW3 HR1 HF1 RA1 RB1 HW1 HO2 RA2 RB2 HF2 hbG
  have q3 := HG3.out.it
  go_wp2_with fail
  rw [← HBG.out, ← HW3.out]
  refine (goodCells_any g A n c bs (P + 2500) (some ⟨gn, 0, none⟩) k cg (w.heap.size + 2) bG gs _ HR3.out HN.out hby hs (by omega) HO3.out (by omega) (by omega) hk10).mono ?_
  rintro e w4 ⟨v4, D, rfl, hd1, hd2, hown4, hr4, ht4⟩
  have hz4 := ht4.size
  obtain ⟨g4, c4, hv4⟩ : ∃ g4 c4, v4 = .slice (some ⟨g4, 0, none⟩) D.length c4 := by
    rcases hown4.2 with ⟨_, hz⟩ | ⟨g', cap, cur, hv, _⟩
    · omega
    · exact ⟨g', cap, hv⟩
  subst hv4
  unfold OwnI at hown4
  have hg4 := hown4.lt g4 rfl
  obtain ⟨W6, hW6⟩ : ∃ W, W = (w4.alloc (.cells #[.slice (some ⟨g4, 0, none⟩) D.length c4] 33)).alloc (.cells #[.slice (some ⟨w4.heap.size, 0, none⟩) 1 1, .int .i64 0] 28) := ⟨_, rfl⟩
  have hb6 : Below w4.heap.size w4 W6 := by rw [hW6]; exact ((Below.refl _ _).alloc (Nat.le_refl _) _).alloc (by simp) _
  have hs6 : W6.heap.size = w4.heap.size + 2 := by rw [hW6]; simp
  have hbx : Bx (w4.heap.size + 1) [.slice (some ⟨w4.heap.size, 0, none⟩) 1 1, .int .i64 0] W6 := by rw [hW6]; have := Bx.start (w4.alloc (.cells #[.slice (some ⟨g4, 0, none⟩) D.length c4] 33)) #[.slice (some ⟨w4.heap.size, 0, none⟩) 1 1, .int .i64 0] 28; simpa using this
  have htg : Tg (w4.heap.size + 1) 28 W6 := by rw [hW6]; have := Tg.new (w4.alloc (.cells #[.slice (some ⟨g4, 0, none⟩) D.length c4] 33)) #[.slice (some ⟨w4.heap.size, 0, none⟩) 1 1, .int .i64 0] 28 (0, 0); simpa using this
  have hone := OwSS.one (lo := bG + 1) (own_mono hown4 (by omega)) rfl (by omega)
  have hown6 : OwSS (bG + 1) W6.heap.size (.slice (some ⟨w4.heap.size, 0, none⟩) 1 1) 1 [D] W6 := by
    rw [hs6, hW6]
    exact (OwSS.loc _ _ _ _ _ _ _ hone fun b _ hb => heap_alloc_old _ _ (by simpa using hb)).mono (Nat.le_refl _) (by omega)
  have HI6 : Hid (HsI g w.heap.size bG (w4.heap.size + 1) A n c bs (P + 2520) w (.slice (some ⟨gn, 0, none⟩) k cg) k gs (.slice (some ⟨w4.heap.size, 0, none⟩) 1 1) 1 [D] 0 W6) :=
    ⟨hr4.step hb6, (HO3.out.turn ht4 (.inl (by omega))).step hb6, (HG3.out.turn ht4 (.inl (by omega))).step hb6, hbx, (RA3.out.keep (ht4.block _ (by omega) (by omega)) ht4.size).step hb6, (RB3.out.keep (ht4.block _ (by omega) (by omega)) ht4.size).step hb6, hown6, htg, (HF3.out.trans (Frd.of_tch ht4 (by omega))).trans (Frd.of_below hb6 (by omega)), hgw, hsG, by omega⟩
  obtain ⟨bH, hbH⟩ : ∃ bH, bH = w4.heap.size + 1 := ⟨_, rfl⟩
  rw [← hbH] at HI6
  have HBH := Lib.hid hbH
  have HW6 := Lib.hid hW6
  have HD1 : Hid (∀ x ∈ [D], x.length ≤ 11) := by intro x hx; simp at hx; subst hx; omega
  have q4 := (HG3.out.turn ht4 (.inl (by omega))).it
  clear hown4 hr4 ht4 hb6 hbx htg hone hown6 HR3 HO3 HG3 RA3 RB3 HF3 HW3 hW6 hbH q3 hg4
  obtain ⟨W7, hW7⟩ : ∃ W, W = W6.alloc (.cells #[.int .i64 2, .int .i64 3, .int .i64 1, .int .i64 5, .int .i64 0, .int .i64 9] 3) := ⟨_, rfl⟩
  have HI7 : Hid (HsI g w.heap.size bG bH A n c bs (P + 2520) w (.slice (some ⟨gn, 0, none⟩) k cg) k gs (.slice (some ⟨w4.heap.size, 0, none⟩) 1 1) 1 [D] 0 W7) := by rw [hW7]; exact HI6.out.alloc _
  have hc7 : ∀ j, j < 6 → W7.cell? ⟨bH + 1, 0 + j, none⟩ = some (.int .i64 ([2, 3, 1, 5, 0, 9].getD j 0)) := by
    intro j hj
    rw [show bH + 1 = W6.heap.size by rw [hs6, HBH.out]]
    have : j = 0 ∨ j = 1 ∨ j = 2 ∨ j = 3 ∨ j = 4 ∨ j = 5 := by omega
    rw [hW7]
    rcases this with rfl | rfl | rfl | rfl | rfl | rfl <;> go_simp
  have hs7 : W7.heap.size = W6.heap.size + 1 := by rw [hW7]; simp
  have HC7 := Lib.hid hc7
  have HW7 := Lib.hid hW7
  clear hW7 hc7 HI6
  go_wp2_with fail
  rw [← HW6.out, ← HW7.out, ← HBH.out]
  have hs6b : W6.heap.size = bH + 1 := by rw [hs6, HBH.out]
  refine (one_any g A n c bs (P + 2520) (bH + 1) 0 6 6 [2, 3, 1, 5, 0, 9] _ HI7.out.rd HN.out hby hs (by omega) rfl (by omega) (by omega) HC7.out (by have := HI7.out.GH; have := HI7.out.sG; omega) (by omega)).mono ?_
  rintro e w8 ⟨z0, rfl, hz0m, hr8, ht8⟩
  have HI8 := Lib.hid (HI7.out.pick hr8 ht8)
  have hz9 : 0 ≤ z0 ∧ z0 ≤ 9 := by
    simp only [List.mem_cons, List.not_mem_nil, or_false] at hz0m
    omega
  have hbHl : bG < bH := by omega
  clear hr8 ht8 HI7 HC7 HW7 HW6 hz0m
  go_wp2
  go_loopw [6] (fun u wr => ∃ (z : Int) (Q l : Nat) (Sv : Value) (hs : List (List Int)), 0 ≤ z ∧ z ≤ 9 ∧ u = .int .i64 z ∧ Q + 30 * z.toNat ≤ P + 2900 ∧ 1 ≤ l ∧ (l : Int) + z ≤ 10 ∧ Hid (∀ x ∈ hs, x.length ≤ 11) ∧ Hid (HsI g w.heap.size bG bH A n c bs Q w (.slice (some ⟨gn, 0, none⟩) k cg) k gs Sv l hs 0 wr)) (fun u _ => (intOf u).toNat)
  case atStart => exact ⟨z0, P + 2521, 1, _, _, by omega, by omega, rfl, by omega, by omega, by omega, HD1.out, HI8.out⟩
  case round =>
    obtain ⟨z, Q, l, Sv, hs', hz1, hz2, rfl, hQ, hl1, hlz, HX, HI9⟩ := hrel
    obtain ⟨wk, hwk⟩ : ∃ W, W = wr := ⟨_, rfl⟩
    rw [← hwk]
    rw [← hwk] at HI9
    clear hwk HI8
    obtain ⟨sg, cap, hSv, hlc⟩ := HI9.out.pos hl1
    subst hSv
    have hg1 := HI9.out.gs_
    have hg2 := HI9.out.sG
    have hg3 := HI9.out.GH
    have qk := HI9.out.gb.it
    have c0 := HI9.out.hb.c 0 _ rfl
    have c1 := HI9.out.hb.c 1 _ rfl
    by_cases hzz : 0 < z
    · go_wp2
      obtain ⟨wd, hwd⟩ : ∃ W, W = wk.drew := ⟨_, rfl⟩
      have HId : Hid (HsI g w.heap.size bG bH A n c bs Q w (.slice (some ⟨gn, 0, none⟩) k cg) k gs (.slice (some ⟨sg, 0, none⟩) l cap) l hs' 0 wd) := by rw [hwd]; exact HI9.out.drew
      have e0 : wd.cell? ⟨bH, 0, none⟩ = some (.slice (some ⟨sg, 0, none⟩) l cap) := by rw [hwd]; exact c0
      have qd : wd.cell? ⟨bG, 0, none⟩ = some (.slice (some ⟨gn, 0, none⟩) k cg) := by rw [hwd]; exact qk
      refine wp_region_held_drew (S := fun w' => w'.cell? ⟨bG, 0, none⟩ = some (.slice (some ⟨gn, 0, none⟩) k cg)) (by kernel_rfl) qk (fun hHeld => ?_)
      clear hHeld qk c0 c1
      rw [← hwd]
      have hHeld : wd.cell? ⟨bG, 0, none⟩ = some (.slice (some ⟨gn, 0, none⟩) k cg) := qd
      clear hwd HI9
      refine wpAnyH_take (i := 0) (oi := ⟨some 21, _, _, _, _, _⟩) (v := ?_) rfl (by kernel_rfl) (by kernel_rfl) (by kernel_rfl) (fun _ _ _ h => h) (Or.inl ⟨by rfl, ?_⟩) (by assumption) ?_; rotate_left; (focus (intro w hSw; (try dsimp only at hSw); go_simp; (try with_reducible rfl))); (try simp only [Act.put, List.setIfInBounds_toArray, List.set_cons_zero, List.set_cons_succ])
      refine wpAnyH_take (i := 2) (oi := ⟨some 23, _, _, _, _, _⟩) (v := ?_) rfl (by kernel_rfl) (by kernel_rfl) (by kernel_rfl) (fun _ _ _ h => h) (Or.inl ⟨by rfl, ?_⟩) (by assumption) ?_; rotate_left; (focus (intro w hSw; (try dsimp only at hSw); go_simp; (try with_reducible rfl))); (try simp only [Act.put, List.setIfInBounds_toArray, List.set_cons_zero, List.set_cons_succ])
      refine wpAnyH_take (i := 3) (oi := ⟨some 24, _, _, _, _, _⟩) (v := ?_) rfl (by kernel_rfl) (by kernel_rfl) (by kernel_rfl) (fun _ _ _ h => h) (Or.inl ⟨by rfl, ?_⟩) (by assumption) ?_; rotate_left; (focus (intro w hSw; (try dsimp only at hSw); go_simp; (try with_reducible rfl))); (try simp only [Act.put, List.setIfInBounds_toArray, List.set_cons_zero, List.set_cons_succ])
      refine wpAnyH_ready (rs := [1, 4]) (by kernel_rfl) (by simp) ?_; refine AllReadyH.cons (o := ⟨some 22, _, _, _, _, _⟩) rfl (fun K hK => ?_) (AllReadyH.cons (o := ⟨some 25, _, _, _, _, _⟩) rfl (fun K hK => ?_) AllReadyH.nil)
      · go_simp
        refine hK.out _ _ qd (fun hHeld => ?_); clear hK K; (try simp only [Act.put, List.setIfInBounds_toArray, List.set_cons_zero, List.set_cons_succ])
        refine wpAnyH_ready (rs := [4]) (by kernel_rfl) (by simp) ?_; refine AllReadyH.cons (o := ⟨some 25, _, _, _, _, _⟩) rfl (fun K hK => ?_) AllReadyH.nil; go_simp
        go_at_call 65
        refine (goodCells_any g A n c bs Q (some ⟨gn, 0, none⟩) k cg (w.heap.size + 2) bG gs wd HId.out.rd HN.out hby hs (by omega) HId.out.gr (by omega) (by omega) hk10).mono ?_
        rintro e w5 ⟨v5, D, rfl, hd1, hd2, hown5, hr5, ht5⟩
        obtain ⟨g5, c5, hv5⟩ : ∃ g5 c5, v5 = .slice (some ⟨g5, 0, none⟩) D.length c5 := by
          rcases hown5.2 with ⟨_, hz⟩ | ⟨g', cap, cur, hv, _⟩
          · omega
          · exact ⟨g', cap, hv⟩
        subst hv5
        unfold OwnI at hown5
        have HO5 := Lib.hid hown5
        have HR5 := Lib.hid hr5
        have HT5 := Lib.hid ht5
        have HP5 := Lib.hid (HId.out.pick hr5 ht5)
        have q5 := HP5.out.gb.it
        have e5 := HP5.out.hb.c 0 _ rfl
        obtain ⟨-, vs, hrow, hss⟩ := HId.out.own
        have HROW := Lib.hid hrow
        have HSS := Lib.hid hss
        have hz5 := ht5.size
        have hzb5 := HId.out.gb.le
        have HROW5 := Lib.hid (hrow.keep (w' := w5) fun q a b => ht5.block q b (by omega))
        clear hown5 hr5 ht5 hrow hss qd
        refine hK.out _ _ q5 (fun hHeld => ?_); clear hK K; (try simp only [Act.put, List.setIfInBounds_toArray, List.set_cons_zero, List.set_cons_succ])
        refine wpAnyH_ready (rs := [5]) (by kernel_rfl) (by simp) ?_; refine AllReadyH.cons (o := ⟨some 26, _, _, _, _, _⟩) rfl (fun K hK => ?_) AllReadyH.nil; go_simp
        have q6 := (HP5.out.alloc (.cells #[.slice (some ⟨g5, 0, none⟩) D.length c5] 33)).gb.it
        have e6 := (HP5.out.alloc (.cells #[.slice (some ⟨g5, 0, none⟩) D.length c5] 33)).hb.c 0 _ rfl
        refine hK.out _ _ q6 (fun hHeld => ?_); clear hK K; (try simp only [Act.put, List.setIfInBounds_toArray, List.set_cons_zero, List.set_cons_succ])
        refine wpAnyH_ready (rs := [6]) (by kernel_rfl) (by simp) ?_; refine AllReadyH.cons (o := ⟨some 27, _, _, _, _, _⟩) rfl (fun K hK => ?_) AllReadyH.nil
        refine step_append_lies _ (by rfl) _ _ _ (by rfl) (bG + 1) 33 i1 (.slice none 0 0) 1 24 Try.underlying26 hi iz0 iz1 iz2 rfl (by omega) (.slice (some ⟨sg, 0, none⟩) l cap) l _ (by rfl) (HROW5.out.1.alloc _) ⟨w5.heap.size, 0, none⟩ 1 1 [.slice (some ⟨g5, 0, none⟩) D.length c5] (by rfl) (by rfl) (cells_new _ _ _ _ rfl) (by simp [Value.oneCell']) (by omega) (by unfold maxLen; omega) (by omega) (by simp; omega) (w5.heap.size + 1) (by simp) ?_
        intro gg cap' w8 hown8 hgrow8 hat8 hlt8
        have hgr8 : (w5.alloc (.cells #[.slice (some ⟨g5, 0, none⟩) D.length c5] 33)).grownBy w8 (Value.slice (some ⟨sg, 0, none⟩) l cap).ownBlock := ⟨hgrow8.os, hgrow8.tape, hgrow8.output, hgrow8.size, hgrow8.block⟩
        have HA8 := Lib.hid (HId.out.after HT5.out HROW.out hgr8)
        have HI10 := Lib.hid (HId.out.snoc HT5.out HR5.out HO5.out rfl HROW.out HSS.out hown8 hgr8)
        have q8 := HA8.out.2
        have e8 := HA8.out.1.c 0 _ rfl
        have f8 := HA8.out.1.f 0
        clear hown8 hgrow8 hgr8 hat8 hlt8 q6 e6
        refine hK.out _ _ q8 (fun hHeld => ?_); clear hK K; (try simp only [Act.put, List.setIfInBounds_toArray, List.set_cons_zero, List.set_cons_succ])
        refine wpAnyH_take (i := 7) (oi := ⟨some 28, _, _, _, _, _⟩) (v := ?_) rfl (by kernel_rfl) (by kernel_rfl) (by kernel_rfl) (fun _ _ _ h => h) (Or.inl ⟨by rfl, ?_⟩) (by assumption) ?_; rotate_left; (focus (intro w hSw; (try dsimp only at hSw); go_simp; (try with_reducible rfl))); (try simp only [Act.put, List.setIfInBounds_toArray, List.set_cons_zero, List.set_cons_succ])
        refine wpAnyH_ready (rs := [8]) (by kernel_rfl) (by simp) ?_; refine AllReadyH.cons (o := ⟨none, _, _, _, _, _⟩) rfl (fun K hK => ?_) AllReadyH.nil; go_simp
        obtain ⟨w9, hw9⟩ : ∃ W, W = w8.setCell ⟨bH, 0, none⟩ (.slice (some ⟨gg, 0, none⟩) (l + 1) cap') := ⟨_, rfl⟩
        rw [← hw9] at HI10 ⊢
        clear hw9 q8 e8 f8 HA8
        have q9 := HI10.out.gb.it
        refine hK.out _ _ q9 (fun hHeld => ?_); clear hK K; (try simp only [Act.put, List.setIfInBounds_toArray, List.set_cons_zero, List.set_cons_succ])
        refine wpAnyH_done (by kernel_rfl) ?_ _
        have HX9 : Hid (∀ x ∈ hs' ++ [D], x.length ≤ 11) := by
          intro x hx
          rcases List.mem_append.1 hx with hx | hx
          · exact HX.out x hx
          · simp at hx; subst hx; omega
        go_wp2
        go_roundw
        case rel => exact ⟨z - 1, Q + 20, l + 1, _, hs' ++ [D], by omega, by omega, by go_num, by omega, by omega, by omega, HX9.out, HI10.out⟩
        case measure => simp [intOf]; omega
      · go_simp
        go_at_call 65
        refine (goodCells_any g A n c bs Q (some ⟨gn, 0, none⟩) k cg (w.heap.size + 2) bG gs wd HId.out.rd HN.out hby hs (by omega) HId.out.gr (by omega) (by omega) hk10).mono ?_
        rintro e w5 ⟨v5, D, rfl, hd1, hd2, hown5, hr5, ht5⟩
        obtain ⟨g5, c5, hv5⟩ : ∃ g5 c5, v5 = .slice (some ⟨g5, 0, none⟩) D.length c5 := by
          rcases hown5.2 with ⟨_, hz⟩ | ⟨g', cap, cur, hv, _⟩
          · omega
          · exact ⟨g', cap, hv⟩
        subst hv5
        unfold OwnI at hown5
        have HO5 := Lib.hid hown5
        have HR5 := Lib.hid hr5
        have HT5 := Lib.hid ht5
        have HP5 := Lib.hid (HId.out.pick hr5 ht5)
        have q5 := HP5.out.gb.it
        have e5 := HP5.out.hb.c 0 _ rfl
        obtain ⟨-, vs, hrow, hss⟩ := HId.out.own
        have HROW := Lib.hid hrow
        have HSS := Lib.hid hss
        have hz5 := ht5.size
        have hzb5 := HId.out.gb.le
        have HROW5 := Lib.hid (hrow.keep (w' := w5) fun q a b => ht5.block q b (by omega))
        clear hown5 hr5 ht5 hrow hss qd
        refine hK.out _ _ q5 (fun hHeld => ?_); clear hK K; (try simp only [Act.put, List.setIfInBounds_toArray, List.set_cons_zero, List.set_cons_succ])
        refine wpAnyH_ready (rs := [1, 5]) (by kernel_rfl) (by simp) ?_; refine AllReadyH.cons (o := ⟨some 22, _, _, _, _, _⟩) rfl (fun K hK => ?_) (AllReadyH.cons (o := ⟨some 26, _, _, _, _, _⟩) rfl (fun K hK => ?_) AllReadyH.nil)
        · go_simp
          refine hK.out _ _ q5 (fun hHeld => ?_); clear hK K; (try simp only [Act.put, List.setIfInBounds_toArray, List.set_cons_zero, List.set_cons_succ])
          refine wpAnyH_ready (rs := [5]) (by kernel_rfl) (by simp) ?_; refine AllReadyH.cons (o := ⟨some 26, _, _, _, _, _⟩) rfl (fun K hK => ?_) AllReadyH.nil; go_simp
          have q6 := (HP5.out.alloc (.cells #[.slice (some ⟨g5, 0, none⟩) D.length c5] 33)).gb.it
          have e6 := (HP5.out.alloc (.cells #[.slice (some ⟨g5, 0, none⟩) D.length c5] 33)).hb.c 0 _ rfl
          refine hK.out _ _ q6 (fun hHeld => ?_); clear hK K; (try simp only [Act.put, List.setIfInBounds_toArray, List.set_cons_zero, List.set_cons_succ])
          refine wpAnyH_ready (rs := [6]) (by kernel_rfl) (by simp) ?_; refine AllReadyH.cons (o := ⟨some 27, _, _, _, _, _⟩) rfl (fun K hK => ?_) AllReadyH.nil
          refine step_append_lies _ (by rfl) _ _ _ (by rfl) (bG + 1) 33 i1 (.slice none 0 0) 1 24 Try.underlying26 hi iz0 iz1 iz2 rfl (by omega) (.slice (some ⟨sg, 0, none⟩) l cap) l _ (by rfl) (HROW5.out.1.alloc _) ⟨w5.heap.size, 0, none⟩ 1 1 [.slice (some ⟨g5, 0, none⟩) D.length c5] (by rfl) (by rfl) (cells_new _ _ _ _ rfl) (by simp [Value.oneCell']) (by omega) (by unfold maxLen; omega) (by omega) (by simp; omega) (w5.heap.size + 1) (by simp) ?_
          intro gg cap' w8 hown8 hgrow8 hat8 hlt8
          have hgr8 : (w5.alloc (.cells #[.slice (some ⟨g5, 0, none⟩) D.length c5] 33)).grownBy w8 (Value.slice (some ⟨sg, 0, none⟩) l cap).ownBlock := ⟨hgrow8.os, hgrow8.tape, hgrow8.output, hgrow8.size, hgrow8.block⟩
          have HA8 := Lib.hid (HId.out.after HT5.out HROW.out hgr8)
          have HI10 := Lib.hid (HId.out.snoc HT5.out HR5.out HO5.out rfl HROW.out HSS.out hown8 hgr8)
          have q8 := HA8.out.2
          have e8 := HA8.out.1.c 0 _ rfl
          have f8 := HA8.out.1.f 0
          clear hown8 hgrow8 hgr8 hat8 hlt8 q6 e6
          refine hK.out _ _ q8 (fun hHeld => ?_); clear hK K; (try simp only [Act.put, List.setIfInBounds_toArray, List.set_cons_zero, List.set_cons_succ])
          refine wpAnyH_take (i := 7) (oi := ⟨some 28, _, _, _, _, _⟩) (v := ?_) rfl (by kernel_rfl) (by kernel_rfl) (by kernel_rfl) (fun _ _ _ h => h) (Or.inl ⟨by rfl, ?_⟩) (by assumption) ?_; rotate_left; (focus (intro w hSw; (try dsimp only at hSw); go_simp; (try with_reducible rfl))); (try simp only [Act.put, List.setIfInBounds_toArray, List.set_cons_zero, List.set_cons_succ])
          refine wpAnyH_ready (rs := [8]) (by kernel_rfl) (by simp) ?_; refine AllReadyH.cons (o := ⟨none, _, _, _, _, _⟩) rfl (fun K hK => ?_) AllReadyH.nil; go_simp
          obtain ⟨w9, hw9⟩ : ∃ W, W = w8.setCell ⟨bH, 0, none⟩ (.slice (some ⟨gg, 0, none⟩) (l + 1) cap') := ⟨_, rfl⟩
          rw [← hw9] at HI10 ⊢
          clear hw9 q8 e8 f8 HA8
          have q9 := HI10.out.gb.it
          refine hK.out _ _ q9 (fun hHeld => ?_); clear hK K; (try simp only [Act.put, List.setIfInBounds_toArray, List.set_cons_zero, List.set_cons_succ])
          refine wpAnyH_done (by kernel_rfl) ?_ _
          have HX9 : Hid (∀ x ∈ hs' ++ [D], x.length ≤ 11) := by
            intro x hx
            rcases List.mem_append.1 hx with hx | hx
            · exact HX.out x hx
            · simp at hx; subst hx; omega
          go_wp2
          go_roundw
          case rel => exact ⟨z - 1, Q + 20, l + 1, _, hs' ++ [D], by omega, by omega, by go_num, by omega, by omega, by omega, HX9.out, HI10.out⟩
          case measure => simp [intOf]; omega
        · go_simp
          have q6 := (HP5.out.alloc (.cells #[.slice (some ⟨g5, 0, none⟩) D.length c5] 33)).gb.it
          have e6 := (HP5.out.alloc (.cells #[.slice (some ⟨g5, 0, none⟩) D.length c5] 33)).hb.c 0 _ rfl
          refine hK.out _ _ q6 (fun hHeld => ?_); clear hK K; (try simp only [Act.put, List.setIfInBounds_toArray, List.set_cons_zero, List.set_cons_succ])
          refine wpAnyH_ready (rs := [1]) (by kernel_rfl) (by simp) ?_; refine AllReadyH.cons (o := ⟨some 22, _, _, _, _, _⟩) rfl (fun K hK => ?_) AllReadyH.nil; go_simp
          refine hK.out _ _ q6 (fun hHeld => ?_); clear hK K; (try simp only [Act.put, List.setIfInBounds_toArray, List.set_cons_zero, List.set_cons_succ])
          refine wpAnyH_ready (rs := [6]) (by kernel_rfl) (by simp) ?_; refine AllReadyH.cons (o := ⟨some 27, _, _, _, _, _⟩) rfl (fun K hK => ?_) AllReadyH.nil
          refine step_append_lies _ (by rfl) _ _ _ (by rfl) (bG + 1) 33 i1 (.slice none 0 0) 1 24 Try.underlying26 hi iz0 iz1 iz2 rfl (by omega) (.slice (some ⟨sg, 0, none⟩) l cap) l _ (by rfl) (HROW5.out.1.alloc _) ⟨w5.heap.size, 0, none⟩ 1 1 [.slice (some ⟨g5, 0, none⟩) D.length c5] (by rfl) (by rfl) (cells_new _ _ _ _ rfl) (by simp [Value.oneCell']) (by omega) (by unfold maxLen; omega) (by omega) (by simp; omega) (w5.heap.size + 1) (by simp) ?_
          intro gg cap' w8 hown8 hgrow8 hat8 hlt8
          have hgr8 : (w5.alloc (.cells #[.slice (some ⟨g5, 0, none⟩) D.length c5] 33)).grownBy w8 (Value.slice (some ⟨sg, 0, none⟩) l cap).ownBlock := ⟨hgrow8.os, hgrow8.tape, hgrow8.output, hgrow8.size, hgrow8.block⟩
          have HA8 := Lib.hid (HId.out.after HT5.out HROW.out hgr8)
          have HI10 := Lib.hid (HId.out.snoc HT5.out HR5.out HO5.out rfl HROW.out HSS.out hown8 hgr8)
          have q8 := HA8.out.2
          have e8 := HA8.out.1.c 0 _ rfl
          have f8 := HA8.out.1.f 0
          clear hown8 hgrow8 hgr8 hat8 hlt8 q6 e6
          refine hK.out _ _ q8 (fun hHeld => ?_); clear hK K; (try simp only [Act.put, List.setIfInBounds_toArray, List.set_cons_zero, List.set_cons_succ])
          refine wpAnyH_take (i := 7) (oi := ⟨some 28, _, _, _, _, _⟩) (v := ?_) rfl (by kernel_rfl) (by kernel_rfl) (by kernel_rfl) (fun _ _ _ h => h) (Or.inl ⟨by rfl, ?_⟩) (by assumption) ?_; rotate_left; (focus (intro w hSw; (try dsimp only at hSw); go_simp; (try with_reducible rfl))); (try simp only [Act.put, List.setIfInBounds_toArray, List.set_cons_zero, List.set_cons_succ])
          refine wpAnyH_ready (rs := [8]) (by kernel_rfl) (by simp) ?_; refine AllReadyH.cons (o := ⟨none, _, _, _, _, _⟩) rfl (fun K hK => ?_) AllReadyH.nil; go_simp
          obtain ⟨w9, hw9⟩ : ∃ W, W = w8.setCell ⟨bH, 0, none⟩ (.slice (some ⟨gg, 0, none⟩) (l + 1) cap') := ⟨_, rfl⟩
          rw [← hw9] at HI10 ⊢
          clear hw9 q8 e8 f8 HA8
          have q9 := HI10.out.gb.it
          refine hK.out _ _ q9 (fun hHeld => ?_); clear hK K; (try simp only [Act.put, List.setIfInBounds_toArray, List.set_cons_zero, List.set_cons_succ])
          refine wpAnyH_done (by kernel_rfl) ?_ _
          have HX9 : Hid (∀ x ∈ hs' ++ [D], x.length ≤ 11) := by
            intro x hx
            rcases List.mem_append.1 hx with hx | hx
            · exact HX.out x hx
            · simp at hx; subst hx; omega
          go_wp2
          go_roundw
          case rel => exact ⟨z - 1, Q + 20, l + 1, _, hs' ++ [D], by omega, by omega, by go_num, by omega, by omega, by omega, HX9.out, HI10.out⟩
          case measure => simp [intOf]; omega
    · go_wp2_with fail
      refine (pick_any g A n c bs Q l wk HI9.out.rd HN.out hby hs (by omega) (by omega)).mono ?_
      rintro e w10 ⟨y0, rfl, hy1, hy2, hr10, ht10⟩
      have hyl : (y0 : Int) < l := hy1 (by omega)
      have HI10 := Lib.hid (HI9.out.pick hr10 ht10)
      have q10 := HI10.out.hb.c 1 _ rfl
      have f10 := HI10.out.hb.f 1
      clear hr10 ht10 HI9 c0 c1 qk hy1 hy2
      go_wp2_with fail
      obtain ⟨w11, hw11⟩ : ∃ W, W = w10.setCell ⟨bH, 1, none⟩ (.int .i64 y0) := ⟨_, rfl⟩
      have HI11 := Lib.hid (HI10.out.at_ (y0 : Int))
      rw [← hw11] at HI11
      rw [← hw11]
      clear hw11 HI10 q10 f10
      refine (pick_any g A n c bs (Q + 1) 16 w11 HI11.out.rd HN.out hby hs (by omega) (by omega)).mono ?_
      rintro e w12 ⟨x, rfl, _, _, hr12, ht12⟩
      have HI12 := Lib.hid (HI11.out.pick hr12 ht12)
      clear hr12 ht12 HI11
      by_cases hx0 : x = 0
      · subst hx0
        obtain ⟨w13, hw13⟩ : ∃ W, W = w12.alloc (.cells #[.int .i64 (-1), .int .i64 10] 3) := ⟨_, rfl⟩
        have HI13 : Hid (HsI g w.heap.size bG bH A n c bs (Q + 1 + 1) w (.slice (some ⟨gn, 0, none⟩) k cg) k gs (.slice (some ⟨sg, 0, none⟩) l cap) l hs' (y0 : Int) w13) := by rw [hw13]; exact HI12.out.alloc _
        have hc13 : Hid (∀ j, j < 2 → w13.cell? ⟨w12.heap.size, 0 + j, none⟩ = some (.int .i64 ([-1, 10].getD j 0))) := by
          intro j hj
          have : j = 0 ∨ j = 1 := by omega
          rw [hw13]
          rcases this with rfl | rfl <;> go_simp
        have hs13 : w13.heap.size = w12.heap.size + 1 := by rw [hw13]; simp
        have hg12 := HI12.out.rd.lt
        go_wp2_with fail
        rw [← hw13]
        refine (one_any g A n c bs (Q + 2) w12.heap.size 0 2 2 [-1, 10] w13 (HI13.out.mono (Nat.le_refl _)).rd HN.out hby hs (by omega) rfl (by omega) (by omega) hc13.out (by omega) (by omega)).mono ?_
        rintro e w14 ⟨y1, rfl, hy1m, hr14, ht14⟩
        have hy19 : -1 ≤ y1 ∧ y1 ≤ 10 := by
          simp only [List.mem_cons, List.not_mem_nil, or_false] at hy1m
          omega
        have HI14 := Lib.hid (HI13.out.pick hr14 ht14)
        have q14 := HI14.out.hb.c 1 _ rfl
        have f14 := HI14.out.hb.f 1
        clear hr14 ht14 HI13 hc13 hw13 HI12 hy1m
        go_wp2_with fail
        obtain ⟨wF, hwF⟩ : ∃ W, W = w14.setCell ⟨bH, 1, none⟩ (.int .i64 y1) := ⟨_, rfl⟩
        have HIF := Lib.hid (HI14.out.at_ y1)
        rw [← hwF] at HIF
        rw [← hwF]
        have HXF := HX
        have hyF1 := hy19.1
        have hyF2 := hy19.2
        clear hwF HI14 q14 f14
        have cF := HIF.out.gb.it
        have c0 := HIF.out.hb.c 0 _ rfl
        have c1 := HIF.out.hb.c 1 _ rfl
        have d0 := HIF.out.ra.c 0 _ rfl
        have d1 := HIF.out.rb.c 0 _ rfl
        have d2 := HIF.out.rb.c 1 _ rfl
        have f0 := HIF.out.ra.f 0
        have f1 := HIF.out.rb.f 0
        have f2 := HIF.out.rb.f 1
        go_wp2
        go_region
        go_wp2
        obtain ⟨xf, hxf⟩ : ∃ X, X = (((wF.setCell ⟨w.heap.size, 0, none⟩ (.slice (some ⟨gn, 0, none⟩) k cg)).setCell ⟨w.heap.size + 1, 0, none⟩ (.slice (some ⟨sg, 0, none⟩) l cap)).setCell ⟨w.heap.size + 1, 1, none⟩ (.int .i64 y1)).drew := ⟨_, rfl⟩
        rw [← hxf]
        have r0 : xf.cell? ⟨w.heap.size, 0, none⟩ = some (.slice (some ⟨gn, 0, none⟩) k cg) := by
          rw [hxf]
          exact (World.cell?_setCell_other _ _ _ _ (by intro e; have := congrArg Addr.block e; simp at this)).trans ((World.cell?_setCell_other _ _ _ _ (by intro e; have := congrArg Addr.block e; simp at this)).trans (World.cell?_setCell_same _ _ _ d0))
        have r1 : xf.cell? ⟨w.heap.size + 1, 0, none⟩ = some (.slice (some ⟨sg, 0, none⟩) l cap) := by
          rw [hxf]
          exact (World.cell?_setCell_other _ _ _ _ (by intro e; have := congrArg Addr.off e; simp at this)).trans (World.cell?_setCell_same _ _ _ ((World.cell?_setCell_other _ _ _ _ (by intro e; have := congrArg Addr.block e; simp at this)).trans d1))
        have r2 : xf.cell? ⟨w.heap.size + 1, 1, none⟩ = some (.int .i64 y1) := by
          rw [hxf]
          exact World.cell?_setCell_same _ _ _ ((World.cell?_setCell_other _ _ _ _ (by intro e; have := congrArg Addr.off e; simp at this)).trans ((World.cell?_setCell_other _ _ _ _ (by intro e; have := congrArg Addr.block e; simp at this)).trans d2))
        refine bodyPost_ret (v := .tuple #[.agg #[.slice (some ⟨gn, 0, none⟩) k cg], .agg #[.slice (some ⟨sg, 0, none⟩) l cap, .int .i64 y1]]) (by simp [results, Try.results31, go_sem, r0, r1, r2]) rfl ?_
        exact (HIF.out.mono (by omega)).fin hk2 hk10 hsm hl1 (by omega) HXF.out hyF1 hyF2 hxf
      · by_cases hx1 : x = 1
        · subst hx1
          have qa := HI12.out.hb.c 0 _ rfl
          have qb := HI12.out.gb.it
          go_wp2_with fail
          obtain ⟨wd, hwd⟩ : ∃ W, W = w12.drew := ⟨_, rfl⟩
          have HId : Hid (HsI g w.heap.size bG bH A n c bs (Q + 1 + 1) w (.slice (some ⟨gn, 0, none⟩) k cg) k gs (.slice (some ⟨sg, 0, none⟩) l cap) l hs' (y0 : Int) wd) := by rw [hwd]; exact HI12.out.drew
          have e0 : wd.cell? ⟨bH, 0, none⟩ = some (.slice (some ⟨sg, 0, none⟩) l cap) := by rw [hwd]; exact qa
          have qd : wd.cell? ⟨bG, 0, none⟩ = some (.slice (some ⟨gn, 0, none⟩) k cg) := by rw [hwd]; exact qb
          refine wp_region_held_drew (S := fun w' => w'.cell? ⟨bG, 0, none⟩ = some (.slice (some ⟨gn, 0, none⟩) k cg) ∧ w'.cell? ⟨bH, 0, none⟩ = some (.slice (some ⟨sg, 0, none⟩) l cap)) (by kernel_rfl) ⟨qb, qa⟩ (fun hHeld => ?_)
          clear hHeld qa qb
          rw [← hwd]
          have hHeld : wd.cell? ⟨bG, 0, none⟩ = some (.slice (some ⟨gn, 0, none⟩) k cg) ∧ wd.cell? ⟨bH, 0, none⟩ = some (.slice (some ⟨sg, 0, none⟩) l cap) := ⟨qd, e0⟩
          clear hwd HI12
          refine wpAnyH_take (i := 0) (oi := ⟨some 45, _, _, _, _, _⟩) (v := ?_) rfl (by kernel_rfl) (by kernel_rfl) (by kernel_rfl) (fun _ _ _ h => h) (Or.inl ⟨by rfl, ?_⟩) (by assumption) ?_; rotate_left; (focus (intro w hSw; (try dsimp only at hSw); go_simp; (try with_reducible rfl))); (try simp only [Act.put, List.setIfInBounds_toArray, List.set_cons_zero, List.set_cons_succ])
          refine wpAnyH_take (i := 1) (oi := ⟨some 46, _, _, _, _, _⟩) (v := ?_) rfl (by kernel_rfl) (by kernel_rfl) (by kernel_rfl) (fun _ _ _ h => h) (Or.inl ⟨by rfl, ?_⟩) (by assumption) ?_; rotate_left; (focus (intro w hSw; (try dsimp only at hSw); go_simp; (try with_reducible rfl))); (try simp only [Act.put, List.setIfInBounds_toArray, List.set_cons_zero, List.set_cons_succ])
          refine wpAnyH_take (i := 2) (oi := ⟨some 47, _, _, _, _, _⟩) (v := ?_) rfl (by kernel_rfl) (by kernel_rfl) (by kernel_rfl) (fun _ _ _ h => h) (Or.inl ⟨by rfl, ?_⟩) (by assumption) ?_; rotate_left; (focus (intro w hSw; (try dsimp only at hSw); go_simp; (try with_reducible rfl))); (try simp only [Act.put, List.setIfInBounds_toArray, List.set_cons_zero, List.set_cons_succ])
          refine wpAnyH_take (i := 3) (oi := ⟨some 48, _, _, _, _, _⟩) (v := ?_) rfl (by kernel_rfl) (by kernel_rfl) (by kernel_rfl) (fun _ _ _ h => h) (Or.inl ⟨by rfl, ?_⟩) (by assumption) ?_; rotate_left; (focus (intro w hSw; (try dsimp only at hSw); go_simp; (try with_reducible rfl))); (try simp only [Act.put, List.setIfInBounds_toArray, List.set_cons_zero, List.set_cons_succ])
          refine wpAnyH_ready (rs := [4]) (by kernel_rfl) (by simp) ?_; refine AllReadyH.cons (o := ⟨some 49, _, _, _, _, _⟩) rfl (fun K hK => ?_) AllReadyH.nil; go_simp
          go_at_call 43
          refine (someCells_any g A n c bs (Q + 2) (some ⟨gn, 0, none⟩) k cg (w.heap.size + 2) bG gs wd HId.out.rd HN.out hby hs (by omega) HId.out.gr (by omega) (by omega) hk10).mono ?_
          rintro e w5 ⟨v5, D, rfl, hd1, hd2, hown5, hr5, ht5⟩
          obtain ⟨A5, c5, rfl, _⟩ := OwnI.form hown5
          unfold OwnI at hown5
          have HP5 := Lib.hid (HId.out.pick hr5 ht5)
          have HI15 := Lib.hid (HId.out.put0 hl1 ht5 hr5 hown5 rfl)
          obtain ⟨-, vs, hrow, -⟩ := HP5.out.own
          have q5 := HP5.out.gb.it
          have e5 := HP5.out.hb.c 0 _ rfl
          have hvl : vs.length = l := by have := hrow.1.1; omega
          have p5 := hrow.1.cellAt 0 (by omega)
          rw [List.getElem?_eq_getElem (by omega)] at p5
          have f5 := hrow.1.frozenAt 0
          generalize vs[0]'_ = vv at p5
          have hl0 : 0 < l := by omega
          clear hown5 hr5 ht5 hrow
          refine hK.out _ _ ⟨q5, e5⟩ (fun hHeld => ?_); clear hK K; (try simp only [Act.put, List.setIfInBounds_toArray, List.set_cons_zero, List.set_cons_succ])
          refine wpAnyH_take (i := 5) (oi := ⟨some 50, _, _, _, _, _⟩) (v := ?_) rfl (by kernel_rfl) (by kernel_rfl) (by kernel_rfl) (fun _ _ _ h => h) (Or.inl ⟨by rfl, ?_⟩) (by assumption) ?_; rotate_left; (focus (intro w hSw; (try dsimp only at hSw); go_simp; (try with_reducible rfl))); (try simp only [Act.put, List.setIfInBounds_toArray, List.set_cons_zero, List.set_cons_succ])
          refine wpAnyH_ready (rs := [6]) (by kernel_rfl) (by simp) ?_; refine AllReadyH.cons (o := ⟨none, _, _, _, _, _⟩) rfl (fun K hK => ?_) AllReadyH.nil; go_simp
          obtain ⟨wF, hwF⟩ : ∃ W, W = w5.setCell ⟨sg, 0, none⟩ (.slice A5 D.length c5) := ⟨_, rfl⟩
          rw [← hwF] at HI15 ⊢
          have HIF := HI15
          have HXF : Hid (∀ x ∈ hs'.set 0 D, x.length ≤ 11) := by
            intro x hx
            rcases List.mem_or_eq_of_mem_set hx with hx | hx
            · exact HX.out x hx
            · subst hx; omega
          have hyF1 : (-1 : Int) ≤ y0 := by omega
          have hyF2 : (y0 : Int) ≤ 10 := by omega
          clear hwF HI15 q5 e5 p5 f5 HP5 HId
          have qF := HIF.out.gb.it
          have eF := HIF.out.hb.c 0 _ rfl
          refine hK.out _ _ ⟨qF, eF⟩ (fun hHeld => ?_); clear hK K; (try simp only [Act.put, List.setIfInBounds_toArray, List.set_cons_zero, List.set_cons_succ])
          refine wpAnyH_done (by kernel_rfl) ?_ _
          have cF := HIF.out.gb.it
          have c0 := HIF.out.hb.c 0 _ rfl
          have c1 := HIF.out.hb.c 1 _ rfl
          have d0 := HIF.out.ra.c 0 _ rfl
          have d1 := HIF.out.rb.c 0 _ rfl
          have d2 := HIF.out.rb.c 1 _ rfl
          have f0 := HIF.out.ra.f 0
          have f1 := HIF.out.rb.f 0
          have f2 := HIF.out.rb.f 1
          go_wp2
          go_region
          go_wp2
          obtain ⟨xf, hxf⟩ : ∃ X, X = (((wF.setCell ⟨w.heap.size, 0, none⟩ (.slice (some ⟨gn, 0, none⟩) k cg)).setCell ⟨w.heap.size + 1, 0, none⟩ (.slice (some ⟨sg, 0, none⟩) l cap)).setCell ⟨w.heap.size + 1, 1, none⟩ (.int .i64 y0)).drew := ⟨_, rfl⟩
          rw [← hxf]
          have r0 : xf.cell? ⟨w.heap.size, 0, none⟩ = some (.slice (some ⟨gn, 0, none⟩) k cg) := by
            rw [hxf]
            exact (World.cell?_setCell_other _ _ _ _ (by intro e; have := congrArg Addr.block e; simp at this)).trans ((World.cell?_setCell_other _ _ _ _ (by intro e; have := congrArg Addr.block e; simp at this)).trans (World.cell?_setCell_same _ _ _ d0))
          have r1 : xf.cell? ⟨w.heap.size + 1, 0, none⟩ = some (.slice (some ⟨sg, 0, none⟩) l cap) := by
            rw [hxf]
            exact (World.cell?_setCell_other _ _ _ _ (by intro e; have := congrArg Addr.off e; simp at this)).trans (World.cell?_setCell_same _ _ _ ((World.cell?_setCell_other _ _ _ _ (by intro e; have := congrArg Addr.block e; simp at this)).trans d1))
          have r2 : xf.cell? ⟨w.heap.size + 1, 1, none⟩ = some (.int .i64 y0) := by
            rw [hxf]
            exact World.cell?_setCell_same _ _ _ ((World.cell?_setCell_other _ _ _ _ (by intro e; have := congrArg Addr.off e; simp at this)).trans ((World.cell?_setCell_other _ _ _ _ (by intro e; have := congrArg Addr.block e; simp at this)).trans d2))
          refine bodyPost_ret (v := .tuple #[.agg #[.slice (some ⟨gn, 0, none⟩) k cg], .agg #[.slice (some ⟨sg, 0, none⟩) l cap, .int .i64 y0]]) (by simp [results, Try.results31, go_sem, r0, r1, r2]) rfl ?_
          exact (HIF.out.mono (by omega)).fin hk2 hk10 hsm hl1 (by omega) HXF.out hyF1 hyF2 hxf
        · obtain ⟨wF, hwF⟩ : ∃ W, W = w12 := ⟨_, rfl⟩
          have HIF := HI12
          rw [← hwF] at HIF
          rw [← hwF]
          have HXF := HX
          have hyF1 : (-1 : Int) ≤ y0 := by omega
          have hyF2 : (y0 : Int) ≤ 10 := by omega
          clear hwF HI12
          have cF := HIF.out.gb.it
          have c0 := HIF.out.hb.c 0 _ rfl
          have c1 := HIF.out.hb.c 1 _ rfl
          have d0 := HIF.out.ra.c 0 _ rfl
          have d1 := HIF.out.rb.c 0 _ rfl
          have d2 := HIF.out.rb.c 1 _ rfl
          have f0 := HIF.out.ra.f 0
          have f1 := HIF.out.rb.f 0
          have f2 := HIF.out.rb.f 1
          go_wp2
          go_region
          go_wp2
          obtain ⟨xf, hxf⟩ : ∃ X, X = (((wF.setCell ⟨w.heap.size, 0, none⟩ (.slice (some ⟨gn, 0, none⟩) k cg)).setCell ⟨w.heap.size + 1, 0, none⟩ (.slice (some ⟨sg, 0, none⟩) l cap)).setCell ⟨w.heap.size + 1, 1, none⟩ (.int .i64 y0)).drew := ⟨_, rfl⟩
          rw [← hxf]
          have r0 : xf.cell? ⟨w.heap.size, 0, none⟩ = some (.slice (some ⟨gn, 0, none⟩) k cg) := by
            rw [hxf]
            exact (World.cell?_setCell_other _ _ _ _ (by intro e; have := congrArg Addr.block e; simp at this)).trans ((World.cell?_setCell_other _ _ _ _ (by intro e; have := congrArg Addr.block e; simp at this)).trans (World.cell?_setCell_same _ _ _ d0))
          have r1 : xf.cell? ⟨w.heap.size + 1, 0, none⟩ = some (.slice (some ⟨sg, 0, none⟩) l cap) := by
            rw [hxf]
            exact (World.cell?_setCell_other _ _ _ _ (by intro e; have := congrArg Addr.off e; simp at this)).trans (World.cell?_setCell_same _ _ _ ((World.cell?_setCell_other _ _ _ _ (by intro e; have := congrArg Addr.block e; simp at this)).trans d1))
          have r2 : xf.cell? ⟨w.heap.size + 1, 1, none⟩ = some (.int .i64 y0) := by
            rw [hxf]
            exact World.cell?_setCell_same _ _ _ ((World.cell?_setCell_other _ _ _ _ (by intro e; have := congrArg Addr.off e; simp at this)).trans ((World.cell?_setCell_other _ _ _ _ (by intro e; have := congrArg Addr.block e; simp at this)).trans d2))
          refine bodyPost_ret (v := .tuple #[.agg #[.slice (some ⟨gn, 0, none⟩) k cg], .agg #[.slice (some ⟨sg, 0, none⟩) l cap, .int .i64 y0]]) (by simp [results, Try.results31, go_sem, r0, r1, r2]) rfl ?_
          exact (HIF.out.mono (by omega)).fin hk2 hk10 hsm hl1 (by omega) HXF.out hyF1 hyF2 hxf
end Go.Proofs.Ytfooafnfdeofoaa
