/- The drawing of histories: what is kept on the way. -/
import Derived.Test.YtfooafnfdeofoaaD10
import Derived.Test.YtfooafnfdeofoaaH1

namespace Go.Proofs.Ytfooafnfdeofoaa
set_option linter.unusedSimpArgs false
set_option linter.unusedVariables false
open Go.RowKit

theorem Bx.keep {b : Nat} {vs : List Value} {w w' : World} (h : Bx b vs w) (e : w'.heap[b]? = w.heap[b]?) (hs : w.heap.size ≤ w'.heap.size) : Bx b vs w' :=
  ⟨Nat.lt_of_lt_of_le h.lt hs, fun j v hv => (World.cell?_of_block (a := ⟨b, j, none⟩) e).trans (h.c j v hv), fun j => (World.frozen?_of_block (a := ⟨b, j, none⟩) e).trans (h.f j)⟩

/-- The reader, a graph in its box, a history in its box, and the boxes of the answer. -/
structure HsI (g s bG bH : Nat) (A : Option Addr) (n c : Nat) (bs : List Int) (Q : Nat) (w0 : World) (V : Value) (k : Nat) (gs : List Nd) (Sv : Value) (l : Nat) (hs : List (List Int)) (y : Int) (X : World) : Prop where
  rd : Rdr g A n c bs Q X
  gr : As (s + 2) bG (OwG (s + 2) bG V k gs) X
  gb : As bG (bG + 1) (fun w' => w'.cell? ⟨bG, 0, none⟩ = some V) X
  hb : Bx bH [Sv, .int .i64 y] X
  ra : Bx s [.slice none 0 0] X
  rb : Bx (s + 1) [.slice none 0 0, .int .i64 0] X
  own : OwSS (bG + 1) X.heap.size Sv l hs X
  th : Tg bH 28 X
  fr : Frd g s w0 X
  gs_ : g < s
  sG : s + 2 ≤ bG
  GH : bG < bH

section
variable {g s bG bH n c Q Q' k l : Nat} {A : Option Addr} {bs : List Int} {w0 X X' : World} {V Sv Sv' : Value} {gs : List Nd} {hs : List (List Int)} {y : Int}
theorem HsI.keep (h : HsI g s bG bH A n c bs Q w0 V k gs Sv l hs y X) (hk : ∀ b, b < X.heap.size → b ≠ g → X'.heap[b]? = X.heap[b]?) (hz : X.heap.size ≤ X'.heap.size) (hr : Rdr g A n c bs Q' X') (hf : Frd g s w0 X') : HsI g s bG bH A n c bs Q' w0 V k gs Sv l hs y X' := by
  have h1 := h.gs_
  have h2 := h.sG
  have h3 := h.GH
  have h4 := h.gr.le
  have h5 := h.gb.le
  have h6 := h.hb.lt
  have h7 := h.rb.lt
  refine ⟨hr, h.gr.keep (fun q a b => hk q (by omega) (by omega)) hz, h.gb.keep (fun q a b => hk q (by omega) (by omega)) hz, h.hb.keep (hk _ (by omega) (by omega)) hz, h.ra.keep (hk _ (by omega) (by omega)) hz, h.rb.keep (hk _ (by omega) (by omega)) hz, ?_, h.th.keep (hk _ (by omega) (by omega)), hf, h1, h2, h3⟩
  exact (OwSS.loc _ _ _ _ _ _ _ h.own fun q a b => hk q b (by omega)).mono (Nat.le_refl _) hz
theorem HsI.pick (h : HsI g s bG bH A n c bs Q w0 V k gs Sv l hs y X) (hr : Rdr g A n c bs Q' X') (ht : Tch g (g + 1) X X') : HsI g s bG bH A n c bs Q' w0 V k gs Sv l hs y X' :=
  h.keep (fun b hb hg => ht.block b hb (by omega)) ht.size hr (h.fr.trans (Frd.of_tch ht (by have := h.rb.lt; omega)))
theorem HsI.below (h : HsI g s bG bH A n c bs Q w0 V k gs Sv l hs y X) (hb : Below X.heap.size X X') : HsI g s bG bH A n c bs Q w0 V k gs Sv l hs y X' :=
  h.keep (fun b hlt _ => hb.block b hlt) hb.size (h.rd.step hb) (h.fr.trans (Frd.of_below hb (by have := h.rb.lt; omega)))
theorem HsI.alloc (h : HsI g s bG bH A n c bs Q w0 V k gs Sv l hs y X) (o : Obj) : HsI g s bG bH A n c bs Q w0 V k gs Sv l hs y (X.alloc o) := h.below ((Below.refl _ _).alloc (Nat.le_refl _) o)
theorem HsI.mono (h : HsI g s bG bH A n c bs Q w0 V k gs Sv l hs y X) (hQ : Q ≤ Q') : HsI g s bG bH A n c bs Q' w0 V k gs Sv l hs y X :=
  ⟨h.rd.mono hQ, h.gr, h.gb, h.hb, h.ra, h.rb, h.own, h.th, h.fr, h.gs_, h.sG, h.GH⟩
theorem HsI.drew (h : HsI g s bG bH A n c bs Q w0 V k gs Sv l hs y X) : HsI g s bG bH A n c bs Q w0 V k gs Sv l hs y X.drew := h.below (Below.refl _ _).drew

/-- Where it is, is told. -/
theorem HsI.at_ (h : HsI g s bG bH A n c bs Q w0 V k gs Sv l hs y X) (z : Int) : HsI g s bG bH A n c bs Q w0 V k gs Sv l hs z (X.setCell ⟨bH, 1, none⟩ (.int .i64 z)) := by
  have h1 := h.gs_
  have h2 := h.sG
  have h3 := h.GH
  have h4 := h.gr.le
  have hz : (X.setCell ⟨bH, 1, none⟩ (.int .i64 z)).heap.size = X.heap.size := by simp [World.setCell]
  have hk : ∀ b, b ≠ bH → (X.setCell ⟨bH, 1, none⟩ (.int .i64 z)).heap[b]? = X.heap[b]? := fun b hb => Below.heap_setCell _ _ _ _ hb
  refine ⟨h.rd.set1 (by omega) 1 _, h.gr.keep (fun q a b => hk q (by omega)) (by omega), h.gb.keep (fun q a b => hk q (by omega)) (by omega), h.hb.set 1 (by simp) _, h.ra.other _ (by show s ≠ bH; omega) _, h.rb.other _ (by show s + 1 ≠ bH; omega) _, ?_, h.th.set _ _, ?_, h1, h2, h3⟩
  · rw [hz]; exact h.own.setT h.th (by decide) (by decide) 1 _
  · exact h.fr.trans (Frd.of_below (C := bH) ((Below.refl bH X).setCell (Nat.le_refl _) _) (by omega))

/-- One list more. -/
theorem HsI.snoc {D : List Int} {g7 m cc : Nat} {X7 X8 : World} {o : Obj} {vs : List Value} (h : HsI g s bG bH A n c bs Q w0 V k gs Sv l hs y X) (ht : Tch g (g + 1) X X7) (hr : Rdr g A n c bs Q' X7)
    (hd : X7.ownsRow X.heap.size 3 1 (.slice (some ⟨g7, 0, none⟩) m cc) m (D.map (Value.int .i64))) (hm : m = D.length) (hrow : OwR (bG + 1) X.heap.size 33 1 Sv l vs X) (hss : SSk (bG + 1) X.heap.size vs (lenOf hs) (rowOf hs) X)
    (happ : X8.ownsRow (bG + 1) 33 1 Sv' (l + 1) (vs ++ [.slice (some ⟨g7, 0, none⟩) m cc])) (hgrow : (X7.alloc o).grownBy X8 Sv.ownBlock) : HsI g s bG bH A n c bs Q' w0 V k gs Sv' (l + 1) (hs ++ [D]) y (X8.setCell ⟨bH, 0, none⟩ Sv') := by
  have h7 := h.pick hr ht
  have h1 := h.gs_
  have h2 := h.sG
  have h3 := h.GH
  have h4 := h.gr.le
  have hbl : ∀ q, Sv.ownBlock = some q → bG + 1 ≤ q ∧ q ≠ bH := fun q hq => ⟨(hrow.1.lt q hq).1, fun e => by
    have := own_tag hrow.1 h.th (by decide)
    rw [hq, e] at this; exact this rfl⟩
  have hs8 : X7.heap.size + 1 ≤ X8.heap.size := by have := hgrow.size; simpa using this
  have hblk : ∀ b, b < X7.heap.size → Sv.ownBlock ≠ some b → X8.heap[b]? = X7.heap[b]? := fun b hb hne => (hgrow.block b (by simp; omega) (fun e => hne e.symm)).trans (heap_alloc_old X7 _ hb)
  have hz : (X8.setCell ⟨bH, 0, none⟩ Sv').heap.size = X8.heap.size := by simp [World.setCell]
  have hk : ∀ b, b ≠ bH → (X8.setCell ⟨bH, 0, none⟩ Sv').heap[b]? = X8.heap[b]? := fun b hb => Below.heap_setCell _ _ _ _ hb
  have hx7 := ht.size
  have hh7 := h7.hb.lt
  have hn : l = hs.length := h.own.1
  have h5 := h.gb.le
  have hrow7 : OwR (bG + 1) X.heap.size 33 1 Sv l vs X7 := hrow.keep fun q a b => ht.block q b (by omega)
  have hss7 : SSk (bG + 1) X.heap.size vs (lenOf hs) (rowOf hs) X7 := hss.keep fun q a b => ht.block q b (by omega)
  have ho8 := OwSS.snoc2 hn hrow7 hss7 hd hm happ hgrow (by omega)
  have th8 : Tg bH 28 X8 := h7.th.keep (hblk bH (by omega) fun e => (hbl bH e).2 rfl)
  have hlow : ∀ b, b ≤ bG → X8.heap[b]? = X7.heap[b]? := fun b hb => hblk b (by have := h7.gb.le; omega) fun e => by have := (hbl b e).1; omega
  have hfr : Frd g s w0 X8 := h7.fr.trans (Frd.of_below (C := s) ⟨hgrow.os, hgrow.tape, hgrow.output, by omega, fun b hb => hlow b (by omega)⟩ (Nat.le_refl _))
  have hrd : Rdr g A n c bs Q' X8 := by
    have hA : ∀ b off, A = some ⟨b, off, none⟩ → True := fun _ _ _ => trivial
    exact (hr.alloc o).turn (a := bG + 1) (b := X8.heap.size + 1) ⟨hgrow.os, hgrow.tape, hgrow.output, hgrow.size, fun b hb hout => hgrow.block b hb (fun e => by have := hrow.1.lt b e.symm; omega)⟩ (by omega)
  refine ⟨hrd.set1 (by omega) 0 _, h7.gr.keep (fun q a b => (hk q (by omega)).trans (hlow q (by omega))) (by omega), h7.gb.keep (fun q a b => (hk q (by omega)).trans (hlow q (by omega))) (by omega), ?_, (h7.ra.keep (hlow s (by omega)) (by omega)).other _ (by show s ≠ bH; omega) _, (h7.rb.keep (hlow (s + 1) (by omega)) (by omega)).other _ (by show s + 1 ≠ bH; omega) _, ?_, th8.set _ _, ?_, h1, h2, h3⟩
  · exact (h7.hb.keep (hblk bH (by omega) fun e => (hbl bH e).2 rfl) (by omega)).set 0 (by simp) _
  · rw [hz]; exact ho8.setT th8 (by decide) (by decide) 0 _
  · exact hfr.trans (Frd.of_below (C := bH) ((Below.refl bH X8).setCell (Nat.le_refl _) _) (by omega))

/-- Another list in the first one's place. -/
theorem HsI.put0 {D : List Int} {m cc sg cap : Nat} {D8 : Option Addr} {X7 : World} (h : HsI g s bG bH A n c bs Q w0 V k gs (.slice (some ⟨sg, 0, none⟩) l cap) l hs y X) (hl : 1 ≤ l) (ht : Tch g (g + 1) X X7) (hr : Rdr g A n c bs Q' X7)
    (hd : X7.ownsRow X.heap.size 3 1 (.slice D8 m cc) m (D.map (Value.int .i64))) (hm : m = D.length) : HsI g s bG bH A n c bs Q' w0 V k gs (.slice (some ⟨sg, 0, none⟩) l cap) l (hs.set 0 D) y (X7.setCell ⟨sg, 0, none⟩ (.slice D8 m cc)) := by
  have h7 := h.pick hr ht
  have h1 := h.gs_
  have h2 := h.sG
  have h3 := h.GH
  obtain ⟨hn, vs, hrow, hss⟩ := h.own
  have hvl : vs.length = l := by have := hrow.1.1; omega
  have hsg := hrow.1.lt sg rfl
  have hne : sg ≠ bH := fun e => own_tag hrow.1 h.th (by decide) (by rw [← e]; rfl)
  have hx7 := ht.size
  have hz : (X7.setCell ⟨sg, 0, none⟩ (.slice D8 m cc)).heap.size = X7.heap.size := by simp [World.setCell]
  have hk : ∀ b, b ≠ sg → (X7.setCell ⟨sg, 0, none⟩ (.slice D8 m cc)).heap[b]? = X7.heap[b]? := fun b hb => Below.heap_setCell _ _ _ _ hb
  have hb4 := h7.gr.le
  have hrow7 : X7.ownsRow (bG + 1) 33 1 (.slice (some ⟨sg, 0, none⟩) l cap) l vs := (hrow.keep (w' := X7) fun q a b => ht.block q b (by omega)).1
  have hst := hrow7.stored 0 (.slice D8 m cc)
  have hss7 : SSk (bG + 1) X.heap.size vs (lenOf hs) (rowOf hs) X7 := hss.keep fun q a b => ht.block q b (by omega)
  have hss8 := hss7.grown hst.2 (hss7.ne hrow7 ints_ne_int)
  have hd8 := hd.kept hst.2 (blocks_ne hd hrow7 ints_ne_int)
  refine ⟨hr.set1 (by omega) 0 _, h7.gr.keep (fun q a b => hk q (by omega)) (by omega), h7.gb.keep (fun q a b => hk q (by omega)) (by omega), h7.hb.other _ (by show bH ≠ sg; omega) _, h7.ra.other _ (by show s ≠ sg; omega) _, h7.rb.other _ (by show s + 1 ≠ sg; omega) _, ?_, h7.th.set _ _, ?_, h1, h2, h3⟩
  · rw [hz]
    refine ⟨by rw [List.length_set]; exact hn, _, ⟨hst.1, fun q hq => by cases hq; show sg < _; omega⟩, hss8.put (hi' := X7.heap.size) (A := D8) (m := m) (c := cc) 0 ?_ ?_ ?_ ?_ ?_ ⟨?_, fun q hq => (hd.lt q hq).2⟩ (by omega) (by omega)⟩
    · rw [List.getElem?_set, if_pos rfl, if_pos (by omega)]
    · intro j hj; rw [List.getElem?_set, if_neg (by omega)]
    · intro j hj _; simpa using hj
    · unfold lenOf; rw [hm]; simp [List.getD, show 0 < hs.length by omega]
    · intro j hj
      have : (hs.set 0 D).getD j [] = hs.getD j [] := by simp [List.getD, List.getElem?_set, show ¬ 0 = j by omega]
      unfold lenOf rowOf; rw [this]; exact ⟨rfl, rfl⟩
    · have : rowOf (hs.set 0 D) 0 = D.map (Value.int .i64) := by unfold rowOf; simp [List.getD, show 0 < hs.length by omega]
      rw [this]; exact hd8
  · exact h7.fr.trans (Frd.of_below (C := sg) ((Below.refl sg X7).setCell (Nat.le_refl _) _) (by omega))
end
end Go.Proofs.Ytfooafnfdeofoaa
