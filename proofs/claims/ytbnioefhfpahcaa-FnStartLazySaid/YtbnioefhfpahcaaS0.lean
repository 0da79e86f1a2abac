/- Words and contracts for memory that the texts behind use. -/
import Derived.Test.YtbnioefhfpahcaaS0f
import Derived.WalkKit
import Derived.Laws.OwnMore
import Derived.Deep.Draws
import Derived.Test.YtbnioefhfpahcaaProg
import Derived.WalkSpells
import Derived.WalkLawsBesides
import Derived.Outline
import Derived.Lib.Hide
import Derived.BigQuiet
import Derived.Deep.QuietTactic
import Derived.StillTailTactics
import Derived.Deep.LoopGhost
import Derived.Laws.MakeOwn
import Derived.WalkSmall
import Derived.RegionTactic
import Derived.BigRegion
import Derived.Deep.RegionWith
import Derived.Deep.RegionHeld3
import Derived.Maps.AppendAt
import Derived.Laws.CopyOwn
import Derived.Deep.AppendLies
import Derived.Deep.Cut
import Derived.Laws.Entries
import Derived.Laws.Bits64
import Derived.IntWalk
import Derived.Deep.RegionLaw
import Derived.Deep.DeepCutAuto
import Derived.Test.YtbnioefhfpahcaaRows
import Derived.ProofKit
import Derived.OpenShut
import Derived.ShutString
import Derived.ChangeOld
import Derived.Below
import Derived.Deep.Slices
import Derived.Deep.Fields

namespace Go.Proofs.Ytbnioefhfpahcaa
set_option linter.unusedSimpArgs false
set_option linter.unusedVariables false
open Go.RowKit
/-- A node in a box: its kind, its parts as a slice. -/
structure NB (b : Nat) (q : Int) (y : Value) (w : World) : Prop where
  lt : b < w.heap.size
  c0 : w.cell? ⟨b, 0, none⟩ = some (.int .i64 q)
  c1 : w.cell? ⟨b, 1, none⟩ = some y
  fz : ∀ j, w.frozen? ⟨b, j, none⟩ = false
theorem NB.keep {b : Nat} {q : Int} {y : Value} {w w' : World} (h : NB b q y w) (hk : w'.heap[b]? = w.heap[b]?) (hs : w.heap.size ≤ w'.heap.size) : NB b q y w' := by
  have c (j : Nat) : w'.cell? ⟨b, j, none⟩ = w.cell? ⟨b, j, none⟩ := World.cell?_of_block (a := ⟨b, j, none⟩) hk
  have f (j : Nat) : w'.frozen? ⟨b, j, none⟩ = w.frozen? ⟨b, j, none⟩ := World.frozen?_of_block (a := ⟨b, j, none⟩) hk
  exact ⟨Nat.lt_of_lt_of_le h.lt hs, (c 0).trans h.c0, (c 1).trans h.c1, fun j => (f j).trans (h.fz j)⟩
theorem NB.pick {g b : Nat} {q : Int} {y : Value} {w w' : World} (h : NB b q y w) (ht : Tch g (g + 1) w w') (hb : b ≠ g) : NB b q y w' := h.keep (ht.block b h.lt (by omega)) ht.size
theorem NB.step {b : Nat} {q : Int} {y : Value} {w w' : World} (h : NB b q y w) (hb : Below w.heap.size w w') : NB b q y w' := h.keep (hb.block b h.lt) hb.size
theorem NB.alloc {b : Nat} {q : Int} {y : Value} {w : World} (h : NB b q y w) (o : Obj) : NB b q y (w.alloc o) := h.step ((Below.refl _ _).alloc (Nat.le_refl _) o)
theorem NB.set0 {b : Nat} {q : Int} {y : Value} {w : World} (h : NB b q y w) (q' : Int) : NB b q' y (w.setCell ⟨b, 0, none⟩ (.int .i64 q')) :=
  ⟨by simpa [World.setCell] using h.lt, World.cell?_setCell_same _ _ _ h.c0, (World.cell?_setCell_other _ _ _ _ (by intro e; cases e)).trans h.c1, fun j => by simp only [World.frozen?_setCell]; exact h.fz j⟩
theorem NB.set1 {b : Nat} {q : Int} {y : Value} {w : World} (h : NB b q y w) (y' : Value) : NB b q y' (w.setCell ⟨b, 1, none⟩ y') :=
  ⟨by simpa [World.setCell] using h.lt, (World.cell?_setCell_other _ _ _ _ (by intro e; cases e)).trans h.c0, World.cell?_setCell_same _ _ _ h.c1, fun j => by simp only [World.frozen?_setCell]; exact h.fz j⟩
/-- The state of the drawing of a graph: the boxes at s (the answer) and s + 1 (the graph), the nodes gs, the free ones fr; rows in blocks s + 2 to hi - 1. -/
structure GQ (g s hi : Nat) (A : Option Addr) (n c : Nat) (bs : List Int) (w0 : World) (P : Nat) (Vg : Value) (k : Nat) (gs : List Nd) (Vf : Value) (fl : Nat) (fr : List Int) (w : World) : Prop where
  g_s : g < s
  frd : Frd g s w0 w
  rd : Rdr g A n c bs P w
  s2 : s + 2 ≤ hi
  lt : hi ≤ w.heap.size
  rb : w.cell? ⟨s, 0, none⟩ = some (.slice none 0 0)
  rz : w.frozen? ⟨s, 0, none⟩ = false
  gb : w.cell? ⟨s + 1, 0, none⟩ = some Vg
  gz : w.frozen? ⟨s + 1, 0, none⟩ = false
  nd : OwG (s + 2) hi Vg k gs w
  sm : ∀ j, (gs.getD j default).ps.length ≤ 40
  fn : fl = fr.length
  fx : OwR (s + 2) hi 3 1 Vf fl (fr.map (Value.int .i64)) w
section
variable {g s hi : Nat} {A : Option Addr} {n c : Nat} {bs : List Int} {w0 : World} {P P' : Nat} {Vg : Value} {k : Nat} {gs : List Nd} {Vf : Value} {fl : Nat} {fr : List Int} {w w' : World}
theorem GQ.keep (h : GQ g s hi A n c bs w0 P Vg k gs Vf fl fr w) (hk : ∀ b, b ≠ g → b < hi → w'.heap[b]? = w.heap[b]?) (hr : Rdr g A n c bs P' w') (hf : Frd g s w w') : GQ g s hi A n c bs w0 P' Vg k gs Vf fl fr w' := by
  have h1 := h.g_s
  have h2 := h.s2
  have hc : ∀ (b j : Nat), b ≠ g → b < hi → w'.cell? ⟨b, j, none⟩ = w.cell? ⟨b, j, none⟩ := fun b j x y => World.cell?_of_block (a := ⟨b, j, none⟩) (hk b x y)
  have hz : ∀ (b j : Nat), b ≠ g → b < hi → w'.frozen? ⟨b, j, none⟩ = w.frozen? ⟨b, j, none⟩ := fun b j x y => World.frozen?_of_block (a := ⟨b, j, none⟩) (hk b x y)
  exact ⟨h.g_s, h.frd.trans hf, hr, h.s2, Nat.le_trans h.lt hf.size, (hc s 0 (by omega) (by omega)).trans h.rb, (hz s 0 (by omega) (by omega)).trans h.rz, (hc (s + 1) 0 (by omega) (by omega)).trans h.gb, (hz (s + 1) 0 (by omega) (by omega)).trans h.gz,
    OwG.loc _ _ _ _ _ _ _ h.nd fun b x y => hk b (by omega) y, h.sm, h.fn, h.fx.keep fun b x y => hk b (by omega) y⟩
theorem GQ.mono (h : GQ g s hi A n c bs w0 P Vg k gs Vf fl fr w) (hP : P ≤ P') : GQ g s hi A n c bs w0 P' Vg k gs Vf fl fr w :=
  ⟨h.g_s, h.frd, h.rd.mono hP, h.s2, h.lt, h.rb, h.rz, h.gb, h.gz, h.nd, h.sm, h.fn, h.fx⟩
theorem GQ.pick (h : GQ g s hi A n c bs w0 P Vg k gs Vf fl fr w) (hr : Rdr g A n c bs P' w') (ht : Tch g (g + 1) w w') : GQ g s hi A n c bs w0 P' Vg k gs Vf fl fr w' :=
  h.keep (fun b x y => ht.block b (Nat.lt_of_lt_of_le y h.lt) (by omega)) hr (Frd.of_tch ht (by have := h.s2; have := h.lt; omega))
theorem GQ.step (h : GQ g s hi A n c bs w0 P Vg k gs Vf fl fr w) (hb : Below w.heap.size w w') : GQ g s hi A n c bs w0 P Vg k gs Vf fl fr w' :=
  h.keep (fun b _ y => hb.block b (Nat.lt_of_lt_of_le y h.lt)) (h.rd.step hb) (Frd.of_below hb (by have := h.s2; have := h.lt; omega))
theorem GQ.alloc (h : GQ g s hi A n c bs w0 P Vg k gs Vf fl fr w) (o : Obj) : GQ g s hi A n c bs w0 P Vg k gs Vf fl fr (w.alloc o) := h.step ((Below.refl _ _).alloc (Nat.le_refl _) o)
theorem GQ.poke (h : GQ g s hi A n c bs w0 P Vg k gs Vf fl fr w) {b : Nat} (hb : hi ≤ b) (j : Nat) (x : Value) : GQ g s hi A n c bs w0 P Vg k gs Vf fl fr (w.setCell ⟨b, j, none⟩ x) :=
  h.keep (fun b' _ y => Below.heap_setCell _ _ _ _ (by show b' ≠ b; omega)) (h.rd.set1 (by have := h.g_s; have := h.s2; omega) j x)
    (Frd.of_below ((Below.refl hi w).setCell (p := ⟨b, j, none⟩) hb x) (by have := h.s2; omega))
end
theorem int_ne_node : (3 : TypeId) ≠ 41 := by decide
/-- One node more. -/
theorem OwG.snoc {lo hi k : Nat} {v v' : Value} {gs : List Nd} {w w' : World} {d : Nd} {y : Value} {A : Option Addr} {m c : Nat} {xs : List Value}
    (h0 : k = gs.length) (hx : OwR lo hi 41 2 v k xs w) (hn : ∀ j, j < k → ∃ x y, xs[j * 2]? = some x ∧ xs[j * 2 + 1]? = some y ∧ NdO lo hi (gs.getD j default) x y w)
    (hy : y = .slice A m c) (hm : m = d.ps.length) (hp : OwR lo w.heap.size 70 5 (.slice A m c) m (d.ps.flatMap Pt.cells) w) (hle : hi ≤ w.heap.size)
    (hg : w.grownBy w' v.ownBlock) (hv : w'.ownsRow lo 41 2 v' (k + 1) (xs ++ [.int .i64 d.k, y])) : OwG lo w'.heap.size v' (k + 1) (gs ++ [d]) w' := by
  have hxl : xs.length = k * 2 := hx.1.1
  have keep {z : Value} {mm : Nat} {ys : List Value} {t : Nat} (ht : t ≤ w.heap.size) (ho : OwR lo t 70 5 z mm ys w) : OwR lo w'.heap.size 70 5 z mm ys w' :=
    ⟨ho.1.kept hg (blocks_ne ho.1 hx.1 node_ne_part.symm), fun q hq => by have := ho.2 q hq; have := hg.size; omega⟩
  refine ⟨by simp [h0], _, ⟨hv, fun q hq => (hv.lt q hq).2⟩, fun j hj => ?_⟩
  rcases Nat.lt_or_ge j k with h1 | h1
  · obtain ⟨x, y', e1, e2, e3, A', n', c', e4, e5, e6⟩ := hn j h1
    refine ⟨x, y', ?_, ?_, ?_⟩
    · rw [List.getElem?_append_left (by omega)]; exact e1
    · rw [List.getElem?_append_left (by omega)]; exact e2
    · have eg : (gs ++ [d]).getD j default = gs.getD j default := by simp [List.getD, List.getElem?_append, show j < gs.length by omega]
      rw [eg]
      exact ⟨e3, A', n', c', e4, e5, by subst e4; exact keep hle e6⟩
  · obtain rfl : j = k := by omega
    have eg : (gs ++ [d]).getD j default = d := by simp [List.getD, List.getElem?_append, h0]
    refine ⟨.int .i64 d.k, y, ?_, ?_, ?_⟩
    · rw [List.getElem?_append_right (by omega), hxl]; simp
    · rw [List.getElem?_append_right (by omega), hxl, show j * 2 + 1 - j * 2 = 1 by omega]; simp
    · rw [eg]
      exact ⟨rfl, A, m, c, hy, hm, by subst hy; exact keep (Nat.le_refl _) hp⟩
theorem small_snoc {gs : List Nd} {d : Nd} (h : ∀ j, (gs.getD j default).ps.length ≤ 40) (hd : d.ps.length ≤ 40) : ∀ j, ((gs ++ [d]).getD j default).ps.length ≤ 40 := by
  intro j
  rcases Nat.lt_trichotomy j gs.length with h1 | h1 | h1
  · have := h j
    simpa [List.getD, List.getElem?_append, h1] using this
  · subst h1
    simpa [List.getD, List.getElem?_append] using hd
  · have : (gs ++ [d])[j]? = none := List.getElem?_eq_none (by simp; omega)
    simp [List.getD, this]
    exact Nat.zero_le _
/-- Returns a graph of 2 to 10 nodes in fresh blocks, of any content; the reader has picked Q times at most. -/
def GgP (g : Nat) (A : Option Addr) (n c : Nat) (bs : List Int) (Q : Nat) (w : World) (e : Ending) (w' : World) : Prop :=
  ∃ (V : Value) (k : Nat) (gs : List Nd), e = .returned (.agg #[V]) ∧ 2 ≤ k ∧ k ≤ 10 ∧ (∀ j, (gs.getD j default).ps.length ≤ 40) ∧ OwG w.heap.size w'.heap.size V k gs w' ∧ Rdr g A n c bs Q w' ∧ Tch g (g + 1) w w'
theorem IS.drop {w : World} {B b off : Nat} {xs : List Int} (h : IS w B (some ⟨b, off, none⟩) xs) (j : Nat) : IS w B (some ⟨b, off + j, none⟩) (xs.drop j) := by
  intro hn
  simp only [List.length_drop] at hn
  obtain ⟨b', o', e, hb, hc⟩ := h (by omega)
  cases e
  refine ⟨b, off + j, rfl, hb, fun i hi => ?_⟩
  simp only [List.length_drop] at hi
  have := hc (j + i) (by omega)
  rw [Nat.add_assoc, this]
  simp [List.getD]
section
variable {g s hi : Nat} {A : Option Addr} {n c : Nat} {bs : List Int} {w0 : World} {P P' : Nat} {Vg : Value} {k : Nat} {gs : List Nd} {Vf : Value} {fl : Nat} {fr : List Int} {w w' : World}
theorem GQ.raise {hi' : Nat} (h : GQ g s hi A n c bs w0 P Vg k gs Vf fl fr w) (h1 : hi ≤ hi') (h2 : hi' ≤ w.heap.size) : GQ g s hi' A n c bs w0 P Vg k gs Vf fl fr w :=
  ⟨h.g_s, h.frd, h.rd, Nat.le_trans h.s2 h1, h2, h.rb, h.rz, h.gb, h.gz, h.nd.mono (Nat.le_refl _) h1, h.sm, h.fn, h.fx.mono (Nat.le_refl _) h1⟩
/-- What lies in the boxes stays when a row of the call's own is written to. -/
theorem GQ.frame (h : GQ g s hi A n c bs w0 P Vg k gs Vf fl fr w) {row : Option Nat} (hg : w.grownBy w' row) (hr : ∀ k, row = some k → s + 2 ≤ k) :
    Frd g s w0 w' ∧ Rdr g A n c bs P w' ∧ w'.cell? ⟨s, 0, none⟩ = some (.slice none 0 0) ∧ w'.frozen? ⟨s, 0, none⟩ = false ∧ w'.cell? ⟨s + 1, 0, none⟩ = some Vg ∧ w'.frozen? ⟨s + 1, 0, none⟩ = false := by
  have h1 := h.s2
  have h2 := h.lt
  have h3 := h.g_s
  have hb : Below (s + 2) w w' := (Below.refl _ _).grown hg (by omega) hr
  have ht : Tch (s + 2) (w.heap.size + s + 2) w w' := ⟨hg.os, hg.tape, hg.output, hg.size, fun k hk hx => hb.block k (by omega)⟩
  exact ⟨h.frd.trans (Frd.of_below hb (by omega)), h.rd.turn ht (by omega), (hb.cell (p := ⟨s, 0, none⟩) (by show s < s + 2; omega)).trans h.rb, (hb.frozen (p := ⟨s, 0, none⟩) (by show s < s + 2; omega)).trans h.rz,
    (hb.cell (p := ⟨s + 1, 0, none⟩) (by show s + 1 < s + 2; omega)).trans h.gb, (hb.frozen (p := ⟨s + 1, 0, none⟩) (by show s + 1 < s + 2; omega)).trans h.gz⟩
theorem GQ.noded {v' : Value} {gs' : List Nd} {k' : Nat} (h : GQ g s hi A n c bs w0 P Vg k gs Vf fl fr w) (hg : w.grownBy w' Vg.ownBlock) (hv : OwG (s + 2) w'.heap.size v' k' gs' w') (hsm : ∀ j, (gs'.getD j default).ps.length ≤ 40) :
    GQ g s (w'.setCell ⟨s + 1, 0, none⟩ v').heap.size A n c bs w0 P v' k' gs' Vf fl fr (w'.setCell ⟨s + 1, 0, none⟩ v') := by
  obtain ⟨_, xs, hx, _⟩ := h.nd
  obtain ⟨f1, f2, f3, f4, f5, f6⟩ := h.frame hg fun q hq => (hx.1.lt q hq).1
  have h1 := h.s2
  have h2 := h.lt
  have h3 := h.g_s
  have hz : (w'.setCell ⟨s + 1, 0, none⟩ v').heap.size = w'.heap.size := by simp [World.setCell]
  rw [hz]
  have hfx := h.fx.1.kept hg (blocks_ne h.fx.1 hx.1 int_ne_node)
  refine ⟨h.g_s, f1.trans (Frd.of_below ((Below.refl (s + 1) w').setCell (p := ⟨s + 1, 0, none⟩) (Nat.le_refl _) v') (by omega)), f2.set1 (by omega) 0 v', by have := hg.size; omega, by rw [hz]; exact Nat.le_refl _, ?_, by simpa using f4, World.cell?_setCell_same _ _ _ f5, by simpa using f6, ?_, hsm, h.fn, ?_⟩
  · rw [World.cell?_setCell_other _ _ _ _ (by intro e; simp at e)]; exact f3
  · exact OwG.loc _ _ _ _ _ _ _ hv fun b x y => Below.heap_setCell _ _ _ _ (by show b ≠ s + 1; omega)
  · exact (OwR.keep (hi := w'.heap.size) ⟨hfx, fun q hq => (hfx.lt q hq).2⟩ fun b x y => Below.heap_setCell _ _ _ _ (by show b ≠ s + 1; omega))
theorem GQ.freed {v' : Value} {fl' : Nat} {fr' : List Int} (h : GQ g s hi A n c bs w0 P Vg k gs Vf fl fr w) (hg : w.grownBy w' Vf.ownBlock) (hv : w'.ownsRow (s + 2) 3 1 v' fl' (fr'.map (Value.int .i64))) (hl : fl' = fr'.length) :
    GQ g s w'.heap.size A n c bs w0 P Vg k gs v' fl' fr' w' := by
  obtain ⟨h0, xs, hx, hns⟩ := h.nd
  obtain ⟨f1, f2, f3, f4, f5, f6⟩ := h.frame hg fun q hq => (h.fx.1.lt q hq).1
  have h1 := h.s2
  have h2 := h.lt
  have hs := hg.size
  refine ⟨h.g_s, f1, f2, by omega, Nat.le_refl _, f3, f4, f5, f6, ⟨h0, xs, ⟨hx.1.kept hg (blocks_ne hx.1 h.fx.1 int_ne_node.symm), fun q hq => by have := hx.2 q hq; omega⟩, fun j hj => ?_⟩, h.sm, hl, ⟨hv, fun q hq => (hv.lt q hq).2⟩⟩
  obtain ⟨x, y, e1, e2, e3, A', n', c', e4, e5, e6⟩ := hns j hj
  exact ⟨x, y, e1, e2, e3, A', n', c', e4, e5, e6.1.kept hg (blocks_ne e6.1 h.fx.1 int_ne_part.symm), fun q hq => by have := e6.2 q hq; omega⟩
end
theorem row_far {w : World} {lo e size n c : Nat} {A : Option Addr} {xs : List Value} (h : w.ownsRow lo e size (.slice A n c) n xs) {g : Nat} (hg : g < lo) : ∀ b' o', A = some ⟨b', o', none⟩ → b' ≠ g := by
  intro b' o' he
  subst he
  rcases h.2 with ⟨hv, _⟩ | ⟨g', cap, cur, hv, hb, _⟩
  · simp at hv
  · simp at hv
    omega
theorem IS.drop0 {w : World} {B b : Nat} {xs : List Int} (h : IS w B (some ⟨b, 0, none⟩) xs) (j : Nat) : IS w B (some ⟨b, j, none⟩) (xs.drop j) := by
  have := h.drop j
  rwa [Nat.zero_add] at this
end Go.Proofs.Ytbnioefhfpahcaa

namespace Go.Proofs.Ytbnioefhfpahcaa
set_option linter.unusedSimpArgs false
set_option linter.unusedVariables false
open Go.RowKit
set_option maxRecDepth 100000 in
set_option maxHeartbeats 40000000 in
theorem goodGraph_any (g : Nat) (A : Option Addr) (n c : Nat) (bs : List Int) (P : Nat) (w : World) (h : Rdr g A n c bs P w) (hn : n = bs.length) (hby : BY bs) (hs : n ≤ 2000) (hP : P ≤ 800000) :
    Calls Try.prog 38 #[.pointer (some ⟨g, 0, none⟩)] w fun e w' => GgP g A n c bs (P + 2200) w e w' := by
  obtain ⟨i1, hi1, hy0, hy1, hy2⟩ := info_parts info_node
  obtain ⟨i0, hi0, hz0, hz1, hz2⟩ := info_parts info_int
  have hgw := h.lt
  have HN := Lib.hid hn
  have HR0 := Lib.hid ((((h.alloc (.cells #[.slice none 0 0] 25)).alloc (.cells #[.slice none 0 0] 25)).alloc (.cells #[] 3)).alloc (.cells #[.int .i64 6, .int .i64 5, .int .i64 7, .int .i64 8, .int .i64 4, .int .i64 10, .int .i64 2] 3))
  have hrow0 := World.ownsRow_lit (e := 3) (size := 1) (base := w.heap.size + 2) ((w.alloc (.cells #[.slice none 0 0] 25)).alloc (.cells #[.slice none 0 0] 25)) #[] 0 (by simp) (by unfold maxLen; omega) (by simp)
  have HROW := Lib.hid (OwR.start (hrow0.alloc (.cells #[.int .i64 6, .int .i64 5, .int .i64 7, .int .i64 8, .int .i64 4, .int .i64 10, .int .i64 2] 3)))
  have hBW : Below w.heap.size w ((((w.alloc (.cells #[.slice none 0 0] 25)).alloc (.cells #[.slice none 0 0] 25)).alloc (.cells #[] 3)).alloc (.cells #[.int .i64 6, .int .i64 5, .int .i64 7, .int .i64 8, .int .i64 4, .int .i64 10, .int .i64 2] 3)) := ((((Below.refl _ _).alloc (Nat.le_refl _) _).alloc (by simp) _).alloc (by simp; omega) _).alloc (by simp; omega) _
  have HG0 : Hid (GQ g w.heap.size (w.heap.size + 4) A n c bs w P (.slice none 0 0) 0 [] (.slice (some ⟨w.heap.size + 1 + 1, 0, none⟩) 0 0) 0 [] ((((w.alloc (.cells #[.slice none 0 0] 25)).alloc (.cells #[.slice none 0 0] 25)).alloc (.cells #[] 3)).alloc (.cells #[.int .i64 6, .int .i64 5, .int .i64 7, .int .i64 8, .int .i64 4, .int .i64 10, .int .i64 2] 3))) :=
    ⟨hgw, Frd.of_below hBW (Nat.le_refl _), HR0.out, by omega, by simp, by go_simp, by go_simp, by go_simp, by go_simp, ⟨rfl, [], OwR.nil _ _ _ _ _, fun j hj => absurd hj (Nat.not_lt_zero _)⟩, fun j => by simp [List.getD]; exact Nat.zero_le _, rfl, by simpa using HROW.out⟩
  clear h hn hrow0 hBW HROW
  go_enter Try.func38, Try.ntmps38
  go_wp2_with fail
  refine (one_any g A n c bs P (w.heap.size + 3) 0 7 7 [6, 5, 7, 8, 4, 10, 2] _ HR0.out HN.out hby hs (by omega) rfl (by omega) (by omega) ?_ (by omega) (by simp)).mono ?_
  · intro j hj
    have : j = 0 ∨ j = 1 ∨ j = 2 ∨ j = 3 ∨ j = 4 ∨ j = 5 ∨ j = 6 := by omega
    rcases this with rfl | rfl | rfl | rfl | rfl | rfl | rfl <;> go_simp
  rintro e w1 ⟨x, rfl, hxm, hr1, ht1⟩
  obtain ⟨N, rfl, hN2, hN10⟩ : ∃ N : Nat, x = (N : Int) ∧ 2 ≤ N ∧ N ≤ 10 := by
    simp only [List.mem_cons, List.not_mem_nil, or_false] at hxm
    exact ⟨x.toNat, by omega, by omega, by omega⟩
  have HG1 := Lib.hid (HG0.out.pick hr1 ht1)
  clear hxm hr1 ht1 HG0 HR0
  go_wp2
  go_loopw [4, 6] (fun v u wr => ∃ (k fl : Nat) (gs : List Nd) (fr : List Int) (Vg : Value), k ≤ N ∧ u = .int .i64 k ∧ fl ≤ k ∧ Hid (GQ g w.heap.size wr.heap.size A n c bs w (P + 1 + 210 * k) Vg k gs v fl fr wr)) (fun _ u _ => N - (intOf u).toNat)
  case atStart => exact ⟨0, 0, [], [], _, Nat.zero_le _, rfl, Nat.le_refl _, HG1.out.raise HG1.out.lt (Nat.le_refl _)⟩
  case round =>
    obtain ⟨k, fl, gs, fr, Vg, hk, rfl, hfl, HG⟩ := hrel
    obtain ⟨Af, cf, rfl⟩ := row_form' HG.out.fx.1
    by_cases hlt : k < N
    · have hPm : P + 1 + 210 * k ≤ 802000 := by omega
      obtain ⟨P1, hP1⟩ : ∃ P1, P1 = P + 1 + 210 * k := ⟨_, rfl⟩
      have HP1 := Lib.hid hP1
      rw [← hP1] at HG hPm
      obtain ⟨b8, hb8⟩ : ∃ b8, b8 = wr.heap.size := ⟨_, rfl⟩
      have HB8 := Lib.hid hb8
      have HNB : Hid (NB b8 0 (.slice none 0 0) (wr.alloc (.cells #[.int .i64 0, .slice none 0 0] 41))) := by
        rw [hb8]; exact ⟨by simp, by go_simp, by go_simp, fun j => by go_simp⟩
      rw [← hb8] at HG
      have HG2 := Lib.hid (HG.out.alloc (.cells #[.int .i64 0, .slice none 0 0] 41))
      have hs2 := HG.out.s2
      clear hP1 hb8 HG HG1
      go_upto_region 8 with fail
      rw [← HB8.out]
      generalize wr.alloc (.cells #[.int .i64 0, .slice none 0 0] 41) = W2 at *
      go_cut [26] from 14 to 64 (fun t wx => ∃ b : Bool, t = .bool b ∧ Hid (NB b8 0 (.slice none 0 0) wx) ∧ Hid (GQ g w.heap.size b8 A n c bs w (P1 + 1) Vg k gs (.slice Af fl cf) fl fr wx))
      case first =>
        by_cases hk1 : 1 < k
        · go_wp2_with fail
          go_meet
          exact ⟨true, rfl, HNB.out, HG2.out.mono (by omega)⟩
        · go_wp2_with fail
          refine (pick_any g A n c bs P1 8 W2 HG2.out.rd HN.out hby hs (by omega) (by omega)).mono ?_
          rintro e w3 ⟨x3, rfl, _, _, hr3, ht3⟩
          have HG3 := Lib.hid (HG2.out.pick hr3 ht3)
          have HN3 := Lib.hid (HNB.out.pick ht3 (by omega))
          clear hr3 ht3
          go_wp2_with fail
          go_meet
          exact ⟨_, rfl, HN3.out, HG3.out⟩
      case rest =>
        obtain ⟨b, rfl, HN3, HG3⟩ := hcut
        clear HNB HG2
        go_upto_if 26 with fail
        go_cut [] from 14 to 64 (fun wx => ∃ q : Int, Hid (NB b8 q (.slice none 0 0) wx) ∧ Hid (GQ g w.heap.size b8 A n c bs w (P1 + 2) Vg k gs (.slice Af fl cf) fl fr wx))
        case first =>
          cases b
          · go_wp2_with fail
            go_meet
            exact ⟨0, HN3.out, HG3.out.mono (by omega)⟩
          · have HG4 := Lib.hid (HG3.out.alloc (.cells #[.int .i64 1, .int .i64 1, .int .i64 2, .int .i64 0, .int .i64 1] 3))
            have HN4 := Lib.hid (HN3.out.alloc (.cells #[.int .i64 1, .int .i64 1, .int .i64 2, .int .i64 0, .int .i64 1] 3))
            go_wp2_with fail
            refine (one_any g A n c bs (P1 + 1) wc.heap.size 0 5 5 [1, 1, 2, 0, 1] _ HG4.out.rd HN.out hby hs (by omega) rfl (by omega) (by omega) ?_ (by have := HG3.out.rd.lt; omega) (by simp)).mono ?_
            · intro j hj
              have : j = 0 ∨ j = 1 ∨ j = 2 ∨ j = 3 ∨ j = 4 := by omega
              rcases this with rfl | rfl | rfl | rfl | rfl <;> go_simp
            rintro e w5 ⟨y, rfl, _, hr5, ht5⟩
            have HG5 := Lib.hid (HG4.out.pick hr5 ht5)
            have HN5 := Lib.hid (HN4.out.pick ht5 (by omega))
            have p0 := HN5.out.c0
            have f0 := HN5.out.fz 0
            clear hr5 ht5 HG4 HN4
            go_wp2_with fail
            go_meet
            exact ⟨y, HN5.out.set0 y, HG5.out.poke (Nat.le_refl _) 0 _⟩
        case rest =>
          obtain ⟨q, HN6, HG6⟩ := hcut
          clear HN3 HG3
          have c0 := HN6.out.c0
          go_upto_if 33 with fail
          go_cut [8] from 14 to 64 (fun x wx => ∃ (An : Option Addr) (nn cn : Nat) (ps : List Pt), nn = ps.length ∧ nn ≤ 40 ∧ Hid (NB b8 q (.slice An nn cn) wx) ∧ Hid (OwR (b8 + 1) wx.heap.size 70 5 (.slice An nn cn) nn (ps.flatMap Pt.cells) wx) ∧ Hid (GQ g w.heap.size b8 A n c bs w (P1 + 203) Vg k gs (.slice Af fl cf) fl fr wx))
          case first =>
            cases hq : (q != 0)
            · go_wp2_with fail
              go_meet
              exact ⟨none, 0, 0, [], rfl, by omega, HN6.out, OwR.nil _ _ _ _ _, HG6.out.mono (by omega)⟩
            · by_cases h3 : 3 < fl
              · have h3' : (3 : Int) < (fl : Int) := by omega
                go_wp2_with fail
                refine (pick_any g A n c bs (P1 + 2) 2 _ HG6.out.rd HN.out hby hs (by omega) (by omega)).mono ?_
                rintro e w5 ⟨x5, rfl, _, _, hr5, ht5⟩
                have HG7 := Lib.hid (HG6.out.pick hr5 ht5)
                have HN7 := Lib.hid (HN6.out.pick ht5 (by omega))
                clear hr5 ht5
                cases hx5 : ((x5 : Int) == 0)
                · have z7 := HN7.out.lt
                  go_wp2_with fail
                  refine (goodFormula_any g A n c bs (P1 + 3) Af fl cf fr _ HG7.out.rd HN.out hby hs (by omega) HG7.out.fn (by omega) (HG7.out.fx.ints.more HG7.out.lt) (row_far HG7.out.fx.1 (by omega))).mono ?_
                  rintro e w9 ⟨An, nn, cn, ps, rfl, hpl, hn1, hn40, hrow9, hr9, ht9⟩
                  have HN9 := Lib.hid (HN7.out.pick ht9 (by omega))
                  have HG9 := Lib.hid ((HG7.out.pick hr9 ht9).mono (show _ ≤ P1 + 203 by omega))
                  have z9 := HN9.out.lt
                  have p0 := HN9.out.c0
                  have p1 := HN9.out.c1
                  have f1 := HN9.out.fz 1
                  have HRW := Lib.hid hrow9
                  have HPL := Lib.hid hpl
                  have hz9 : w5.heap.size ≤ w9.heap.size := ht9.size
                  clear hr9 ht9 hrow9 hpl
                  go_wp2_with fail
                  go_meet
                  refine ⟨An, nn, cn, ps, HPL.out, hn40, HN9.out.set1 _, ?_, HG9.out.poke (Nat.le_refl _) 1 _⟩
                  exact (OwR.keep (hi := w9.heap.size) ((OwR.start HRW.out).mono (by omega) (Nat.le_refl _)) fun b x y => Below.heap_setCell _ _ _ _ (by show b ≠ b8; omega)).mono (Nat.le_refl _) (by simp [World.setCell])

                · obtain ⟨j, rfl⟩ : ∃ j, fl = j + 3 := ⟨fl - 3, by omega⟩
                  obtain ⟨go, co, hv⟩ := row_pos HG7.out.fx.1 (by omega)
                  cases hv
                  have z7 := HN7.out.lt
                  have hcj : j + 3 ≤ cf := by
                    rcases HG7.out.fx.1.2 with ⟨h', _⟩ | ⟨g', cap', cur, h', _, _, hnc, _⟩
                    · simp at h'
                    · simp at h'
                      omega
                  have hcj1 : ¬ cf = j := by omega
                  have HCJ := Lib.hid hcj
                  have hcj2 : ¬ cf - j = 0 := by omega
                  have hcj3 : ¬ (cf : Int) = (j : Int) := by omega
                  go_wp2_with fail
                  refine (goodFormula_any g A n c bs (P1 + 3) (some ⟨go, j, none⟩) 3 (cf - j) (fr.drop j) _ HG7.out.rd HN.out hby hs (by omega) (by have := HG7.out.fn; simp; omega) (by omega) ((HG7.out.fx.ints.drop0 j).more HG7.out.lt) (fun b' o' e => by cases e; exact row_far HG7.out.fx.1 (by omega) go 0 rfl)).mono ?_
                  rintro e w9 ⟨An, nn, cn, ps, rfl, hpl, hn1, hn40, hrow9, hr9, ht9⟩
                  have HN9 := Lib.hid (HN7.out.pick ht9 (by omega))
                  have HG9 := Lib.hid ((HG7.out.pick hr9 ht9).mono (show _ ≤ P1 + 203 by omega))
                  have z9 := HN9.out.lt
                  have p0 := HN9.out.c0
                  have p1 := HN9.out.c1
                  have f1 := HN9.out.fz 1
                  have HRW := Lib.hid hrow9
                  have HPL := Lib.hid hpl
                  have hz9 : w5.heap.size ≤ w9.heap.size := ht9.size
                  clear hr9 ht9 hrow9 hpl
                  go_wp2_with fail
                  go_meet
                  refine ⟨An, nn, cn, ps, HPL.out, hn40, HN9.out.set1 _, ?_, HG9.out.poke (Nat.le_refl _) 1 _⟩
                  exact (OwR.keep (hi := w9.heap.size) ((OwR.start HRW.out).mono (by omega) (Nat.le_refl _)) fun b x y => Below.heap_setCell _ _ _ _ (by show b ≠ b8; omega)).mono (Nat.le_refl _) (by simp [World.setCell])
              · have h3' : ¬ (3 : Int) < (fl : Int) := by omega
                have z6 := HN6.out.lt
                go_wp2_with fail
                refine (goodFormula_any g A n c bs (P1 + 2) Af fl cf fr _ HG6.out.rd HN.out hby hs (by omega) HG6.out.fn (by omega) (HG6.out.fx.ints.more HG6.out.lt) (row_far HG6.out.fx.1 (by omega))).mono ?_
                rintro e w9 ⟨An, nn, cn, ps, rfl, hpl, hn1, hn40, hrow9, hr9, ht9⟩
                have HN9 := Lib.hid (HN6.out.pick ht9 (by omega))
                have HG9 := Lib.hid ((HG6.out.pick hr9 ht9).mono (show _ ≤ P1 + 203 by omega))
                have z9 := HN9.out.lt
                have p0 := HN9.out.c0
                have p1 := HN9.out.c1
                have f1 := HN9.out.fz 1
                have HRW := Lib.hid hrow9
                have HPL := Lib.hid hpl
                have hz9 : wc.heap.size ≤ w9.heap.size := ht9.size
                clear hr9 ht9 hrow9 hpl
                go_wp2_with fail
                go_meet
                refine ⟨An, nn, cn, ps, HPL.out, hn40, HN9.out.set1 _, ?_, HG9.out.poke (Nat.le_refl _) 1 _⟩
                exact (OwR.keep (hi := w9.heap.size) ((OwR.start HRW.out).mono (by omega) (Nat.le_refl _)) fun b x y => Below.heap_setCell _ _ _ _ (by show b ≠ b8; omega)).mono (Nat.le_refl _) (by simp [World.setCell])

          case rest =>
            obtain ⟨An, nn, cn, ps, hnn, h40, HN7, HR7, HG7⟩ := hcut
            clear HN6 HG6 c0
            obtain ⟨Ag, cg, rfl⟩ := HG7.out.nd.form
            have g0 := HG7.out.gb
            have c0 := HN7.out.c0
            have c1 := HN7.out.c1
            have z7 := HN7.out.lt
            have HG8 := Lib.hid (HG7.out.alloc (.cells #[.int .i64 q, .slice An nn cn] 41))
            have HN8 := Lib.hid (HN7.out.alloc (.cells #[.int .i64 q, .slice An nn cn] 41))
            have HR8 := Lib.hid (HR7.out.step (below_new _ (.cells #[.int .i64 q, .slice An nn cn] 41)))
            obtain ⟨hk0, xs, hrow, hns⟩ := HG8.out.nd
            have HK0 := Lib.hid hk0
            have HROW := Lib.hid hrow
            have HNS := Lib.hid hns
            have HNN := Lib.hid hnn
            clear HG7 HN7 HR7 hk0 hrow hns hnn
            go_wp2_with (at_builtin; refine wpList_append_own _ rfl _ _ 23 rfl (w.heap.size + 2) 41 i1 _ 2 32 Try.underlying23 hi1 hy0 hy1 hy2 rfl (by decide) _ _ _ rfl HROW.out.1 ⟨_, 0, none⟩ 1 1 [.int .i64 q, .slice An nn cn] rfl rfl (cells_new _ _ _ _ rfl) ?c2 ?c3 ?c4 ?c5 ?_)
            case c2 => intro u hu; simp at hu; rcases hu with rfl | rfl <;> rfl
            case c3 => unfold maxLen; omega
            case c4 => omega
            case c5 => simp; omega
            intro v' w8 hown' hgrow _
            have hz8 : wc.heap.size + 1 ≤ w8.heap.size := by have := hgrow.size; simpa using this
            have HSN : Hid (OwG (w.heap.size + 2) w8.heap.size v' (k + 1) (gs ++ [⟨q, ps⟩]) w8) :=
              OwG.snoc (d := ⟨q, ps⟩) HK0.out HROW.out HNS.out rfl HNN.out ((HR8.out.mono (show w.heap.size + 2 ≤ b8 + 1 by omega) (by simp))) (by simp; omega) hgrow hown'
            obtain ⟨A', c', rfl⟩ := own_form hown'
            obtain ⟨_, _, _, _, g8, gz8⟩ := HG8.out.frame hgrow fun q hq => (HROW.out.1.lt q hq).1
            have HN9 := Lib.hid (HN8.out.keep (w' := w8) (hgrow.block b8 HN8.out.lt fun e => by have := HROW.out.2 b8 e.symm; omega) hgrow.size)
            have HN10 : Hid (NB b8 q (.slice An nn cn) (w8.setCell ⟨w.heap.size + 1, 0, none⟩ (.slice A' (k + 1) c'))) := HN9.out.keep (Below.heap_setCell _ _ _ _ (by show b8 ≠ w.heap.size + 1; omega)) (by simp [World.setCell])
            have HG9 := Lib.hid (HG8.out.noded hgrow HSN.out (small_snoc HG8.out.sm (by show ps.length ≤ 40; have := HNN.out; omega)))
            have z8 : w.heap.size + 1 < w8.heap.size := by omega
            have p0 := HN10.out.c0
            clear hown' hgrow HG8 HN8 HR8 HROW HNS HSN HN9
            cases hq2 : (q != 2)
            · go_wp2
              go_roundw
              case rel => exact ⟨k + 1, fl, _, fr, _, by omega, by go_num, by omega, HG9.out.mono (by have := HP1.out; omega)⟩
              case measure => simp [intOf]; omega
            · have HG10 := Lib.hid (HG9.out.alloc (.cells #[.int .i64 k] 3))
              have hsz8 : (w8.setCell ⟨w.heap.size + 1, 0, none⟩ (.slice A' (k + 1) c')).heap.size = w8.heap.size := by simp [World.setCell]
              have hnw := cell_one_new (w8.setCell ⟨w.heap.size + 1, 0, none⟩ (.slice A' (k + 1) c')) (.int .i64 k) 3
              rw [hsz8] at hnw
              have HNW := Lib.hid hnw
              clear hnw hsz8
              go_wp2_with (at_builtin; refine wpList_append_own _ rfl _ _ 26 rfl (w.heap.size + 2) 3 i0 (.int .i64 0) 1 8 Try.underlying26 hi0 hz0 hz1 hz2 rfl (by decide) _ _ _ rfl HG10.out.fx.1 ⟨_, 0, none⟩ 1 1 [.int .i64 k] rfl rfl HNW.out ?d2 ?d3 ?d4 ?d5 ?_)
              case d2 => first | rfl | (intro u hu; simp at hu; subst hu; rfl)
              case d3 => unfold maxLen; omega
              case d4 => omega
              case d5 => simp; omega
              intro v9 w9 hown9 hgrow9 _
              have HG11 := Lib.hid (HG10.out.freed (fr' := fr ++ [(k : Int)]) hgrow9 (by simpa using hown9) (by rw [List.length_append, ← HG10.out.fn]; rfl))
              clear hown9 hgrow9 HG9 HG10
              go_wp2
              go_roundw
              case rel => exact ⟨k + 1, fl + 1, _, _, _, by omega, by go_num, by omega, HG11.out.mono (by have := HP1.out; omega)⟩
              case measure => simp [intOf]; omega
    · obtain rfl : k = N := by omega
      obtain ⟨Ag, cg, rfl⟩ := HG.out.nd.form
      have g0 := HG.out.gb
      have r0 := HG.out.rb
      have r1 := HG.out.rz
      have z1 : w.heap.size + 1 < wr.heap.size := by have := HG.out.s2; have := HG.out.lt; omega
      have z0 : w.heap.size < wr.heap.size := by omega
      have hsz : (wr.setCell ⟨w.heap.size, 0, none⟩ (.slice Ag k cg)).heap.size = wr.heap.size := by simp [World.setCell]
      have HSZ := Lib.hid hsz
      clear hsz HG1
      go_wp2
      refine bodyPost_ret (v := .agg #[.slice Ag k cg]) (by simp [results, Try.results38, go_sem, r0]) rfl ?_
      refine ⟨_, k, gs, rfl, by omega, by omega, HG.out.sm, ?_, (HG.out.rd.mono (by omega)).set1 hgw 0 _, (HG.out.frd.trans (Frd.of_below ((Below.refl w.heap.size _).setCell (p := ⟨w.heap.size, 0, none⟩) (Nat.le_refl _) _) (Nat.le_refl _))).tch⟩
      rw [HSZ.out]
      exact (OwG.loc _ _ _ _ _ _ _ HG.out.nd fun b x y => Below.heap_setCell _ _ _ _ (by show b ≠ w.heap.size; omega)).mono (by omega) (Nat.le_refl _)
end Go.Proofs.Ytbnioefhfpahcaa

namespace Go.Proofs.Ytbnioefhfpahcaa
set_option linter.unusedSimpArgs false
set_option linter.unusedVariables false
open Go.RowKit
/-- One node is another one. -/
theorem OwG.change {lo hi hi' k j : Nat} {v : Value} {gs : List Nd} {w w' : World} {d : Nd} {x y : Value} {xs xs' : List Value} (h0 : k = gs.length) (hx : OwR lo hi 41 2 v k xs w)
    (hn : ∀ i, i < k → ∃ x y, xs[i * 2]? = some x ∧ xs[i * 2 + 1]? = some y ∧ NdO lo hi (gs.getD i default) x y w) (hg : w.grownBy w' v.ownBlock) (hv : w'.ownsRow lo 41 2 v k xs') (hj : j < k)
    (hx' : xs'[j * 2]? = some x) (hy' : xs'[j * 2 + 1]? = some y) (ho : ∀ i, i ≠ j → xs'[i * 2]? = xs[i * 2]? ∧ xs'[i * 2 + 1]? = xs[i * 2 + 1]?) (hd : NdO lo hi' d x y w') (hle : hi ≤ hi') : OwG lo hi' v k (gs.set j d) w' := by
  refine ⟨by simp [h0], xs', ⟨hv, fun q hq => by have := hx.2 q hq; omega⟩, fun i hi => ?_⟩
  by_cases e : i = j
  · subst e
    have eg : (gs.set i d).getD i default = d := by simp [List.getD, List.getElem?_set, show i < gs.length by omega]
    rw [eg]
    exact ⟨x, y, hx', hy', hd⟩
  · have eg : (gs.set j d).getD i default = gs.getD i default := by simp [List.getD, List.getElem?_set, show ¬ j = i by omega]
    obtain ⟨x1, y1, e1, e2, e3, A', n', c', e4, e5, e6⟩ := hn i hi
    obtain ⟨o1, o2⟩ := ho i e
    rw [eg]
    exact ⟨x1, y1, by rw [o1]; exact e1, by rw [o2]; exact e2, e3, A', n', c', e4, e5, e6.1.kept hg (blocks_ne e6.1 hx.1 node_ne_part.symm), fun q hq => by have := e6.2 q hq; omega⟩
theorem OwG.setKind {lo hi k j gn cg : Nat} {gs : List Nd} {w : World} (h : OwG lo hi (.slice (some ⟨gn, 0, none⟩) k cg) k gs w) (hj : j < k) (z : Int) :
    OwG lo hi (.slice (some ⟨gn, 0, none⟩) k cg) k (gs.set j ⟨z, (gs.getD j default).ps⟩) (w.setCell ⟨gn, j * 2, none⟩ (.int .i64 z)) := by
  obtain ⟨h0, xs, hx, hn⟩ := h
  have hxl : xs.length = k * 2 := hx.1.1
  have hst := hx.1.stored (j * 2) (.int .i64 z)
  obtain ⟨x1, y1, e1, e2, e3, A', n', c', e4, e5, e6⟩ := hn j hj
  refine OwG.change h0 hx hn hst.2 hst.1 hj (x := .int .i64 z) (y := y1) ?_ ?_ (fun i hi => ⟨?_, ?_⟩) ?_ (Nat.le_refl _)
  · rw [List.getElem?_set, if_pos rfl, if_pos (by omega)]
  · rw [List.getElem?_set, if_neg (by omega)]; exact e2
  · rw [List.getElem?_set, if_neg (by omega)]
  · rw [List.getElem?_set, if_neg (by omega)]
  · exact ⟨rfl, A', n', c', e4, e5, e6.1.kept hst.2 (blocks_ne e6.1 hx.1 node_ne_part.symm), e6.2⟩
theorem OwG.setForm {lo hi k j gn cg hi' : Nat} {gs : List Nd} {w : World} (h : OwG lo hi (.slice (some ⟨gn, 0, none⟩) k cg) k gs w) (hj : j < k) {A : Option Addr} {m c : Nat} {ps : List Pt} (hm : m = ps.length)
    (hp : OwR lo hi' 70 5 (.slice A m c) m (ps.flatMap Pt.cells) w) (hle : hi ≤ hi') :
    OwG lo hi' (.slice (some ⟨gn, 0, none⟩) k cg) k (gs.set j ⟨(gs.getD j default).k, ps⟩) (w.setCell ⟨gn, j * 2 + 1, none⟩ (.slice A m c)) := by
  obtain ⟨h0, xs, hx, hn⟩ := h
  have hxl : xs.length = k * 2 := hx.1.1
  have hst := hx.1.stored (j * 2 + 1) (.slice A m c)
  obtain ⟨x1, y1, e1, e2, e3, A', n', c', e4, e5, e6⟩ := hn j hj
  refine OwG.change h0 hx hn hst.2 hst.1 hj (x := x1) (y := .slice A m c) ?_ ?_ (fun i hi => ⟨?_, ?_⟩) ?_ hle
  · rw [List.getElem?_set, if_neg (by omega)]; exact e1
  · rw [List.getElem?_set, if_pos rfl, if_pos (by omega)]
  · rw [List.getElem?_set, if_neg (by omega)]
  · rw [List.getElem?_set, if_neg (by omega)]
  · exact ⟨e3, A, m, c, rfl, hm, hp.1.kept hst.2 (blocks_ne hp.1 hx.1 node_ne_part.symm), hp.2⟩
theorem small_set {gs : List Nd} {j : Nat} {d : Nd} (h : ∀ j, (gs.getD j default).ps.length ≤ 40) (hd : d.ps.length ≤ 40) : ∀ i, ((gs.set j d).getD i default).ps.length ≤ 40 := by
  intro i
  by_cases e : j = i
  · subst e
    by_cases hl : j < gs.length
    · simpa [List.getD, List.getElem?_set, hl] using hd
    · rw [List.set_eq_of_length_le (by omega)]
      exact h j
  · have := h i
    simpa [List.getD, List.getElem?_set, e] using this
theorem OwG.node_cells {lo hi k j gn cg : Nat} {gs : List Nd} {w : World} (h : OwG lo hi (.slice (some ⟨gn, 0, none⟩) k cg) k gs w) (hj : j < k) :
    (∃ x, w.cell? ⟨gn, j * 2, none⟩ = some x) ∧ (∃ x, w.cell? ⟨gn, j * 2 + 1, none⟩ = some x) ∧ w.frozen? ⟨gn, j * 2, none⟩ = false ∧ w.frozen? ⟨gn, j * 2 + 1, none⟩ = false ∧ lo ≤ gn ∧ gn < hi := by
  obtain ⟨h0, xs, hx, hn⟩ := h
  have hxl : xs.length = k * 2 := hx.1.1
  obtain ⟨x1, y1, e1, e2, _⟩ := hn j hj
  exact ⟨⟨x1, (hx.1.cellAt _ (by omega)).trans e1⟩, ⟨y1, (hx.1.cellAt _ (by omega)).trans e2⟩, hx.1.frozenAt _, hx.1.frozenAt _, (hx.1.lt gn rfl).1, hx.2 gn rfl⟩
theorem OwG.pos {lo hi k : Nat} {v : Value} {gs : List Nd} {w : World} (h : OwG lo hi v k gs w) (hk : 0 < k) : ∃ gn cg, v = .slice (some ⟨gn, 0, none⟩) k cg := by
  obtain ⟨h0, xs, hx, _⟩ := h
  exact row_pos hx.1 hk
set_option maxRecDepth 100000 in
set_option maxHeartbeats 40000000 in
theorem someGraph_any (g : Nat) (A : Option Addr) (n c : Nat) (bs : List Int) (P : Nat) (w : World) (h : Rdr g A n c bs P w) (hn : n = bs.length) (hby : BY bs) (hs : n ≤ 2000) (hP : P ≤ 700000) :
    Calls Try.prog 26 #[.pointer (some ⟨g, 0, none⟩)] w fun e w' => GgP g A n c bs (P + 2500) w e w' := by
  have hgw := h.lt
  have HN := Lib.hid hn
  have HR0 := Lib.hid (h.alloc (.cells #[.slice none 0 0] 25))
  clear h hn
  go_enter Try.func26, Try.ntmps26
  go_wp2_with fail
  refine (goodGraph_any g A n c bs P _ HR0.out HN.out hby hs (by omega)).mono ?_
  rintro e w1 ⟨V, k, gs, rfl, hk2, hk10, hsm, hown, hr1, ht1⟩
  have hs1 : w.heap.size + 1 ≤ w1.heap.size := by have := ht1.size; simpa using this
  obtain ⟨gn, cg, rfl⟩ := hown.pos (by omega)
  simp only [World.size_alloc] at hown
  obtain ⟨bG, hbG⟩ : ∃ bG, bG = w1.heap.size := ⟨_, rfl⟩
  have HBG := Lib.hid hbG
  have k0 : w1.cell? ⟨w.heap.size, 0, none⟩ = some (.slice none 0 0) := (World.cell?_of_block (a := ⟨w.heap.size, 0, none⟩) (ht1.block w.heap.size (by simp) (.inr (by omega)))).trans (by go_simp)
  have k1 : w1.frozen? ⟨w.heap.size, 0, none⟩ = false := (World.frozen?_of_block (a := ⟨w.heap.size, 0, none⟩) (ht1.block w.heap.size (by simp) (.inr (by omega)))).trans (by go_simp)
  have HB1 : Hid (As w.heap.size (w.heap.size + 1) (fun w' => w'.cell? ⟨w.heap.size, 0, none⟩ = some (.slice none 0 0) ∧ w'.frozen? ⟨w.heap.size, 0, none⟩ = false) w1) :=
    ⟨⟨k0, k1⟩, hs1, fun w w' h hk => ⟨(World.cell?_of_block (a := ⟨_, 0, none⟩) (hk _ (Nat.le_refl _) (Nat.lt_succ_self _))).trans h.1, (World.frozen?_of_block (a := ⟨_, 0, none⟩) (hk _ (Nat.le_refl _) (Nat.lt_succ_self _))).trans h.2⟩⟩
  have HO1 : Hid (As (w.heap.size + 1) bG (OwG (w.heap.size + 1) bG (.slice (some ⟨gn, 0, none⟩) k cg) k gs) w1) := by rw [hbG]; exact graph_start hown
  have HF1 := Lib.hid ((Frd.of_below (g := g) (s := w.heap.size) ((Below.refl w.heap.size w).alloc (Nat.le_refl _) (.cells #[.slice none 0 0] 25)) (Nat.le_refl _)).trans (Frd.of_tch ht1 (by simp)))
  have HR1 := Lib.hid (hr1.alloc (.cells #[.slice (some ⟨gn, 0, none⟩) k cg] 25))
  have HO2 := Lib.hid (HO1.out.alloc (.cells #[.slice (some ⟨gn, 0, none⟩) k cg] 25))
  have HB2 := Lib.hid (HB1.out.alloc (.cells #[.slice (some ⟨gn, 0, none⟩) k cg] 25))
  have HG2 := box_new w1 (.slice (some ⟨gn, 0, none⟩) k cg) 25
  rw [← hbG] at HG2
  have HG2 := Lib.hid HG2
  have HF2 := Lib.hid (HF1.out.trans (Frd.of_below (w' := w1.alloc (.cells #[.slice (some ⟨gn, 0, none⟩) k cg] 25)) ((Below.refl w1.heap.size w1).alloc (Nat.le_refl _) _) (by omega)))
  have hgG : g < bG := by omega
  have hz2 : bG < (w1.alloc (.cells #[.slice (some ⟨gn, 0, none⟩) k cg] 25)).heap.size := by rw [hbG]; simp
  have hsG : w.heap.size + 1 ≤ bG := by omega
  clear k0 k1 HB1 HO1 HF1 HR0 hown hr1 ht1 hbG
  have q2 := HG2.out.it
  go_wp2_with fail
  generalize w1.alloc (.cells #[.slice (some ⟨gn, 0, none⟩) k cg] 25) = W2 at *
  refine (pick_any g A n c bs (P + 2200) k W2 HR1.out HN.out hby hs (by omega) (by omega)).mono ?_
  rintro e w3 ⟨j, rfl, hj, _, hr3, ht3⟩
  have hjk : j < k := by have := hj (by omega); omega
  have hz3 := ht3.size
  have HR3 := Lib.hid hr3
  have HO3 := Lib.hid (HO2.out.turn ht3 (.inl (by omega)))
  have HB3 := Lib.hid (HB2.out.turn ht3 (.inl (by omega)))
  have HG3 := Lib.hid (HG2.out.turn ht3 (.inl (by omega)))
  have HF3 := Lib.hid (HF2.out.trans (Frd.of_tch ht3 (by omega)))
  clear hj hr3 ht3 HR1 HO2 HB2 HG2 HF2 q2
  have q3 := HG3.out.it
  rw [HBG.out.symm]
  go_wp2_with fail
  refine (pick_any g A n c bs (P + 2201) 24 w3 HR3.out HN.out hby hs (by omega) (by omega)).mono ?_
  rintro e w4 ⟨x, rfl, _, _, hr4, ht4⟩
  have hz4 := ht4.size
  have HR4 := Lib.hid hr4
  have HO4 := Lib.hid (HO3.out.turn ht4 (.inl (by omega)))
  have HB4 := Lib.hid (HB3.out.turn ht4 (.inl (by omega)))
  have HG4 := Lib.hid (HG3.out.turn ht4 (.inl (by omega)))
  have HF4 := Lib.hid (HF3.out.trans (Frd.of_tch ht4 (by omega)))
  clear hr4 ht4 HR3 HO3 HB3 HG3 HF3 q3
  have q4 := HG4.out.it
  obtain ⟨⟨x0, n0⟩, ⟨x1, n1⟩, f0, f1, hlo, hhi⟩ := HO4.out.it.node_cells hjk
  have hzG : bG < w4.heap.size := by omega
  have hwz : w.heap.size < w4.heap.size := by omega
  by_cases hx0 : x = 0
  · subst hx0
    have q5 := (World.cell?_alloc_lt w4 (.cells #[.int .i64 (-1), .int .i64 3, .int .i64 0, .int .i64 2] 3) ⟨bG, 0, none⟩ hzG).trans q4
    go_wp2
    refine wp_region_held_drew (S := fun w' => w'.cell? ⟨bG, 0, none⟩ = some (.slice (some ⟨gn, 0, none⟩) k cg)) (by kernel_rfl) q4 (fun hHeld => ?_)
    refine wpAnyH_take (i := 0) (oi := ⟨some 16, _, _, _, _, _⟩) (v := ?_) rfl (by kernel_rfl) (by kernel_rfl) (by kernel_rfl) (fun _ _ _ h => h) (Or.inl ⟨by rfl, ?_⟩) (by assumption) ?_; rotate_left; (focus (intro w hSw; (try dsimp only at hSw); go_simp; (try with_reducible rfl))); (try simp only [Act.put, List.setIfInBounds_toArray, List.set_cons_zero, List.set_cons_succ])
    refine wpAnyH_take (i := 1) (oi := ⟨some 17, _, _, _, _, _⟩) (v := ?_) rfl (by kernel_rfl) (by kernel_rfl) (by kernel_rfl) (fun _ _ _ h => h) (Or.inl ⟨by rfl, ?_⟩) (by assumption) ?_; rotate_left; (focus (intro w hSw; (try dsimp only at hSw); go_simp; (try with_reducible rfl))); (try simp only [Act.put, List.setIfInBounds_toArray, List.set_cons_zero, List.set_cons_succ])
    refine wpAnyH_take (i := 2) (oi := ⟨some 18, _, _, _, _, _⟩) (v := ?_) rfl (by kernel_rfl) (by kernel_rfl) (by kernel_rfl) (fun _ _ _ h => h) (Or.inl ⟨by rfl, ?_⟩) (by assumption) ?_; rotate_left; (focus (intro w hSw; (try dsimp only at hSw); go_simp; (try with_reducible rfl))); (try simp only [Act.put, List.setIfInBounds_toArray, List.set_cons_zero, List.set_cons_succ])
    refine wpAnyH_take (i := 3) (oi := ⟨some 19, _, _, _, _, _⟩) (v := ?_) rfl (by kernel_rfl) (by kernel_rfl) (by kernel_rfl) (fun _ _ _ h => h) (Or.inl ⟨by rfl, ?_⟩) (by assumption) ?_; rotate_left; (focus (intro w hSw; (try dsimp only at hSw); go_simp; (try with_reducible rfl))); (try simp only [Act.put, List.setIfInBounds_toArray, List.set_cons_zero, List.set_cons_succ])
    refine wpAnyH_ready (rs := [4]) (by kernel_rfl) (by simp) ?_; refine AllReadyH.cons (o := ⟨some 20, _, _, _, _, _⟩) rfl (fun K hK => ?_) AllReadyH.nil; go_simp
    refine hK.out _ _ q5 (fun hHeld => ?_); clear hK K; (try simp only [Act.put, List.setIfInBounds_toArray, List.set_cons_zero, List.set_cons_succ])
    refine wpAnyH_ready (rs := [5]) (by kernel_rfl) (by simp) ?_; refine AllReadyH.cons (o := ⟨some 21, _, _, _, _, _⟩) rfl (fun K hK => ?_) AllReadyH.nil; go_simp
    have HR5 := Lib.hid (HR4.out.alloc (.cells #[.int .i64 (-1), .int .i64 3, .int .i64 0, .int .i64 2] 3))
    have HO5 := Lib.hid (HO4.out.alloc (.cells #[.int .i64 (-1), .int .i64 3, .int .i64 0, .int .i64 2] 3))
    have HB5 := Lib.hid (HB4.out.alloc (.cells #[.int .i64 (-1), .int .i64 3, .int .i64 0, .int .i64 2] 3))
    have HG5 := Lib.hid (HG4.out.alloc (.cells #[.int .i64 (-1), .int .i64 3, .int .i64 0, .int .i64 2] 3))
    have HF5 := Lib.hid (HF4.out.trans (Frd.of_below (w' := w4.alloc (.cells #[.int .i64 (-1), .int .i64 3, .int .i64 0, .int .i64 2] 3)) ((Below.refl w4.heap.size w4).alloc (Nat.le_refl _) _) (by omega)))
    go_at_call 40
    refine (one_any g A n c bs (P + 2202) w4.heap.size 0 4 4 [-1, 3, 0, 2] _ HR5.out.drew HN.out hby hs (by omega) rfl (by omega) (by omega) ?_ (by omega) (by simp)).mono ?_
    · intro j hj
      have : j = 0 ∨ j = 1 ∨ j = 2 ∨ j = 3 := by omega
      rcases this with rfl | rfl | rfl | rfl <;> go_simp
    rintro e w5 ⟨z, rfl, _, hr5, ht5'⟩
    have ht5 : Tch g (g + 1) (w4.alloc (.cells #[.int .i64 (-1), .int .i64 3, .int .i64 0, .int .i64 2] 3)) w5 := ⟨ht5'.os, ht5'.tape, ht5'.output, ht5'.size, ht5'.block⟩
    have hz5 : w4.heap.size + 1 ≤ w5.heap.size := by have := ht5.size; simpa using this
    have HO6 := Lib.hid (HO5.out.turn ht5 (.inl (by omega)))
    have HB6 := Lib.hid (HB5.out.turn ht5 (.inl (by omega)))
    have HG6 := Lib.hid (HG5.out.turn ht5 (.inl (by omega)))
    have HOO := Lib.hid (HO6.out.it.setKind hjk z)
    have q6 := HG6.out.it
    obtain ⟨⟨y0, m0⟩, ⟨y1, m1⟩, e0, e1, _, _⟩ := HO6.out.it.node_cells hjk
    have hne : ∀ q : Nat, (⟨gn, q, none⟩ : Addr) ≠ ⟨bG, 0, none⟩ := fun q e => by have := congrArg Addr.block e; simp at this; omega
    have q7 : (w5.setCell ⟨gn, j * 2, none⟩ (.int .i64 z)).cell? ⟨bG, 0, none⟩ = some (.slice (some ⟨gn, 0, none⟩) k cg) := (World.cell?_setCell_other _ _ _ _ (hne _)).trans q6
    refine hK.out _ _ q6 (fun hHeld => ?_); clear hK K; (try simp only [Act.put, List.setIfInBounds_toArray, List.set_cons_zero, List.set_cons_succ])
    refine wpAnyH_take (i := 6) (oi := ⟨some 22, _, _, _, _, _⟩) (v := ?_) rfl (by kernel_rfl) (by kernel_rfl) (by kernel_rfl) (fun _ _ _ h => h) (Or.inl ⟨by rfl, ?_⟩) (by assumption) ?_; rotate_left; (focus (intro w hSw; (try dsimp only at hSw); go_simp; (try with_reducible rfl))); (try simp only [Act.put, List.setIfInBounds_toArray, List.set_cons_zero, List.set_cons_succ])
    refine wpAnyH_take (i := 7) (oi := ⟨some 23, _, _, _, _, _⟩) (v := ?_) rfl (by kernel_rfl) (by kernel_rfl) (by kernel_rfl) (fun _ _ _ h => h) (Or.inl ⟨by rfl, ?_⟩) (by assumption) ?_; rotate_left; (focus (intro w hSw; (try dsimp only at hSw); go_simp; (try with_reducible rfl))); (try simp only [Act.put, List.setIfInBounds_toArray, List.set_cons_zero, List.set_cons_succ])
    refine wpAnyH_ready (rs := [8]) (by kernel_rfl) (by simp) ?_; refine AllReadyH.cons (o := ⟨none, _, _, _, _, _⟩) rfl (fun K hK => ?_) AllReadyH.nil; go_simp
    refine hK.out _ _ q7 (fun hHeld => ?_); clear hK K; (try simp only [Act.put, List.setIfInBounds_toArray, List.set_cons_zero, List.set_cons_succ])
    refine wpAnyH_done (by kernel_rfl) ?_ _
    have HFF := Lib.hid ((HF5.out.trans (Frd.of_tch ht5 (by simp; omega))).trans (Frd.of_below ((Below.refl w.heap.size w5).setCell (p := ⟨gn, j * 2, none⟩) (by show w.heap.size ≤ gn; omega) (.int .i64 z)) (Nat.le_refl _)))
    have HRR := Lib.hid (hr5.set1 (show g < gn by omega) (j * 2) (.int .i64 z))
    have HBB := Lib.hid (HB6.out.keep (w' := w5.setCell ⟨gn, j * 2, none⟩ (.int .i64 z)) (fun k a b => Below.heap_setCell _ _ _ _ (by show k ≠ gn; omega)) (by simp [World.setCell]))
    have hsz5 : (w5.setCell ⟨gn, j * 2, none⟩ (.int .i64 z)).heap.size = w5.heap.size := by simp [World.setCell]
    have hz6 : w.heap.size < (w5.setCell ⟨gn, j * 2, none⟩ (.int .i64 z)).heap.size := by rw [hsz5]; omega
    obtain ⟨r0, r1⟩ := HBB.out.it
    have HSZ5 := Lib.hid hsz5
    clear hr5 ht5 ht5' hsz5
    go_wp2
    refine bodyPost_ret (v := .agg #[.slice (some ⟨gn, 0, none⟩) k cg]) (by simp [results, Try.results26, go_sem, r0]) rfl ?_
    generalize hW : w5.setCell ⟨gn, j * 2, none⟩ (.int .i64 z) = W6 at *
    have hsz : (W6.setCell ⟨w.heap.size, 0, none⟩ (.slice (some ⟨gn, 0, none⟩) k cg)).heap.size = W6.heap.size := by simp [World.setCell]
    refine ⟨_, k, gs.set j ⟨z, (gs.getD j default).ps⟩, rfl, hk2, hk10, small_set hsm (hsm j), ?_, (HRR.out.mono (by omega)).set1 hgw 0 _, (HFF.out.trans (Frd.of_below ((Below.refl w.heap.size _).setCell (p := ⟨w.heap.size, 0, none⟩) (Nat.le_refl _) _) (Nat.le_refl _))).tch⟩
    rw [hsz]
    exact (OwG.loc _ _ _ _ _ _ _ HOO.out fun b x y => Below.heap_setCell _ _ _ _ (by show b ≠ w.heap.size; omega)).mono (by omega) (by have := HSZ5.out; omega)
  · by_cases hx1 : x = 1
    · subst hx1
      have a8 : IntKind.i64.wrap ((k : Int) - 1) = (k : Int) - 1 := (by rw [IntKind.wrap_i64]; omega)
      have q5 := (World.cell?_alloc_lt w4 (.cells #[.int .i64 j, .int .i64 ((k : Int) - 1)] 3) ⟨bG, 0, none⟩ hzG).trans q4
      go_wp2
      refine wp_region_held_drew (S := fun w' => w'.cell? ⟨bG, 0, none⟩ = some (.slice (some ⟨gn, 0, none⟩) k cg)) (by kernel_rfl) q4 (fun hHeld => ?_)
      refine wpAnyH_take (i := 0) (oi := ⟨some 26, _, _, _, _, _⟩) (v := ?_) rfl (by kernel_rfl) (by kernel_rfl) (by kernel_rfl) (fun _ _ _ h => h) (Or.inl ⟨by rfl, ?_⟩) (by assumption) ?_; rotate_left; (focus (intro w hSw; (try dsimp only at hSw); go_simp; (try with_reducible rfl))); (try simp only [Act.put, List.setIfInBounds_toArray, List.set_cons_zero, List.set_cons_succ])
      refine wpAnyH_take (i := 1) (oi := ⟨some 27, _, _, _, _, _⟩) (v := ?_) rfl (by kernel_rfl) (by kernel_rfl) (by kernel_rfl) (fun _ _ _ h => h) (Or.inl ⟨by rfl, ?_⟩) (by assumption) ?_; rotate_left; (focus (intro w hSw; (try dsimp only at hSw); go_simp; (try with_reducible rfl))); (try simp only [Act.put, List.setIfInBounds_toArray, List.set_cons_zero, List.set_cons_succ])
      refine wpAnyH_take (i := 2) (oi := ⟨some 28, _, _, _, _, _⟩) (v := ?_) rfl (by kernel_rfl) (by kernel_rfl) (by kernel_rfl) (fun _ _ _ h => h) (Or.inl ⟨by rfl, ?_⟩) (by assumption) ?_; rotate_left; (focus (intro w hSw; (try dsimp only at hSw); go_simp; (try with_reducible rfl))); (try simp only [Act.put, List.setIfInBounds_toArray, List.set_cons_zero, List.set_cons_succ])
      refine wpAnyH_take (i := 3) (oi := ⟨some 29, _, _, _, _, _⟩) (v := ?_) rfl (by kernel_rfl) (by kernel_rfl) (by kernel_rfl) (fun _ _ _ h => h) (Or.inl ⟨by rfl, ?_⟩) (by assumption) ?_; rotate_left; (focus (intro w hSw; (try dsimp only at hSw); go_simp; (try with_reducible rfl))); (try simp only [Act.put, List.setIfInBounds_toArray, List.set_cons_zero, List.set_cons_succ])
      refine wpAnyH_take (i := 4) (oi := ⟨some 30, _, _, _, _, _⟩) (v := ?_) rfl (by kernel_rfl) (by kernel_rfl) (by kernel_rfl) (fun _ _ _ h => h) (Or.inl ⟨by rfl, ?_⟩) (by assumption) ?_; rotate_left; (focus (intro w hSw; (try dsimp only at hSw); go_simp; (try with_reducible rfl))); (try simp only [Act.put, List.setIfInBounds_toArray, List.set_cons_zero, List.set_cons_succ])
      refine wpAnyH_take (i := 5) (oi := ⟨some 31, _, _, _, _, _⟩) (v := ?_) rfl (by kernel_rfl) (by kernel_rfl) (by kernel_rfl) (fun _ _ _ h => h) (Or.inl ⟨by rfl, ?_⟩) (by assumption) ?_; rotate_left; (focus (intro w hSw; (try dsimp only at hSw); go_simp; (try with_reducible rfl))); (try simp only [Act.put, List.setIfInBounds_toArray, List.set_cons_zero, List.set_cons_succ])
      refine wpAnyH_take (i := 6) (oi := ⟨some 32, _, _, _, _, _⟩) (v := ?_) rfl (by kernel_rfl) (by kernel_rfl) (by kernel_rfl) (fun _ _ _ h => h) (Or.inl ⟨by rfl, ?_⟩) (by assumption) ?_; rotate_left; (focus (intro w hSw; (try dsimp only at hSw); go_simp; (try with_reducible rfl))); (try simp only [Act.put, List.setIfInBounds_toArray, List.set_cons_zero, List.set_cons_succ])
      refine wpAnyH_take (i := 7) (oi := ⟨some 33, _, _, _, _, _⟩) (v := ?_) rfl (by kernel_rfl) (by kernel_rfl) (by kernel_rfl) (fun _ _ _ h => h) (Or.inl ⟨by rfl, ?_⟩) (by assumption) ?_; rotate_left; (focus (intro w hSw; (try dsimp only at hSw); go_simp; (try with_reducible rfl))); (try simp only [Act.put, List.setIfInBounds_toArray, List.set_cons_zero, List.set_cons_succ])
      refine wpAnyH_take (i := 8) (oi := ⟨some 34, _, _, _, _, _⟩) (v := ?_) rfl (by kernel_rfl) (by kernel_rfl) (by kernel_rfl) (fun _ _ _ h => h) (Or.inl ⟨by rfl, ?_⟩) (by assumption) ?_; rotate_left; (focus (intro w hSw; (try dsimp only at hSw); go_simp; (try with_reducible rfl))); (try simp only [Act.put, List.setIfInBounds_toArray, List.set_cons_zero, List.set_cons_succ])
      refine wpAnyH_ready (rs := [9]) (by kernel_rfl) (by simp) ?_; refine AllReadyH.cons (o := ⟨some 35, _, _, _, _, _⟩) rfl (fun K hK => ?_) AllReadyH.nil; go_simp
      refine hK.out _ _ q5 (fun hHeld => ?_); clear hK K; (try simp only [Act.put, List.setIfInBounds_toArray, List.set_cons_zero, List.set_cons_succ])
      refine wpAnyH_ready (rs := [10]) (by kernel_rfl) (by simp) ?_; refine AllReadyH.cons (o := ⟨some 36, _, _, _, _, _⟩) rfl (fun K hK => ?_) AllReadyH.nil; go_simp
      have HR5 := Lib.hid (HR4.out.alloc (.cells #[.int .i64 j, .int .i64 ((k : Int) - 1)] 3))
      have HO5 := Lib.hid (HO4.out.alloc (.cells #[.int .i64 j, .int .i64 ((k : Int) - 1)] 3))
      have HB5 := Lib.hid (HB4.out.alloc (.cells #[.int .i64 j, .int .i64 ((k : Int) - 1)] 3))
      have HG5 := Lib.hid (HG4.out.alloc (.cells #[.int .i64 j, .int .i64 ((k : Int) - 1)] 3))
      have HF5 := Lib.hid (HF4.out.trans (Frd.of_below (w' := w4.alloc (.cells #[.int .i64 j, .int .i64 ((k : Int) - 1)] 3)) ((Below.refl w4.heap.size w4).alloc (Nat.le_refl _) _) (by omega)))
      go_at_call 41
      refine (goodFormula_any g A n c bs (P + 2202) (some ⟨w4.heap.size, 0, none⟩) 2 2 [(j : Int), (k : Int) - 1] _ HR5.out.drew HN.out hby hs (by omega) rfl (by omega) ?_ ?_).mono ?_
      · intro _
        refine ⟨w4.heap.size, 0, rfl, by simp, fun i hi => ?_⟩
        have : i = 0 ∨ i = 1 := by simp at hi; omega
        rcases this with rfl | rfl <;> go_simp
      · intro b' o' e; cases e; omega
      rintro e w5 ⟨Af, nf, cf, ps, rfl, hpl, hnf1, hnf2, hrow5, hr5, ht5'⟩
      have ht5 : Tch g (g + 1) (w4.alloc (.cells #[.int .i64 j, .int .i64 ((k : Int) - 1)] 3)) w5 := ⟨ht5'.os, ht5'.tape, ht5'.output, ht5'.size, ht5'.block⟩
      have hz5 : w4.heap.size + 1 ≤ w5.heap.size := by have := ht5.size; simpa using this
      have hps40 : ps.length ≤ 40 := by omega
      have HO6 := Lib.hid (HO5.out.turn ht5 (.inl (by omega)))
      have HB6 := Lib.hid (HB5.out.turn ht5 (.inl (by omega)))
      have HG6 := Lib.hid (HG5.out.turn ht5 (.inl (by omega)))
      have HOO := Lib.hid (HO6.out.it.setForm hjk hpl ((OwR.start hrow5).mono (by simp; omega) (Nat.le_refl _)) (show bG ≤ w5.heap.size by omega))
      have q6 := HG6.out.it
      obtain ⟨⟨y0, m0⟩, ⟨y1, m1⟩, e0, e1, _, _⟩ := HO6.out.it.node_cells hjk
      have hne : ∀ q : Nat, (⟨gn, q, none⟩ : Addr) ≠ ⟨bG, 0, none⟩ := fun q e => by have := congrArg Addr.block e; simp at this; omega
      have q7 : (w5.setCell ⟨gn, j * 2 + 1, none⟩ (.slice Af nf cf)).cell? ⟨bG, 0, none⟩ = some (.slice (some ⟨gn, 0, none⟩) k cg) := (World.cell?_setCell_other _ _ _ _ (hne _)).trans q6
      clear hrow5 hpl
      refine hK.out _ _ q6 (fun hHeld => ?_); clear hK K; (try simp only [Act.put, List.setIfInBounds_toArray, List.set_cons_zero, List.set_cons_succ])
      refine wpAnyH_take (i := 11) (oi := ⟨some 37, _, _, _, _, _⟩) (v := ?_) rfl (by kernel_rfl) (by kernel_rfl) (by kernel_rfl) (fun _ _ _ h => h) (Or.inl ⟨by rfl, ?_⟩) (by assumption) ?_; rotate_left; (focus (intro w hSw; (try dsimp only at hSw); go_simp; (try with_reducible rfl))); (try simp only [Act.put, List.setIfInBounds_toArray, List.set_cons_zero, List.set_cons_succ])
      refine wpAnyH_take (i := 12) (oi := ⟨some 38, _, _, _, _, _⟩) (v := ?_) rfl (by kernel_rfl) (by kernel_rfl) (by kernel_rfl) (fun _ _ _ h => h) (Or.inl ⟨by rfl, ?_⟩) (by assumption) ?_; rotate_left; (focus (intro w hSw; (try dsimp only at hSw); go_simp; (try with_reducible rfl))); (try simp only [Act.put, List.setIfInBounds_toArray, List.set_cons_zero, List.set_cons_succ])
      refine wpAnyH_ready (rs := [13]) (by kernel_rfl) (by simp) ?_; refine AllReadyH.cons (o := ⟨none, _, _, _, _, _⟩) rfl (fun K hK => ?_) AllReadyH.nil; go_simp
      refine hK.out _ _ q7 (fun hHeld => ?_); clear hK K; (try simp only [Act.put, List.setIfInBounds_toArray, List.set_cons_zero, List.set_cons_succ])
      refine wpAnyH_done (by kernel_rfl) ?_ _
      have HFF := Lib.hid ((HF5.out.trans (Frd.of_tch ht5 (by simp; omega))).trans (Frd.of_below ((Below.refl w.heap.size w5).setCell (p := ⟨gn, j * 2 + 1, none⟩) (by show w.heap.size ≤ gn; omega) (.slice Af nf cf)) (Nat.le_refl _)))
      have HRR := Lib.hid (hr5.set1 (show g < gn by omega) (j * 2 + 1) (.slice Af nf cf))
      have HBB := Lib.hid (HB6.out.keep (w' := w5.setCell ⟨gn, j * 2 + 1, none⟩ (.slice Af nf cf)) (fun k a b => Below.heap_setCell _ _ _ _ (by show k ≠ gn; omega)) (by simp [World.setCell]))
      have hsz5 : (w5.setCell ⟨gn, j * 2 + 1, none⟩ (.slice Af nf cf)).heap.size = w5.heap.size := by simp [World.setCell]
      have hz6 : w.heap.size < (w5.setCell ⟨gn, j * 2 + 1, none⟩ (.slice Af nf cf)).heap.size := by rw [hsz5]; omega
      obtain ⟨r0, r1⟩ := HBB.out.it
      have HSZ5 := Lib.hid hsz5
      clear hr5 ht5 ht5' hsz5
      go_wp2
      refine bodyPost_ret (v := .agg #[.slice (some ⟨gn, 0, none⟩) k cg]) (by simp [results, Try.results26, go_sem, r0]) rfl ?_
      generalize hW : w5.setCell ⟨gn, j * 2 + 1, none⟩ (.slice Af nf cf) = W6 at *
      have hsz : (W6.setCell ⟨w.heap.size, 0, none⟩ (.slice (some ⟨gn, 0, none⟩) k cg)).heap.size = W6.heap.size := by simp [World.setCell]
      refine ⟨_, k, gs.set j ⟨(gs.getD j default).k, ps⟩, rfl, hk2, hk10, small_set hsm hps40, ?_, (HRR.out.mono (by omega)).set1 hgw 0 _, (HFF.out.trans (Frd.of_below ((Below.refl w.heap.size _).setCell (p := ⟨w.heap.size, 0, none⟩) (Nat.le_refl _) _) (Nat.le_refl _))).tch⟩
      rw [hsz]
      exact (OwG.loc _ _ _ _ _ _ _ HOO.out fun b x y => Below.heap_setCell _ _ _ _ (by show b ≠ w.heap.size; omega)).mono (by omega) (by have := HSZ5.out; omega)
    · obtain ⟨r0, r1⟩ := HB4.out.it
      go_wp2
      refine bodyPost_ret (v := .agg #[.slice (some ⟨gn, 0, none⟩) k cg]) (by simp [results, Try.results26, go_sem, r0]) rfl ?_
      have hsz : (w4.setCell ⟨w.heap.size, 0, none⟩ (.slice (some ⟨gn, 0, none⟩) k cg)).heap.size = w4.heap.size := by simp [World.setCell]
      refine ⟨_, k, gs, rfl, hk2, hk10, hsm, ?_, (HR4.out.mono (by omega)).set1 hgw 0 _, (HF4.out.trans (Frd.of_below ((Below.refl w.heap.size _).setCell (p := ⟨w.heap.size, 0, none⟩) (Nat.le_refl _) _) (Nat.le_refl _))).tch⟩
      rw [hsz]
      exact (OwG.loc _ _ _ _ _ _ _ HO4.out.it fun b x y => Below.heap_setCell _ _ _ _ (by show b ≠ w.heap.size; omega)).mono (by omega) (by omega)
end Go.Proofs.Ytbnioefhfpahcaa

namespace Go.Proofs.Ytbnioefhfpahcaa
set_option linter.unusedSimpArgs false
set_option linter.unusedVariables false
open Go.RowKit
/-- Returns l numbers in a fresh block; the reader has picked Q times at most. -/
def CsP (g : Nat) (A : Option Addr) (n c : Nat) (bs : List Int) (Q : Nat) (l1 l2 : Nat) (w : World) (e : Ending) (w' : World) : Prop :=
  ∃ (v : Value) (xs : List Int), e = .returned v ∧ l1 ≤ xs.length ∧ xs.length ≤ l2 ∧ OwnI w' w.heap.size v xs ∧ Rdr g A n c bs Q w' ∧ Tch g (g + 1) w w'
set_option maxRecDepth 100000 in
set_option maxHeartbeats 3200000 in
theorem goodCells_any (g : Nat) (A : Option Addr) (n c : Nat) (bs : List Int) (P : Nat) (Ag : Option Addr) (k cg lo hi : Nat) (gs : List Nd) (w : World) (h : Rdr g A n c bs P w) (hn : n = bs.length) (hby : BY bs) (hs : n ≤ 2000) (hP : P ≤ 800000)
    (hg : As lo hi (OwG lo hi (.slice Ag k cg) k gs) w) (hlo : g < lo) (hk1 : 1 ≤ k) (hk : k ≤ 10) :
    Calls Try.prog 42 #[.pointer (some ⟨g, 0, none⟩), .agg #[.slice Ag k cg]] w fun e w' => CsP g A n c bs (P + 20) k k w e w' := by
  obtain ⟨i0, hi0, hz0, hz1, hz2⟩ := info_parts info_int
  have hgw := h.lt
  have hhi := hg.le
  have HN := Lib.hid hn
  have HR0 := Lib.hid ((h.alloc (.cells #[.slice Ag k cg] 25)).alloc (.cells #[] 3))
  have HA0 := Lib.hid ((hg.alloc (.cells #[.slice Ag k cg] 25)).alloc (.cells #[] 3))
  have HB0 := Lib.hid ((box_new w (.slice Ag k cg) 25).alloc (.cells #[] 3))
  have hrow0 := World.ownsRow_lit (e := 3) (size := 1) (base := w.heap.size + 1) (w.alloc (.cells #[.slice Ag k cg] 25)) #[] 0 (by simp) (by unfold maxLen; omega) (by simp)
  have HROW := Lib.hid (OwR.start hrow0)
  have hBW : Below w.heap.size w ((w.alloc (.cells #[.slice Ag k cg] 25)).alloc (.cells #[] 3)) := ((Below.refl _ _).alloc (Nat.le_refl _) _).alloc (by simp) _
  have HF0 := Lib.hid (Frd.of_below (g := g) (s := w.heap.size) hBW (Nat.le_refl _))
  clear h hn hg hrow0 hBW
  go_enter Try.func42, Try.ntmps42
  go_wp2
  go_loopw [5, 6] (fun v u wr => ∃ (i : Nat) (xs : List Int), i ≤ k ∧ u = .int .i64 i ∧ xs.length = i ∧ Hid (OwR (w.heap.size + 1) wr.heap.size 3 1 v i (xs.map (Value.int .i64)) wr) ∧ Hid (As lo hi (OwG lo hi (.slice Ag k cg) k gs) wr) ∧ Hid (As w.heap.size (w.heap.size + 1) (fun w' => w'.cell? ⟨w.heap.size, 0, none⟩ = some (.slice Ag k cg)) wr) ∧ Hid (Rdr g A n c bs (P + 2 * i) wr) ∧ Hid (Frd g w.heap.size w wr)) (fun _ u _ => k - (intOf u).toNat)
  case atStart => exact ⟨0, [], Nat.zero_le _, rfl, rfl, by simpa [Hid] using HROW.out, HA0.out, HB0.out, by simpa [Hid] using HR0.out, HF0.out⟩
  case round =>
    obtain ⟨i, xs, hik, rfl, hxl, HO, HA, HB, HR, HF⟩ := hrel
    obtain ⟨Av, cv, rfl⟩ := row_form' HO.out.1
    have hwr : w.heap.size + 1 ≤ wr.heap.size := HB.out.le
    have qb := HB.out.it
    by_cases hlt : i < k
    · obtain ⟨b, off, rfl, hbB, hcc⟩ := HA.out.it.nodes (by have := HA.out.it.1; omega)
      obtain ⟨c0, _⟩ := hcc i (by have := HA.out.it.1; omega)
      have hbw : b < wr.heap.size := by omega
      clear HROW HA0 HB0 HR0 HF0
      generalize gs.getD i default = d at c0
      cases hd : (d.k == 0)
      · have HOa := Lib.hid HO.out
        have HAa := Lib.hid HA.out
        have HBa := Lib.hid HB.out
        have HRa := Lib.hid HR.out
        have HFa := Lib.hid HF.out
        clear HO HA HB HR HF
        have HAb := Lib.hid (HAa.out.alloc (.cells #[.int .i64 0] 3))
        have HBb := Lib.hid (HBa.out.alloc (.cells #[.int .i64 0] 3))
        have HRb := Lib.hid (HRa.out.alloc (.cells #[.int .i64 0] 3))
        have HFb := Lib.hid (HFa.out.trans (Frd.of_below (w' := wr.alloc (.cells #[.int .i64 0] 3)) ((Below.refl wr.heap.size wr).alloc (Nat.le_refl _) _) (by omega)))
        go_wp2_with (at_builtin; refine wpList_append_own _ rfl _ _ 26 rfl (w.heap.size + 1) 3 i0 (.int .i64 0) 1 8 Try.underlying26 hi0 hz0 hz1 hz2 rfl (by decide) _ _ _ rfl (HOa.out.1.alloc _) ⟨_, 0, none⟩ 1 1 [.int .i64 0] rfl rfl (cell_one_new _ _ _) ?c2 ?c3 ?c4 ?c5 ?_)
        case c2 => first | rfl | (intro u hu; simp at hu; subst hu; rfl)
        case c3 => unfold maxLen; omega
        case c4 => omega
        case c5 => first | omega | (simp; omega)
        intro v9 w9 hown9 hgrow9 _
        have hpos := (HOa.out.1.alloc (.cells #[.int .i64 0] 3)).lt
        have hb9 : Below (w.heap.size + 1) (wr.alloc (.cells #[.int .i64 0] 3)) w9 := (Below.refl _ _).grown hgrow9 (by simp; omega) (fun q hq => (hpos q hq).1)
        have ht9 : Tch (w.heap.size + 1) (wr.heap.size + 1) (wr.alloc (.cells #[.int .i64 0] 3)) w9 := Tch.of_grown hgrow9 fun q hq => by have := hpos q hq; simp at this; omega
        have HA9 := Lib.hid (HAb.out.turn ht9 (.inr (by omega)))
        have HB9 := Lib.hid (HBb.out.turn ht9 (.inr (Nat.le_refl _)))
        have HR9 := Lib.hid (HRb.out.turn ht9 (by omega))
        have HF9 := Lib.hid (HFb.out.trans (Frd.of_below hb9 (by omega)))
        have HO9 : Hid (OwR (w.heap.size + 1) w9.heap.size 3 1 v9 (i + 1) ((xs ++ [(0 : Int)]).map (Value.int .i64)) w9) := ⟨by simpa using hown9, fun q hq => (hown9.lt q hq).2⟩
        clear hown9 hgrow9 hpos hb9 ht9
        go_wp2
        go_roundw
        case rel => exact ⟨i + 1, xs ++ [(0 : Int)], by omega, by go_num, by simp [hxl], HO9.out, HA9.out, HB9.out, HR9.out.mono (by omega), HF9.out⟩
        case measure => simp [intOf]; omega
      · go_wp2_with fail
        refine (pick_any g A n c bs (P + 2 * i) 1000 _ HR.out HN.out hby hs (by omega) (by omega)).mono ?_
        rintro e w3 ⟨y, rfl, _, _, hr3, ht3⟩
        have hs3 := ht3.size
        have HR3 := Lib.hid (hr3.alloc (.cells #[.int .i64 0, .int .i64 1, .int .i64 y, .int .i64 2, .int .i64 5] 3))
        have HA3 := Lib.hid ((HA.out.turn ht3 (.inl (by omega))).alloc (.cells #[.int .i64 0, .int .i64 1, .int .i64 y, .int .i64 2, .int .i64 5] 3))
        have HB3 := Lib.hid ((HB.out.turn ht3 (.inl (by omega))).alloc (.cells #[.int .i64 0, .int .i64 1, .int .i64 y, .int .i64 2, .int .i64 5] 3))
        have HF3 := Lib.hid ((HF.out.trans (Frd.of_tch ht3 (by omega))).trans (Frd.of_below (w' := w3.alloc (.cells #[.int .i64 0, .int .i64 1, .int .i64 y, .int .i64 2, .int .i64 5] 3)) ((Below.refl w3.heap.size w3).alloc (Nat.le_refl _) _) (by omega)))
        have HO3 := Lib.hid ((HO.out.keep (w' := w3) fun q hq hq' => ht3.block q hq' (.inr (by omega))).keep (w' := w3.alloc (.cells #[.int .i64 0, .int .i64 1, .int .i64 y, .int .i64 2, .int .i64 5] 3)) fun q hq hq' => Below.heap_alloc _ _ _ (by omega))
        clear hr3 ht3 HO HA HB HR HF
        go_wp2_with fail
        refine (one_any g A n c bs (P + 2 * i + 1) w3.heap.size 0 5 5 [0, 1, y, 2, 5] _ HR3.out HN.out hby hs (by omega) rfl (by omega) (by omega) ?_ (by omega) (by simp)).mono ?_
        · intro j hj
          have : j = 0 ∨ j = 1 ∨ j = 2 ∨ j = 3 ∨ j = 4 := by omega
          rcases this with rfl | rfl | rfl | rfl | rfl <;> go_simp
        rintro e w4 ⟨z, rfl, _, hr4, ht4⟩
        have hs4 : w3.heap.size + 1 ≤ w4.heap.size := by have := ht4.size; simpa using this
        have HRa := Lib.hid hr4
        have HAa := Lib.hid (HA3.out.turn ht4 (.inl (by omega)))
        have HBa := Lib.hid (HB3.out.turn ht4 (.inl (by omega)))
        have HFa := Lib.hid (HF3.out.trans (Frd.of_tch ht4 (by simp; omega)))
        have HOa := Lib.hid ((HO3.out.keep (w' := w4) fun q hq hq' => ht4.block q (by simp; omega) (.inr (by omega))).mono (Nat.le_refl _) (show wr.heap.size ≤ w4.heap.size by omega))
        clear hr4 ht4 HR3 HA3 HB3 HF3 HO3
        have HAb := Lib.hid (HAa.out.alloc (.cells #[.int .i64 z] 3))
        have HBb := Lib.hid (HBa.out.alloc (.cells #[.int .i64 z] 3))
        have HRb := Lib.hid (HRa.out.alloc (.cells #[.int .i64 z] 3))
        have HFb := Lib.hid (HFa.out.trans (Frd.of_below (w' := w4.alloc (.cells #[.int .i64 z] 3)) ((Below.refl w4.heap.size w4).alloc (Nat.le_refl _) _) (by omega)))
        go_wp2_with (at_builtin; refine wpList_append_own _ rfl _ _ 26 rfl (w.heap.size + 1) 3 i0 (.int .i64 0) 1 8 Try.underlying26 hi0 hz0 hz1 hz2 rfl (by decide) _ _ _ rfl (HOa.out.1.alloc _) ⟨_, 0, none⟩ 1 1 [.int .i64 z] rfl rfl (cell_one_new _ _ _) ?c2 ?c3 ?c4 ?c5 ?_)
        case c2 => first | rfl | (intro u hu; simp at hu; subst hu; rfl)
        case c3 => unfold maxLen; omega
        case c4 => omega
        case c5 => first | omega | (simp; omega)
        intro v9 w9 hown9 hgrow9 _
        have hpos := (HOa.out.1.alloc (.cells #[.int .i64 z] 3)).lt
        have hb9 : Below (w.heap.size + 1) (w4.alloc (.cells #[.int .i64 z] 3)) w9 := (Below.refl _ _).grown hgrow9 (by simp; omega) (fun q hq => (hpos q hq).1)
        have ht9 : Tch (w.heap.size + 1) (w4.heap.size + 1) (w4.alloc (.cells #[.int .i64 z] 3)) w9 := Tch.of_grown hgrow9 fun q hq => by have := hpos q hq; simp at this; omega
        have HA9 := Lib.hid (HAb.out.turn ht9 (.inr (by omega)))
        have HB9 := Lib.hid (HBb.out.turn ht9 (.inr (Nat.le_refl _)))
        have HR9 := Lib.hid (HRb.out.turn ht9 (by omega))
        have HF9 := Lib.hid (HFb.out.trans (Frd.of_below hb9 (by omega)))
        have HO9 : Hid (OwR (w.heap.size + 1) w9.heap.size 3 1 v9 (i + 1) ((xs ++ [(z : Int)]).map (Value.int .i64)) w9) := ⟨by simpa using hown9, fun q hq => (hown9.lt q hq).2⟩
        clear hown9 hgrow9 hpos hb9 ht9
        go_wp2
        go_roundw
        case rel => exact ⟨i + 1, xs ++ [(z : Int)], by omega, by go_num, by simp [hxl], HO9.out, HA9.out, HB9.out, HR9.out.mono (by omega), HF9.out⟩
        case measure => simp [intOf]; omega
    · obtain rfl : i = k := by omega
      go_wp2
      go_ret
      exact ⟨_, xs, rfl, by omega, by omega, by unfold OwnI; rw [hxl]; exact own_mono HO.out.1 (by omega), HR.out.mono (by omega), HF.out.tch⟩
end Go.Proofs.Ytbnioefhfpahcaa

namespace Go.Proofs.Ytbnioefhfpahcaa
set_option linter.unusedSimpArgs false
set_option linter.unusedVariables false
open Go.RowKit
set_option maxRecDepth 100000 in
set_option maxHeartbeats 3200000 in
theorem someCells_any (g : Nat) (A : Option Addr) (n c : Nat) (bs : List Int) (P : Nat) (Ag : Option Addr) (k cg lo hi : Nat) (gs : List Nd) (w : World) (h : Rdr g A n c bs P w) (hn : n = bs.length) (hby : BY bs) (hs : n ≤ 2000) (hP : P ≤ 800000)
    (hg : As lo hi (OwG lo hi (.slice Ag k cg) k gs) w) (hlo : g < lo) (hk1 : 1 ≤ k) (hk : k ≤ 10) :
    Calls Try.prog 27 #[.pointer (some ⟨g, 0, none⟩), .agg #[.slice Ag k cg]] w fun e w' => CsP g A n c bs (P + 30) k (k + 1) w e w' := by
  obtain ⟨i0, hi0, hz0, hz1, hz2⟩ := info_parts info_int
  have hgw := h.lt
  have hhi := hg.le
  have HN := Lib.hid hn
  have HR0 := Lib.hid (h.alloc (.cells #[.slice Ag k cg] 25))
  have HA0 := Lib.hid (hg.alloc (.cells #[.slice Ag k cg] 25))
  have HF0 := Lib.hid (Frd.of_below (g := g) (s := w.heap.size) ((Below.refl w.heap.size w).alloc (Nat.le_refl _) (.cells #[.slice Ag k cg] 25)) (Nat.le_refl _))
  clear h hn hg
  go_enter Try.func27, Try.ntmps27
  go_wp2_with fail
  refine (goodCells_any g A n c bs P Ag k cg lo hi gs _ HR0.out HN.out hby hs (by omega) HA0.out hlo hk1 hk).mono ?_
  rintro e w1 ⟨v1, xs, rfl, hx1, hx2, hown, hr1, ht1⟩
  have hs1 : w.heap.size + 1 ≤ w1.heap.size := by have := ht1.size; simpa using this
  obtain ⟨l, hl⟩ : ∃ l, l = xs.length := ⟨_, rfl⟩
  unfold OwnI at hown
  rw [← hl] at hown hx1 hx2
  have HL := Lib.hid hl
  obtain ⟨go, co, rfl⟩ := row_pos hown (by omega)
  simp only [World.size_alloc] at hown
  have HO1 := Lib.hid (OwR.start hown)
  have HR1 := Lib.hid hr1
  have HF1 := Lib.hid (HF0.out.trans (Frd.of_tch ht1 (by simp)))
  clear hown hr1 ht1 HR0 HA0 HF0 hl
  go_wp2_with fail
  refine (pick_any g A n c bs (P + 20) 24 w1 HR1.out HN.out hby hs (by omega) (by omega)).mono ?_
  rintro e w2 ⟨x, rfl, _, _, hr2, ht2⟩
  have hs2 := ht2.size
  have HR2 := Lib.hid hr2
  have HF2 := Lib.hid (HF1.out.trans (Frd.of_tch ht2 (by omega)))
  have HO2 := Lib.hid (HO1.out.keep (w' := w2) fun q hq hq' => ht2.block q hq' (.inr (by omega)))
  clear hr2 ht2 HR1 HF1 HO1
  by_cases hx0 : x = 0
  · subst hx0
    have HRb := Lib.hid (HR2.out.alloc (.cells #[.int .i64 0] 3))
    have HFb := Lib.hid (HF2.out.trans (Frd.of_below (w' := w2.alloc (.cells #[.int .i64 0] 3)) ((Below.refl w2.heap.size w2).alloc (Nat.le_refl _) _) (by omega)))
    go_wp2_with (at_builtin; refine wpList_append_own _ rfl _ _ 26 rfl (w.heap.size + 1) 3 i0 (.int .i64 0) 1 8 Try.underlying26 hi0 hz0 hz1 hz2 rfl (by decide) _ _ _ rfl (HO2.out.1.alloc _) ⟨_, 0, none⟩ 1 1 [.int .i64 0] rfl rfl (cell_one_new _ _ _) ?c2 ?c3 ?c4 ?c5 ?_)
    case c2 => first | rfl | (intro u hu; simp at hu; subst hu; rfl)
    case c3 => unfold maxLen; omega
    case c4 => omega
    case c5 => first | omega | (simp; omega)
    intro v9 w9 hown9 hgrow9 _
    have hpos := (HO2.out.1.alloc (.cells #[.int .i64 0] 3)).lt
    have hb9 : Below (w.heap.size + 1) (w2.alloc (.cells #[.int .i64 0] 3)) w9 := (Below.refl _ _).grown hgrow9 (by simp; omega) (fun q hq => (hpos q hq).1)
    have ht9 : Tch (w.heap.size + 1) (w2.heap.size + 1) (w2.alloc (.cells #[.int .i64 0] 3)) w9 := Tch.of_grown hgrow9 fun q hq => by have := hpos q hq; simp at this; omega
    have HR9 := Lib.hid (HRb.out.turn ht9 (by omega))
    have HF9 := Lib.hid (HFb.out.trans (Frd.of_below hb9 (by omega)))
    have HO9 := Lib.hid hown9
    clear hown9 hgrow9 hpos hb9 ht9
    go_wp2
    go_ret
    refine ⟨_, xs ++ [0], rfl, by rw [List.length_append, ← HL.out]; simp; omega, by rw [List.length_append, ← HL.out]; simp; omega, ?_, HR9.out.mono (by omega), HF9.out.tch⟩
    unfold OwnI
    rw [List.length_append, ← HL.out]
    exact own_mono (by simpa using HO9.out) (by omega)
  · by_cases hx1 : x = 1
    · subst hx1
      have hlp : ((l : Nat) : Int) ≤ 1000000 := by omega
      go_wp2_with fail
      refine (pick_any g A n c bs (P + 21) l w2 HR2.out HN.out hby hs (by omega) (by omega)).mono ?_
      rintro e w3 ⟨j, rfl, hj, _, hr3, ht3⟩
      have hjl : j < l := by have := hj (by omega); omega
      have hs3 := ht3.size
      have HR3 := Lib.hid (hr3.alloc (.cells #[.int .i64 (-1), .int .i64 1000, .int .i64 7] 3))
      have HF3 := Lib.hid ((HF2.out.trans (Frd.of_tch ht3 (by omega))).trans (Frd.of_below (w' := w3.alloc (.cells #[.int .i64 (-1), .int .i64 1000, .int .i64 7] 3)) ((Below.refl w3.heap.size w3).alloc (Nat.le_refl _) _) (by omega)))
      have HO3 := Lib.hid ((HO2.out.keep (w' := w3) fun q hq hq' => ht3.block q (by omega) (.inr (by omega))).keep (w' := w3.alloc (.cells #[.int .i64 (-1), .int .i64 1000, .int .i64 7] 3)) fun q hq hq' => Below.heap_alloc _ _ _ (by omega))
      clear hj hr3 ht3 HR2 HF2 HO2
      go_wp2_with fail
      refine (one_any g A n c bs (P + 22) w3.heap.size 0 3 3 [-1, 1000, 7] _ HR3.out HN.out hby hs (by omega) rfl (by omega) (by omega) ?_ (by omega) (by simp)).mono ?_
      · intro j hj
        have : j = 0 ∨ j = 1 ∨ j = 2 := by omega
        rcases this with rfl | rfl | rfl <;> go_simp
      rintro e w4 ⟨z, rfl, _, hr4, ht4⟩
      have hs4 : w3.heap.size + 1 ≤ w4.heap.size := by have := ht4.size; simpa using this
      have HR5 := Lib.hid (hr4.turn (w' := w4.setCell ⟨go, j, none⟩ (.int .i64 z)) (Tch.of_grown (grown_setCell0 w4 go j (.int .i64 z)) fun k hk => by cases hk; exact ⟨Nat.le_refl _, Nat.lt_succ_self _⟩) (by have := (HO3.out.1.lt go rfl).1; omega))
      have hol : w.heap.size + 1 ≤ go := (HO3.out.1.lt go rfl).1
      have HF5 := Lib.hid ((HF3.out.trans (Frd.of_tch ht4 (by simp; omega))).trans (Frd.of_below (w' := w4.setCell ⟨go, j, none⟩ (.int .i64 z)) ((Below.refl w.heap.size w4).setCell (by show w.heap.size ≤ go; omega) _) (Nat.le_refl _)))
      have HO5 := Lib.hid (HO3.out.keep (w' := w4) fun q hq hq' => ht4.block q (by simp; omega) (.inr (by omega)))
      have u0 := HO5.out.1.cellAt j (by omega)
      have hxl : xs.length = l := HL.out.symm
      rw [List.getElem?_eq_getElem (by rw [List.length_map]; omega)] at u0
      have f0 := HO5.out.1.frozenAt j
      have hst := (HO5.out.1.stored j (.int .i64 z)).1
      rw [← List.map_set] at hst
      have HST := Lib.hid hst
      generalize (xs.map (Value.int .i64))[j]'_ = vv at u0
      have HXL := Lib.hid hxl
      clear hr4 ht4 hst hxl
      go_wp2
      go_ret
      exact ⟨_, xs.set j z, rfl, by rw [List.length_set, HXL.out]; omega, by rw [List.length_set, HXL.out]; omega, by unfold OwnI; rw [List.length_set, HXL.out]; exact own_mono HST.out (by omega), HR5.out.mono (by omega), HF5.out.tch⟩
    · go_wp2
      go_ret
      exact ⟨_, xs, rfl, by rw [← HL.out]; omega, by rw [← HL.out]; omega, by unfold OwnI; rw [← HL.out]; exact own_mono HO2.out.1 (by omega), HR2.out.mono (by omega), HF2.out.tch⟩
/-- Returns a graph and cells in fresh blocks. -/
def GcP (g : Nat) (A : Option Addr) (n c : Nat) (bs : List Int) (Q : Nat) (w : World) (e : Ending) (w' : World) : Prop :=
  ∃ (V : Value) (k : Nat) (gs : List Nd) (v : Value) (xs : List Int), e = .returned (.tuple #[.agg #[V], v]) ∧ 2 ≤ k ∧ k ≤ 10 ∧ (∀ j, (gs.getD j default).ps.length ≤ 40) ∧ k ≤ xs.length ∧ xs.length ≤ k + 1 ∧ OwG w.heap.size w'.heap.size V k gs w' ∧ OwnI w' w.heap.size v xs ∧ Rdr g A n c bs Q w' ∧ Tch g (g + 1) w w'
set_option maxRecDepth 100000 in
set_option maxHeartbeats 3200000 in
theorem graphOf_any (g : Nat) (A : Option Addr) (n c : Nat) (bs : List Int) (P : Nat) (w : World) (h : Rdr g A n c bs P w) (hn : n = bs.length) (hby : BY bs) (hs : n ≤ 2000) (hP : P ≤ 700000) :
    Calls Try.prog 14 #[.pointer (some ⟨g, 0, none⟩)] w fun e w' => GcP g A n c bs (P + 2600) w e w' := by
  have hgw := h.lt
  have HN := Lib.hid hn
  have HR0 := Lib.hid (h.alloc (.cells #[.slice none 0 0] 25))
  clear h hn
  go_enter Try.func14, Try.ntmps14
  go_wp2_with fail
  refine (someGraph_any g A n c bs P _ HR0.out HN.out hby hs (by omega)).mono ?_
  rintro e w1 ⟨V, k, gs, rfl, hk2, hk10, hsm, hown, hr1, ht1⟩
  have hs1 : w.heap.size + 1 ≤ w1.heap.size := by have := ht1.size; simpa using this
  obtain ⟨gn, cg, rfl⟩ := hown.pos (by omega)
  simp only [World.size_alloc] at hown
  obtain ⟨bG, hbG⟩ : ∃ bG, bG = w1.heap.size := ⟨_, rfl⟩
  have HBG := Lib.hid hbG
  have k0 : w1.cell? ⟨w.heap.size, 0, none⟩ = some (.slice none 0 0) := (World.cell?_of_block (a := ⟨w.heap.size, 0, none⟩) (ht1.block w.heap.size (by simp) (.inr (by omega)))).trans (by go_simp)
  have k1 : w1.frozen? ⟨w.heap.size, 0, none⟩ = false := (World.frozen?_of_block (a := ⟨w.heap.size, 0, none⟩) (ht1.block w.heap.size (by simp) (.inr (by omega)))).trans (by go_simp)
  have HB1 : Hid (As w.heap.size (w.heap.size + 1) (fun w' => w'.cell? ⟨w.heap.size, 0, none⟩ = some (.slice none 0 0) ∧ w'.frozen? ⟨w.heap.size, 0, none⟩ = false) w1) :=
    ⟨⟨k0, k1⟩, hs1, fun w w' h hk => ⟨(World.cell?_of_block (a := ⟨_, 0, none⟩) (hk _ (Nat.le_refl _) (Nat.lt_succ_self _))).trans h.1, (World.frozen?_of_block (a := ⟨_, 0, none⟩) (hk _ (Nat.le_refl _) (Nat.lt_succ_self _))).trans h.2⟩⟩
  have HO1 : Hid (As (w.heap.size + 1) bG (OwG (w.heap.size + 1) bG (.slice (some ⟨gn, 0, none⟩) k cg) k gs) w1) := by rw [hbG]; exact graph_start hown
  have HF1 := Lib.hid ((Frd.of_below (g := g) (s := w.heap.size) ((Below.refl w.heap.size w).alloc (Nat.le_refl _) (.cells #[.slice none 0 0] 25)) (Nat.le_refl _)).trans (Frd.of_tch ht1 (by simp)))
  have HR2 := Lib.hid (hr1.alloc (.cells #[.slice (some ⟨gn, 0, none⟩) k cg] 25))
  have HO2 := Lib.hid (HO1.out.alloc (.cells #[.slice (some ⟨gn, 0, none⟩) k cg] 25))
  have HB2 := Lib.hid (HB1.out.alloc (.cells #[.slice (some ⟨gn, 0, none⟩) k cg] 25))
  have HG2 := box_new w1 (.slice (some ⟨gn, 0, none⟩) k cg) 25
  rw [← hbG] at HG2
  have HG2 := Lib.hid HG2
  have HF2 := Lib.hid (HF1.out.trans (Frd.of_below (w' := w1.alloc (.cells #[.slice (some ⟨gn, 0, none⟩) k cg] 25)) ((Below.refl w1.heap.size w1).alloc (Nat.le_refl _) _) (by omega)))
  have hz2 : bG < (w1.alloc (.cells #[.slice (some ⟨gn, 0, none⟩) k cg] 25)).heap.size := by rw [hbG]; simp
  have hsG : w.heap.size + 1 ≤ bG := by omega
  have hgG : g < bG := by omega
  clear k0 k1 HB1 HO1 HF1 HR0 hown hr1 ht1 hbG
  have q2 := HG2.out.it
  obtain ⟨p0, p1⟩ := HB2.out.it
  have hwz : w.heap.size < (w1.alloc (.cells #[.slice (some ⟨gn, 0, none⟩) k cg] 25)).heap.size := by omega
  go_wp2
  rw [← HBG.out]
  generalize w1.alloc (.cells #[.slice (some ⟨gn, 0, none⟩) k cg] 25) = W2 at *
  refine wp_region_held_drew (S := fun w' => w'.cell? ⟨bG, 0, none⟩ = some (.slice (some ⟨gn, 0, none⟩) k cg)) (by kernel_rfl) q2 (fun hHeld => ?_)
  refine wpAnyH_take (i := 0) (oi := ⟨some 7, _, _, _, _, _⟩) (v := ?_) rfl (by kernel_rfl) (by kernel_rfl) (by kernel_rfl) (fun _ _ _ h => h) (Or.inl ⟨by rfl, ?_⟩) (by assumption) ?_; rotate_left; (focus (intro w hSw; (try dsimp only at hSw); go_simp; (try with_reducible rfl))); (try simp only [Act.put, List.setIfInBounds_toArray, List.set_cons_zero, List.set_cons_succ])
  refine wpAnyH_take (i := 1) (oi := ⟨some 8, _, _, _, _, _⟩) (v := ?_) rfl (by kernel_rfl) (by kernel_rfl) (by kernel_rfl) (fun _ _ _ h => h) (Or.inl ⟨by rfl, ?_⟩) (by assumption) ?_; rotate_left; (focus (intro w hSw; (try dsimp only at hSw); go_simp; (try with_reducible rfl))); (try simp only [Act.put, List.setIfInBounds_toArray, List.set_cons_zero, List.set_cons_succ])
  refine wpAnyH_take (i := 2) (oi := ⟨some 9, _, _, _, _, _⟩) (v := ?_) rfl (by kernel_rfl) (by kernel_rfl) (by kernel_rfl) (fun _ _ _ h => h) (Or.inl ⟨by rfl, ?_⟩) (by assumption) ?_; rotate_left; (focus (intro w hSw; (try dsimp only at hSw); go_simp; (try with_reducible rfl))); (try simp only [Act.put, List.setIfInBounds_toArray, List.set_cons_zero, List.set_cons_succ])
  refine wpAnyH_ready (rs := [3]) (by kernel_rfl) (by simp) ?_; refine AllReadyH.cons (o := ⟨some 10, _, _, _, _, _⟩) rfl (fun K hK => ?_) AllReadyH.nil; go_simp
  go_at_call 27
  refine (someCells_any g A n c bs (P + 2500) (some ⟨gn, 0, none⟩) k cg (w.heap.size + 1) bG gs _ HR2.out.drew HN.out hby hs (by omega) ⟨OwG.loc _ _ _ _ _ _ _ HO2.out.it fun _ _ _ => rfl, HO2.out.le, HO2.out.loc⟩ (by omega) (by omega) hk10).mono ?_
  rintro e w5 ⟨v5, xs, rfl, hx1, hx2, hown5, hr5, ht5'⟩
  have ht5 : Tch g (g + 1) W2 w5 := ⟨ht5'.os, ht5'.tape, ht5'.output, ht5'.size, ht5'.block⟩
  have hz5 := ht5.size
  obtain ⟨A5, c5, rfl, _⟩ := OwnI.form hown5
  unfold OwnI at hown5
  have HO6 := Lib.hid (HO2.out.turn ht5 (.inl (by omega)))
  have HB6 := Lib.hid (HB2.out.turn ht5 (.inl (by omega)))
  have HG6 := Lib.hid (HG2.out.turn ht5 (.inl (by omega)))
  have HF6 := Lib.hid (HF2.out.trans (Frd.of_tch ht5 (by omega)))
  have HR6 := Lib.hid hr5
  have HC6 := Lib.hid (show w5.ownsRow W2.heap.size 3 1 (.slice A5 xs.length c5) xs.length (xs.map (Value.int .i64)) from hown5)
  have q6 := HG6.out.it
  obtain ⟨r0, r1⟩ := HB6.out.it
  have q7 : (w5.setCell ⟨w.heap.size, 0, none⟩ (.slice (some ⟨gn, 0, none⟩) k cg)).cell? ⟨bG, 0, none⟩ = some (.slice (some ⟨gn, 0, none⟩) k cg) := (World.cell?_setCell_other _ _ _ _ (by intro e; have := congrArg Addr.block e; simp at this; omega)).trans q6
  clear hown5 hr5 ht5 ht5' HO2 HB2 HG2 HF2 HR2
  refine hK.out _ _ q6 (fun hHeld => ?_); clear hK K; (try simp only [Act.put, List.setIfInBounds_toArray, List.set_cons_zero, List.set_cons_succ])
  refine wpAnyH_ready (rs := [4]) (by kernel_rfl) (by simp) ?_; refine AllReadyH.cons (o := ⟨none, _, _, _, _, _⟩) rfl (fun K hK => ?_) AllReadyH.nil; go_simp
  refine hK.out _ _ q7 (fun hHeld => ?_); clear hK K; (try simp only [Act.put, List.setIfInBounds_toArray, List.set_cons_zero, List.set_cons_succ])
  refine wpAnyH_take (i := 5) (oi := ⟨some 3, _, _, _, _, _⟩) (v := ?_) rfl (by kernel_rfl) (by kernel_rfl) (by kernel_rfl) (fun _ _ _ h => h) (Or.inl ⟨by rfl, ?_⟩) (by assumption) ?_; rotate_left; (focus (intro w hSw; (try dsimp only at hSw); go_simp; (try with_reducible rfl))); (try simp only [Act.put, List.setIfInBounds_toArray, List.set_cons_zero, List.set_cons_succ])
  refine wpAnyH_done (by kernel_rfl) ?_ _
  have r2 : (w5.setCell ⟨w.heap.size, 0, none⟩ (.slice (some ⟨gn, 0, none⟩) k cg)).cell? ⟨w.heap.size, 0, none⟩ = some (.slice (some ⟨gn, 0, none⟩) k cg) := World.cell?_setCell_same _ _ _ r0
  go_wp2
  refine bodyPost_ret (v := .tuple #[.agg #[.slice (some ⟨gn, 0, none⟩) k cg], .slice A5 xs.length c5]) (by simp [results, Try.results14, go_sem, r2]) rfl ?_
  have hsz : (w5.setCell ⟨w.heap.size, 0, none⟩ (.slice (some ⟨gn, 0, none⟩) k cg)).heap.size = w5.heap.size := by simp [World.setCell]
  refine ⟨_, k, gs, _, xs, rfl, hk2, hk10, hsm, by omega, by omega, ?_, ?_, (HR6.out.mono (by omega)).set1 hgw 0 _, (HF6.out.trans (Frd.of_below ((Below.refl w.heap.size _).setCell (p := ⟨w.heap.size, 0, none⟩) (Nat.le_refl _) _) (Nat.le_refl _))).tch⟩
  · rw [hsz]
    exact (OwG.loc _ _ _ _ _ _ _ HO6.out.it fun b x y => Below.heap_setCell _ _ _ _ (by show b ≠ w.heap.size; omega)).mono (by omega) (by omega)
  · unfold OwnI
    exact own_mono (own_keep HC6.out fun b x y => Below.heap_setCell _ _ _ _ (by show b ≠ w.heap.size; omega)) (by omega)
end Go.Proofs.Ytbnioefhfpahcaa

namespace Go.Proofs.Ytbnioefhfpahcaa
set_option linter.unusedSimpArgs false
set_option linter.unusedVariables false
open Go.RowKit
/-- Returns a graph and cells that lie in memory. -/
def DrGC (w : World) (e : Ending) (w' : World) : Prop :=
  ∃ (A : Option Addr) (n c : Nat) (gs : List Nd) (E : Option Addr) (m d : Nat) (xs : List Int), e = .returned (.tuple #[.agg #[.slice A n c], .slice E m d]) ∧ n = gs.length ∧ 2 ≤ n ∧ n ≤ 10 ∧ n ≤ c ∧ (∀ j, (gs.getD j default).ps.length ≤ 40) ∧ m = xs.length ∧ n ≤ m ∧ m ≤ n + 1 ∧ m ≤ d ∧ GS w' w'.heap.size A gs ∧ IS w' w'.heap.size E xs ∧ Below w.heap.size w w'
theorem GB.of_drawn {gs : List Nd} (h : gs.length ≤ 10) (h' : ∀ j, (gs.getD j default).ps.length ≤ 40) : GB gs := ⟨by omega, fun j => by have := h' j; omega⟩
theorem below_set0 {w w' : World} (h : Below w.heap.size w w') (v : Value) : Below w.heap.size w (w'.setCell ⟨w.heap.size, 0, none⟩ v) := h.setCell (Nat.le_refl _) _
set_option maxHeartbeats 1600000 in
theorem spec_DrawStartLazy (A : Option Addr) (n c : Nat) (bs : List Int) (w : World) (hn : n = bs.length) (hnc : n ≤ c) (h : BS w w.heap.size A bs) (hy : BY bs) (hs : n ≤ 1048576) :
    Calls Try.prog 4 #[.slice A n c] w fun e w' => DrGC w e w' := by
  have h1 : BS (w.alloc (.cells #[.slice none 0 0] 25)) w.heap.size A bs := h.keep fun p hp => World.cell?_alloc_lt w _ p (by omega)
  have HC := Lib.hid (spec_newReader A n c bs _ w.heap.size (by simp) hn hnc h1 hy hs)
  clear hn hnc h h1 hy hs
  go_enter Try.func4, Try.ntmps4
  go_wp2_with fail
  refine HC.out.mono ?_
  rintro e w1 ⟨g, A1, n1, c1, ds, rfl, hn1, hn2, hy1, hr, hg, hb⟩
  have q0 : w1.cell? ⟨w.heap.size, 0, none⟩ = some (.slice none 0 0) := (hb.cell (p := ⟨w.heap.size, 0, none⟩) (by simp)).trans (by go_simp)
  have f0 : w1.frozen? ⟨w.heap.size, 0, none⟩ = false := (hb.frozen (p := ⟨w.heap.size, 0, none⟩) (by simp)).trans (by go_simp)
  have hl1 : w.heap.size < w1.heap.size := by have := hb.size; simp at this; omega
  have hgw : w.heap.size < g := by simp at hg; omega
  have HB1 := Lib.hid (((Below.refl w.heap.size w).alloc (Nat.le_refl _) (.cells #[.slice none 0 0] 25)).trans (hb.mono (by simp)))
  have HS := Lib.hid (graphOf_any g A1 n1 c1 ds 0 w1 hr hn1 hy1 hn2 (by omega))
  clear hn1 hr hb HC hy1
  go_wp2_with fail
  refine HS.out.mono ?_
  rintro e w2 ⟨V, k, gs, v3, xs, rfl, hk2, hk10, hsm, hx1, hx2, ho, ho3, _, ht⟩
  obtain ⟨A2, c2, rfl⟩ := ho.form
  obtain ⟨A3, c3, rfl, _⟩ := OwnI.form ho3
  unfold OwnI at ho3
  have q1 := (World.cell?_of_block (a := ⟨w.heap.size, 0, none⟩) (ht.block w.heap.size hl1 (.inl hgw))).trans q0
  have f1 := (World.frozen?_of_block (a := ⟨w.heap.size, 0, none⟩) (ht.block w.heap.size hl1 (.inl hgw))).trans f0
  have hl2 : w.heap.size < w2.heap.size := Nat.lt_of_lt_of_le hl1 ht.size
  have HB2 := Lib.hid (HB1.out.trans (ht.below (B := w.heap.size) (by omega) (by omega)))
  have HO := Lib.hid ho
  have HO3 := Lib.hid ho3
  clear ho ht q0 f0 ho3
  go_wp2
  refine bodyPost_ret (v := .tuple #[.agg #[.slice A2 k c2], .slice A3 xs.length c3]) (by simp [results, Try.results4, go_sem, q1]) rfl ?_
  have h3 : OwG w1.heap.size w2.heap.size (.slice A2 k c2) k gs (w2.setCell ⟨w.heap.size, 0, none⟩ (.slice A2 k c2)) := OwG.loc _ _ _ _ _ _ _ HO.out fun b x y => Below.heap_setCell _ _ _ _ (by show b ≠ w.heap.size; omega)
  have h4 : (w2.setCell ⟨w.heap.size, 0, none⟩ (.slice A2 k c2)).ownsRow w1.heap.size 3 1 (.slice A3 xs.length c3) xs.length (xs.map (Value.int .i64)) := own_keep HO3.out fun b x y => Below.heap_setCell _ _ _ _ (by show b ≠ w.heap.size; omega)
  exact ⟨A2, k, c2, gs, A3, xs.length, c3, xs, rfl, h3.1, hk2, hk10, h3.ncap, hsm, rfl, hx1, hx2, own_ncap h4, h3.nodes.more (by simp [World.setCell]), IS.of_own h4, below_set0 HB2.out _⟩
end Go.Proofs.Ytbnioefhfpahcaa

namespace Go.Proofs.Ytbnioefhfpahcaa
set_option linter.unusedSimpArgs false
set_option linter.unusedVariables false
open Go.ChangeShapes Go.WideShapes Go.ChangeAt Go.RowKit Go.Deep
theorem own : ownKnob Try.prog.godebug = none := by kernel_rfl
theorem laidOut : laidOutB Try.prog = true := by kernel_rfl
theorem add_of (b off n : Nat) : (⟨b, off, none⟩ : Addr).add n = ⟨b, off + n, none⟩ := by
  unfold Addr.add
  by_cases h : n = 0 <;> simp [h]
end Go.Proofs.Ytbnioefhfpahcaa

namespace Go.Proofs.Ytbnioefhfpahcaa
set_option linter.unusedSimpArgs false
set_option linter.unusedVariables false
open Go.ChangeShapes Go.WideShapes Go.ChangeAt Go.RowKit
theorem cells_u8 : Try.prog.cellsOf 5 = 1 := by kernel_rfl
section
variable {H : Type} {enc : TypeId × Value → H} {w : World} {base : Nat} {spare : Nat → Bool} {held : Bool}
set_option maxRecDepth 100000 in
theorem open_code {r : Reach} {b0 : Nat} {v : Value} {d : DataW H} {p : List MemPlace} (hv : Value.okWide Try.prog w r b0 22 v) (h : DataW.Trod enc Try.prog w base spare held 22 v d p) :
    ∃ (A : Option Addr) (n c : Nat) (bs : List Int), v = .slice A n c ∧ n = bs.length ∧ n ≤ c ∧ n ≤ 9223372036854775807 ∧ BY bs ∧ BS w w.heap.size A bs := by
  obtain ⟨a0, len0, cap0, rfl⟩ := okWide_slice Try.underlying22 hv
  obtain ⟨fuel, hf⟩ := h
  rcases open_ints Try.underlying22 Try.underlying5 cells_u8 hf with ⟨hcs, _⟩ | ⟨x, l, c, zs, hcs, _, hl, hm, hz, _, hcell, hwz⟩
  · simp [Value.cells] at hcs
    obtain ⟨rfl, rfl, rfl⟩ := hcs
    exact ⟨none, 0, 0, [], rfl, rfl, Nat.le_refl _, by omega, fun j => by simp [List.getD], fun h => absurd h (by simp)⟩
  · simp [Value.cells] at hcs
    obtain ⟨rfl, rfl, rfl⟩ := hcs
    have hzl : len0 ≤ zs.length := by rw [hz]; split <;> omega
    have hby : BY (zs.take len0) := by
      intro j
      have hall : ∀ y ∈ zs, 0 ≤ y ∧ y ≤ 255 := by
        intro y hy
        have := hwz y hy
        have this : (decide (IntKind.u8.min ≤ y) && decide (y ≤ IntKind.u8.max)) = true := this
        have e1 : IntKind.u8.min = 0 := by decide
        have e2 : IntKind.u8.max = 255 := by decide
        rw [e1, e2] at this
        simpa using this
      rcases hg : (zs.take len0)[j]? with _ | y
      · simp [List.getD, hg]
      · have hm2 : y ∈ zs := List.mem_of_mem_take (List.mem_of_getElem? hg)
        simpa [List.getD, hg] using hall y hm2
    refine ⟨some x, len0, cap0, zs.take len0, rfl, by simp; omega, hl, by unfold maxLen at hm; omega, hby, fun hn => ?_⟩
    have hlen : (zs.take len0).length = len0 := by simp; omega
    have h0 := hcell 0 (by omega)
    obtain ⟨b, off, spot⟩ := x
    have hspot : spot = none := by
      have h1 : w.cell? ⟨b, off, spot⟩ = some (.int .u8 (zs.getD 0 0)) := by simpa [Addr.add] using h0
      exact World.cell?_spot h1
    subst hspot
    have hblk : b < w.heap.size := by
      have h1 : w.cell? ⟨b, off, none⟩ = some (.int .u8 (zs.getD 0 0)) := by simpa [Addr.add] using h0
      exact World.block_lt_of_cell? w _ h1
    refine ⟨b, off, rfl, hblk, fun j hj => ?_⟩
    have g := hcell j (by omega)
    rw [add_of] at g
    rw [g]
    congr 2
    simp only [List.getD, List.getElem?_take, if_pos (show j < len0 by omega)]
end
end Go.Proofs.Ytbnioefhfpahcaa
