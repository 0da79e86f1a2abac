/- Words and contracts for memory that the texts behind use. -/
import Derived.Test.YtgakgmkonmgblaaGreatA9c
import Derived.WalkKit
import Derived.Laws.OwnMore
import Derived.Deep.Draws
import Derived.Test.YtgakgmkonmgblaaGreatProg
import Derived.WalkSpells
import Derived.WalkLawsBesides
import Derived.Outline
import Derived.Lib.Hide
import Derived.BigQuiet
import Derived.Deep.QuietTactic
import Derived.StillTailTactics
import Derived.Deep.LoopGhost
import Derived.Laws.MakeOwn
import Derived.WalkSmall
import Derived.RegionTactic
import Derived.BigRegion
import Derived.Deep.RegionWith
import Derived.Deep.RegionHeld3
import Derived.Laws.Entries
import Derived.Laws.Bits64
import Derived.IntWalk
import Derived.Maps.AppendAt
import Derived.Deep.RegionLaw
import Derived.Deep.AppendLies
import Derived.Deep.Cut
import Derived.Deep.DeepCutAuto
import Derived.Laws.CopyOwn

namespace Go.Proofs.YtgakgmkonmgblaaGreat
set_option linter.unusedSimpArgs false
set_option linter.unusedVariables false
open Go.RowKit
/-- The two boxes of an answer, as they are made. -/
def AB (s : Nat) (w : World) : Prop := w.cell? ⟨s, 0, none⟩ = some (.slice none 0 0) ∧ w.frozen? ⟨s, 0, none⟩ = false ∧ w.cell? ⟨s + 1, 0, none⟩ = some (.slice none 0 0) ∧ w.cell? ⟨s + 1, 1, none⟩ = some (.slice none 0 0) ∧ w.frozen? ⟨s + 1, 0, none⟩ = false ∧ w.frozen? ⟨s + 1, 1, none⟩ = false
theorem AB.loc (s : Nat) : Loc s (s + 2) (AB s) := by
  rintro w w' ⟨h0, h1, h2, h3, h4, h5⟩ hk
  have c (b j : Nat) (h1 : s ≤ b) (h2 : b < s + 2) : w'.cell? ⟨b, j, none⟩ = w.cell? ⟨b, j, none⟩ := World.cell?_of_block (a := ⟨b, j, none⟩) (hk b h1 h2)
  have f (b j : Nat) (h1 : s ≤ b) (h2 : b < s + 2) : w'.frozen? ⟨b, j, none⟩ = w.frozen? ⟨b, j, none⟩ := World.frozen?_of_block (a := ⟨b, j, none⟩) (hk b h1 h2)
  exact ⟨(c s 0 (by omega) (by omega)).trans h0, (f s 0 (by omega) (by omega)).trans h1, (c (s + 1) 0 (by omega) (by omega)).trans h2, (c (s + 1) 1 (by omega) (by omega)).trans h3, (f (s + 1) 0 (by omega) (by omega)).trans h4, (f (s + 1) 1 (by omega) (by omega)).trans h5⟩
/-- The answer is laid into its boxes. -/
def AS (s : Nat) (x a b : Value) (w : World) : World := ((w.setCell ⟨s, 0, none⟩ x).setCell ⟨s + 1, 0, none⟩ a).setCell ⟨s + 1, 1, none⟩ b
theorem AS.size (s : Nat) (x a b : Value) (w : World) : (AS s x a b w).heap.size = w.heap.size := by simp [AS, World.setCell]
theorem AS.block (s : Nat) (x a b : Value) (w : World) (k : Nat) (hk : s + 2 ≤ k ∨ k < s) : (AS s x a b w).heap[k]? = w.heap[k]? := by
  unfold AS
  rw [Below.heap_setCell _ _ _ _ (by show k ≠ s + 1; omega), Below.heap_setCell _ _ _ _ (by show k ≠ s + 1; omega), Below.heap_setCell _ _ _ _ (by show k ≠ s; omega)]
theorem AS.cells {s : Nat} {x a b : Value} {w : World} (h : AB s w) : (AS s x a b w).cell? ⟨s, 0, none⟩ = some x ∧ (AS s x a b w).cell? ⟨s + 1, 0, none⟩ = some a ∧ (AS s x a b w).cell? ⟨s + 1, 1, none⟩ = some b := by
  obtain ⟨h0, h1, h2, h3, h4, h5⟩ := h
  unfold AS
  refine ⟨?_, ?_, ?_⟩
  · rw [World.cell?_setCell_other _ _ _ _ (by intro e; simp at e), World.cell?_setCell_other _ _ _ _ (by intro e; simp at e)]
    exact World.cell?_setCell_same _ _ _ h0
  · rw [World.cell?_setCell_other _ _ _ _ (by intro e; cases e)]
    exact World.cell?_setCell_same _ _ _ ((World.cell?_setCell_other _ _ _ _ (by intro e; simp at e)).trans h2)
  · exact World.cell?_setCell_same _ _ _ ((World.cell?_setCell_other _ _ _ _ (by intro e; cases e)).trans ((World.cell?_setCell_other _ _ _ _ (by intro e; simp at e)).trans h3))
theorem AS.below (s : Nat) (x a b : Value) (w : World) : Below s w (AS s x a b w) := (((Below.refl s w).setCell (p := ⟨s, 0, none⟩) (Nat.le_refl _) x).setCell (p := ⟨s + 1, 0, none⟩) (Nat.le_succ _) a).setCell (p := ⟨s + 1, 1, none⟩) (Nat.le_succ _) b
theorem AS.rdr {g s n c P : Nat} {A : Option Addr} {bs : List Int} {x a b : Value} {w : World} (h : Rdr g A n c bs P w) (hg : g < s) : Rdr g A n c bs P (AS s x a b w) := ((h.set1 hg 0 x).set1 (show g < s + 1 by omega) 0 a).set1 (show g < s + 1 by omega) 1 b
/-- Returns a graph and an eager state in fresh blocks. -/
def EgP (g : Nat) (A : Option Addr) (n c : Nat) (bs : List Int) (Q : Nat) (w : World) (e : Ending) (w' : World) : Prop :=
  ∃ (V : Value) (k : Nat) (gs : List Nd) (A2 : Option Addr) (m2 c2 : Nat) (E2 : Option Addr) (p2 e2 : Nat) (st : Eg), e = .returned (.tuple #[.agg #[V], .agg #[.slice A2 m2 c2, .slice E2 p2 e2]]) ∧ 2 ≤ k ∧ k ≤ 10 ∧ (∀ j, (gs.getD j default).ps.length ≤ 40) ∧ m2 = st.vs.length ∧ p2 = st.rs.length ∧ EM st ∧ OwG w.heap.size w'.heap.size V k gs w' ∧ ESL w.heap.size w'.heap.size A2 E2 st w' ∧ Rdr g A n c bs Q w' ∧ Tch g (g + 1) w w'
theorem EgP.fin0 {g : Nat} {A : Option Addr} {n c : Nat} {bs : List Int} {Q hi : Nat} {w X Y : World} {V : Value} {k : Nat} {gs : List Nd} {A2 : Option Addr} {m2 c2 : Nat} {E2 : Option Addr} {p2 e2 : Nat} {st : Eg} (h2 : 2 ≤ k) (h10 : k ≤ 10) (hsm : ∀ j, (gs.getD j default).ps.length ≤ 40) (hm : m2 = st.vs.length) (hp : p2 = st.rs.length) (hem : EM st)
    (hO : OwG (w.heap.size + 2) hi V k gs X) (hE : ESL (w.heap.size + 2) hi A2 E2 st X) (hhi : hi ≤ X.heap.size) (hF : Frd g w.heap.size w X)
    (hY : Below w.heap.size X Y) (hk : ∀ b, w.heap.size + 2 ≤ b → Y.heap[b]? = X.heap[b]?) (hs : Y.heap.size = X.heap.size) (hR : Rdr g A n c bs Q Y) :
    EgP g A n c bs Q w (.returned (.tuple #[.agg #[V], .agg #[.slice A2 m2 c2, .slice E2 p2 e2]])) Y :=
  ⟨V, k, gs, A2, m2, c2, E2, p2, e2, st, rfl, h2, h10, hsm, hm, hp, hem, by rw [hs]; exact (OwG.loc _ _ _ _ _ _ _ hO fun b x _ => hk b x).mono (by omega) hhi, by rw [hs]; exact (ESL.loc _ _ _ _ _ _ _ hE fun b x _ => hk b x).mono (by omega) hhi, hR, (hF.trans (Frd.of_below hY (Nat.le_refl _))).tch⟩
theorem EgP.fin {g : Nat} {A : Option Addr} {n c : Nat} {bs : List Int} {Q hi : Nat} {w X : World} {V : Value} {k : Nat} {gs : List Nd} {A2 : Option Addr} {m2 c2 : Nat} {E2 : Option Addr} {p2 e2 : Nat} {st : Eg} (hg : g < w.heap.size) (h2 : 2 ≤ k) (h10 : k ≤ 10) (hsm : ∀ j, (gs.getD j default).ps.length ≤ 40) (hm : m2 = st.vs.length) (hp : p2 = st.rs.length) (hem : EM st)
    (hO : OwG (w.heap.size + 2) hi V k gs X) (hE : ESL (w.heap.size + 2) hi A2 E2 st X) (hhi : hi ≤ X.heap.size) (hR : Rdr g A n c bs Q X) (hF : Frd g w.heap.size w X) :
    EgP g A n c bs Q w (.returned (.tuple #[.agg #[V], .agg #[.slice A2 m2 c2, .slice E2 p2 e2]])) (AS w.heap.size V (.slice A2 m2 c2) (.slice E2 p2 e2) X) :=
  EgP.fin0 h2 h10 hsm hm hp hem hO hE hhi hF (AS.below _ _ _ _ X) (fun b x => AS.block _ _ _ _ _ b (.inl x)) (AS.size _ _ _ _ _) (AS.rdr hR hg)
theorem EgP.drew {g : Nat} {A : Option Addr} {n c : Nat} {bs : List Int} {Q : Nat} {w w' : World} {e : Ending} (h : EgP g A n c bs Q w e w') : EgP g A n c bs Q w e w'.drew := by
  obtain ⟨V, k, gs, A2, m2, c2, E2, p2, e2, st, he, h2, h10, hsm, hm, hp, hem, hO, hE, hR, hT⟩ := h
  exact ⟨V, k, gs, A2, m2, c2, E2, p2, e2, st, he, h2, h10, hsm, hm, hp, hem, OwG.loc _ _ _ _ _ _ _ hO fun _ _ _ => rfl, ESL.loc _ _ _ _ _ _ _ hE fun _ _ _ => rfl, hR.drew, hT.drew⟩
theorem nil_rows (lo hi k : Nat) (E : Option Addr) (c : Nat) (w : World) (h : OwR lo hi 26 1 (.slice E k c) k (List.replicate k (.slice none 0 0)) w) : SSL lo hi E (List.replicate k []) w :=
  SSL.of_rows (by simp) h fun j hj => ⟨none, 0, 0, by simp [hj], by simp [List.getD, hj], fun hn => by simp [List.getD, hj] at hn⟩
theorem EM.none (xs : List Int) (k : Nat) (h1 : xs.length ≤ 11) (h2 : k ≤ 10) : EM ⟨xs, List.replicate k []⟩ := by
  refine ⟨h1, by simpa using h2, fun j => ?_⟩
  show ((List.replicate k ([] : List Int)).getD j []).length ≤ 10
  by_cases hj : j < k
  · simp [List.getD, hj]
  · simp [List.getD, hj]
set_option maxRecDepth 100000 in
set_option maxHeartbeats 12800000 in
theorem eagerOf_any (g : Nat) (A : Option Addr) (n c : Nat) (bs : List Int) (P : Nat) (w : World) (h : Rdr g A n c bs P w) (hn : n = bs.length) (hby : BY bs) (hs : n ≤ 2000) (hP : P ≤ 600000) :
    Calls Tryz.prog 31 #[.pointer (some ⟨g, 0, none⟩)] w fun e w' => EgP g A n c bs (P + 2700) w e w' := by
  obtain ⟨i1, hi1, hy0, hy1, hy2⟩ := info_parts info_ints1
  have hgw := h.lt
  have HN := Lib.hid hn
  have HR0 := Lib.hid ((h.alloc (.cells #[.slice none 0 0] 25)).alloc (.cells #[.slice none 0 0, .slice none 0 0] 29))
  have HB0 : Hid (As w.heap.size (w.heap.size + 2) (AB w.heap.size) ((w.alloc (.cells #[.slice none 0 0] 25)).alloc (.cells #[.slice none 0 0, .slice none 0 0] 29))) := ⟨⟨by go_simp, by go_simp, by go_simp, by go_simp, by go_simp, by go_simp⟩, by simp, AB.loc _⟩
  have HF0 := Lib.hid (Frd.of_below (g := g) (s := w.heap.size) (((Below.refl w.heap.size w).alloc (Nat.le_refl _) (.cells #[.slice none 0 0] 25)).alloc (by simp) (.cells #[.slice none 0 0, .slice none 0 0] 29)) (Nat.le_refl _))
  clear h hn
  go_enter Tryz.func31, Tryz.ntmps31
  go_wp2_with fail
  refine (graphOf_any g A n c bs P _ HR0.out HN.out hby hs (by omega)).mono ?_
  rintro e w1 ⟨V, k, gs, vI, xs, rfl, hk2, hk10, hsm, hx1, hx2, hown, hownI, hr1, ht1⟩
  have hs1 : w.heap.size + 2 ≤ w1.heap.size := by have := ht1.size; simpa using this
  obtain ⟨gn, cg, rfl⟩ := hown.pos (by omega)
  obtain ⟨E5, c5, rfl, _⟩ := OwnI.form hownI
  unfold OwnI at hownI
  simp only [World.size_alloc] at hown hownI
  obtain ⟨bG, hbG⟩ : ∃ bG, bG = w1.heap.size := ⟨_, rfl⟩
  have HBG := Lib.hid hbG
  have hkl := hown.1
  have HKL := Lib.hid hkl
  have HO1 : Hid (As (w.heap.size + 2) bG (OwG (w.heap.size + 2) bG (.slice (some ⟨gn, 0, none⟩) k cg) k gs) w1) := by rw [hbG]; exact graph_start hown
  have HC1 : Hid (As (w.heap.size + 2) bG (OwR (w.heap.size + 2) bG 3 1 (.slice E5 xs.length c5) xs.length (xs.map (Value.int .i64))) w1) := by rw [hbG]; exact row_start hownI
  have HF2 := Lib.hid ((HF0.out.trans (Frd.of_tch ht1 (by simp; omega))).trans (Frd.of_below (w' := w1.alloc (.cells #[.slice (some ⟨gn, 0, none⟩) k cg] 25)) ((Below.refl w1.heap.size w1).alloc (Nat.le_refl _) _) (by omega)))
  have HR2 := Lib.hid (hr1.alloc (.cells #[.slice (some ⟨gn, 0, none⟩) k cg] 25))
  have HO2 := Lib.hid (HO1.out.alloc (.cells #[.slice (some ⟨gn, 0, none⟩) k cg] 25))
  have HC2 := Lib.hid (HC1.out.alloc (.cells #[.slice (some ⟨gn, 0, none⟩) k cg] 25))
  have HB2 := Lib.hid ((HB0.out.turn ht1 (.inl (by omega))).alloc (.cells #[.slice (some ⟨gn, 0, none⟩) k cg] 25))
  have HG2 := box_new w1 (.slice (some ⟨gn, 0, none⟩) k cg) 25
  rw [← hbG] at HG2
  have HG2 := Lib.hid HG2
  have hz2 : bG < (w1.alloc (.cells #[.slice (some ⟨gn, 0, none⟩) k cg] 25)).heap.size := by rw [hbG]; simp
  have hsG : w.heap.size + 2 ≤ bG := by omega
  have hgG : g < bG := by omega
  clear HB0 HO1 HC1 HF0 HR0 hown hownI hr1 ht1 hbG hkl
  have hGB : GB gs := GB.of_drawn (by have := HKL.out; omega) hsm
  have HVG := Lib.hid fun (w' : World) (B : Nat) (hB : B ≤ w'.heap.size) (h : GS w' B (some ⟨gn, 0, none⟩) gs) => spec_validGraph (some ⟨gn, 0, none⟩) k cg gs w' B hB HKL.out h hGB
  have HVC := Lib.hid fun (w' : World) (B : Nat) (hB : B ≤ w'.heap.size) (h : GS w' B (some ⟨gn, 0, none⟩) gs) (h' : IS w' B E5 xs) => spec_validCells (some ⟨gn, 0, none⟩) E5 k cg xs.length c5 gs xs w' B hB HKL.out rfl h h' (by omega) (by omega)
  have HOK := Lib.hid fun (h1 : validG gs = true) (h2 : validC gs xs = true) => show okC gs xs = true from by unfold okC; rw [h1, h2]; rfl
  have HSE := Lib.hid fun (h1 : okC gs xs = true) (w' : World) (B : Nat) (hB : B ≤ w'.heap.size) (h : GS w' B (some ⟨gn, 0, none⟩) gs) (h' : IS w' B E5 xs) => spec_startEager (some ⟨gn, 0, none⟩) E5 k cg xs.length c5 gs xs w' B hB HKL.out rfl h h' h1
  have HEM := Lib.hid fun (h1 : okC gs xs = true) => EM.start gs xs h1
  generalize validG gs = vg at *
  generalize validC gs xs = vc at *
  generalize okC gs xs = ok at *
  have q2 := HG2.out.it
  go_wp2_with fail
  rw [← HBG.out]
  generalize w1.alloc (.cells #[.slice (some ⟨gn, 0, none⟩) k cg] 25) = W2 at *
  refine (HVG.out W2 bG (by omega) HO2.out.it.nodes).mono ?_
  rintro e w3 ⟨rfl, hb3⟩
  have hz3 := hb3.size
  have HR3 := Lib.hid (HR2.out.step hb3)
  have HO3 := Lib.hid (HO2.out.step hb3)
  have HC3 := Lib.hid (HC2.out.step hb3)
  have HB3 := Lib.hid (HB2.out.step hb3)
  have HG3 := Lib.hid (HG2.out.step hb3)
  have HF3 := Lib.hid (HF2.out.trans (Frd.of_below hb3 (by omega)))
  clear hb3 HR2 HO2 HC2 HB2 HG2 HF2 q2
  have q3 := HG3.out.it
  cases vg
  · skip
    obtain ⟨r0, r1, r2, r3, r4, r5⟩ := HB3.out.it
    have hlB := HB3.out.le
    have hlO := HO3.out.le
    have RB := Lib.hid HB3.out.it
    have hzz : (w3.setCell ⟨w.heap.size, 0, none⟩ (.slice (some ⟨gn, 0, none⟩) k cg)).heap.size = w3.heap.size := by simp [World.setCell]
    obtain ⟨w6, hmk, hown6, hgr6⟩ := run_make_full (P := Tryz.prog) w3.drew w3.heap.size 27 26 i1 _ 1 Tryz.underlying27 hi1 hy0 hy1 .i64 .i64 k (by rw [hy2]; omega) (by unfold maxLen; omega) (Nat.le_refl _)
    obtain ⟨w7, hmk7, hown7, hgr7⟩ := run_make_full (P := Tryz.prog) (w3.setCell ⟨w.heap.size, 0, none⟩ (.slice (some ⟨gn, 0, none⟩) k cg)).drew w3.heap.size 27 26 i1 _ 1 Tryz.underlying27 hi1 hy0 hy1 .i64 .i64 k (by rw [hy2]; omega) (by unfold maxLen; omega) (Nat.le_of_eq hzz.symm)
    have erep : (madeCells (Value.slice none 0 0).cells (k * 1)).toList = List.replicate k (.slice none 0 0) := by simp [Value.cells, toList_madeCells_one]
    rw [erep] at hown6 hown7
    rw [show ((w3.setCell ⟨w.heap.size, 0, none⟩ (.slice (some ⟨gn, 0, none⟩) k cg)).drew).heap.size = w3.heap.size from hzz] at hown7
    have hb6 : Below w3.heap.size w3 w6 := ⟨hgr6.os, hgr6.tape, hgr6.output, hgr6.size, fun k hk => hgr6.block k hk (by simp)⟩
    have hb7 : Below w3.heap.size (w3.setCell ⟨w.heap.size, 0, none⟩ (.slice (some ⟨gn, 0, none⟩) k cg)) w7 := ⟨hgr7.os, hgr7.tape, hgr7.output, hgr7.size, fun k hk => hgr7.block k (by show k < (w3.setCell _ _).heap.size; omega) (by simp)⟩
    have HOW6 := Lib.hid (OwR.start hown6)
    have HOW7 := Lib.hid (OwR.start hown7)
    have HB6 := Lib.hid hb6
    have HB7 := Lib.hid hb7
    have hs6 : w3.heap.size ≤ w6.heap.size := hb6.size
    have hs7 : w3.heap.size ≤ w7.heap.size := by have := hb7.size; omega
    clear erep hown6 hown7 hgr6 hgr7
    have p6 := (hb6.cell (p := ⟨bG, 0, none⟩) (by show bG < w3.heap.size; omega)).trans q3
    have pS : (w3.setCell ⟨w.heap.size, 0, none⟩ (.slice (some ⟨gn, 0, none⟩) k cg)).cell? ⟨bG, 0, none⟩ = some (.slice (some ⟨gn, 0, none⟩) k cg) := (World.cell?_setCell_other _ _ _ _ (by intro e; have := congrArg Addr.block e; simp at this; omega)).trans q3
    have p7 := (hb7.cell (p := ⟨bG, 0, none⟩) (by show bG < w3.heap.size; omega)).trans pS
    have c6 (b j : Nat) (hb : b < w3.heap.size) : w6.cell? ⟨b, j, none⟩ = w3.cell? ⟨b, j, none⟩ := hb6.cell (p := ⟨b, j, none⟩) hb
    have f6 (b j : Nat) (hb : b < w3.heap.size) : w6.frozen? ⟨b, j, none⟩ = w3.frozen? ⟨b, j, none⟩ := hb6.frozen (p := ⟨b, j, none⟩) hb
    have c7 (b j : Nat) (hb : b < w3.heap.size) (hb' : b ≠ w.heap.size) : w7.cell? ⟨b, j, none⟩ = w3.cell? ⟨b, j, none⟩ := (hb7.cell (p := ⟨b, j, none⟩) hb).trans (World.cell?_setCell_other _ _ _ _ (by intro e; have := congrArg Addr.block e; simp at this; omega))
    have f7 (b j : Nat) (hb : b < w3.heap.size) : w7.frozen? ⟨b, j, none⟩ = w3.frozen? ⟨b, j, none⟩ := (hb7.frozen (p := ⟨b, j, none⟩) hb).trans (World.frozen?_setCell _ _ _ _)
    have a0 := (c6 w.heap.size 0 (by omega)).trans r0
    have a1 := (f6 w.heap.size 0 (by omega)).trans r1
    have a2 := (c6 (w.heap.size + 1) 0 (by omega)).trans r2
    have a3 := (c6 (w.heap.size + 1) 1 (by omega)).trans r3
    have a4 := (f6 (w.heap.size + 1) 0 (by omega)).trans r4
    have a5 := (f6 (w.heap.size + 1) 1 (by omega)).trans r5
    have b0 : w7.cell? ⟨w.heap.size, 0, none⟩ = some (.slice (some ⟨gn, 0, none⟩) k cg) := (hb7.cell (p := ⟨w.heap.size, 0, none⟩) (by show w.heap.size < w3.heap.size; omega)).trans (World.cell?_setCell_same _ _ _ r0)
    have b2 := (c7 (w.heap.size + 1) 0 (by omega) (by omega)).trans r2
    have b3 := (c7 (w.heap.size + 1) 1 (by omega) (by omega)).trans r3
    have b4 := (f7 (w.heap.size + 1) 0 (by omega)).trans r4
    have b5 := (f7 (w.heap.size + 1) 1 (by omega)).trans r5
    clear c6 f6 c7 f7 hb6 hb7
    go_wp2
    refine wp_region_held_drew (S := fun w' => w'.cell? ⟨bG, 0, none⟩ = some (.slice (some ⟨gn, 0, none⟩) k cg)) (by kernel_rfl) q3 (fun hHeld => ?_)
    refine wpAnyH_take (i := 0) (oi := ⟨some 22, _, _, _, _, _⟩) (v := ?_) rfl (by kernel_rfl) (by kernel_rfl) (by kernel_rfl) (fun _ _ _ h => h) (Or.inl ⟨by rfl, ?_⟩) (by assumption) ?_; rotate_left; (focus (intro w hSw; (try dsimp only at hSw); go_simp; (try with_reducible rfl))); (try simp only [Act.put, List.setIfInBounds_toArray, List.set_cons_zero, List.set_cons_succ])
    refine wpAnyH_take (i := 1) (oi := ⟨some 23, _, _, _, _, _⟩) (v := ?_) rfl (by kernel_rfl) (by kernel_rfl) (by kernel_rfl) (fun _ _ _ h => h) (Or.inl ⟨by rfl, ?_⟩) (by assumption) ?_; rotate_left; (focus (intro w hSw; (try dsimp only at hSw); go_simp; (try with_reducible rfl))); (try simp only [Act.put, List.setIfInBounds_toArray, List.set_cons_zero, List.set_cons_succ])
    refine wpAnyH_take (i := 2) (oi := ⟨some 24, _, _, _, _, _⟩) (v := ?_) rfl (by kernel_rfl) (by kernel_rfl) (by kernel_rfl) (fun _ _ _ h => h) (Or.inl ⟨by rfl, ?_⟩) (by assumption) ?_; rotate_left; (focus (intro w hSw; (try dsimp only at hSw); go_simp; (try with_reducible rfl))); (try simp only [Act.put, List.setIfInBounds_toArray, List.set_cons_zero, List.set_cons_succ])
    refine wpAnyH_take (i := 3) (oi := ⟨some 25, _, _, _, _, _⟩) (v := ?_) rfl (by kernel_rfl) (by kernel_rfl) (by kernel_rfl) (fun _ _ _ h => h) (Or.inl ⟨by rfl, ?_⟩) (by assumption) ?_; rotate_left; (focus (intro w hSw; (try dsimp only at hSw); go_simp; (try with_reducible rfl))); (try simp only [Act.put, List.setIfInBounds_toArray, List.set_cons_zero, List.set_cons_succ])
    refine wpAnyH_take (i := 4) (oi := ⟨some 26, _, _, _, _, _⟩) (v := ?_) rfl (by kernel_rfl) (by kernel_rfl) (by kernel_rfl) (fun _ _ _ h => h) (Or.inl ⟨by rfl, ?_⟩) (by assumption) ?_; rotate_left; (focus (intro w hSw; (try dsimp only at hSw); go_simp; (try with_reducible rfl))); (try simp only [Act.put, List.setIfInBounds_toArray, List.set_cons_zero, List.set_cons_succ])
    refine wpAnyH_ready (rs := [5, 7]) (by kernel_rfl) (by simp) ?_; refine AllReadyH.cons (o := ⟨some 27, _, _, _, _, _⟩) rfl (fun K hK => ?_) (AllReadyH.cons (o := ⟨none, _, _, _, _, _⟩) rfl (fun K hK => ?_) AllReadyH.nil)
    · go_simp
      refine hK.out _ _ p6 (fun hHeld => ?_); clear hK K; (try simp only [Act.put, List.setIfInBounds_toArray, List.set_cons_zero, List.set_cons_succ])
      refine wpAnyH_take (i := 6) (oi := ⟨some 28, _, _, _, _, _⟩) (v := ?_) rfl (by kernel_rfl) (by kernel_rfl) (by kernel_rfl) (fun _ _ _ h => h) (Or.inl ⟨by rfl, ?_⟩) (by assumption) ?_; rotate_left; (focus (intro w hSw; (try dsimp only at hSw); go_simp; (try with_reducible rfl))); (try simp only [Act.put, List.setIfInBounds_toArray, List.set_cons_zero, List.set_cons_succ])
      refine wpAnyH_ready (rs := [7]) (by kernel_rfl) (by simp) ?_; refine AllReadyH.cons (o := ⟨none, _, _, _, _, _⟩) rfl (fun K hK => ?_) AllReadyH.nil; go_simp
      have p6s : (w6.setCell ⟨w.heap.size, 0, none⟩ (.slice (some ⟨gn, 0, none⟩) k cg)).cell? ⟨bG, 0, none⟩ = some (.slice (some ⟨gn, 0, none⟩) k cg) := (World.cell?_setCell_other _ _ _ _ (by intro e; have := congrArg Addr.block e; simp at this; omega)).trans p6
      refine hK.out _ _ p6s (fun hHeld => ?_); clear hK K; (try simp only [Act.put, List.setIfInBounds_toArray, List.set_cons_zero, List.set_cons_succ])
      refine wpAnyH_ready (rs := [8]) (by kernel_rfl) (by simp) ?_; refine AllReadyH.cons (o := ⟨none, _, _, _, _, _⟩) rfl (fun K hK => ?_) AllReadyH.nil; go_simp
      have p6t : (AS w.heap.size (.slice (some ⟨gn, 0, none⟩) k cg) (.slice E5 xs.length c5) (.slice (some ⟨w3.heap.size, 0, none⟩) k k) w6).cell? ⟨bG, 0, none⟩ = some (.slice (some ⟨gn, 0, none⟩) k cg) := (World.cell?_of_block (a := ⟨bG, 0, none⟩) (AS.block _ _ _ _ _ bG (.inl (by omega)))).trans p6
      unfold AS at p6t
      refine hK.out _ _ p6t (fun hHeld => ?_); clear hK K; (try simp only [Act.put, List.setIfInBounds_toArray, List.set_cons_zero, List.set_cons_succ])
      refine wpAnyH_done (by kernel_rfl) ?_ _
      obtain ⟨k0, k1, k2⟩ := AS.cells (x := (.slice (some ⟨gn, 0, none⟩) k cg)) (a := .slice E5 xs.length c5) (b := .slice (some ⟨w3.heap.size, 0, none⟩) k k) (show AB w.heap.size w6 from ⟨a0, a1, a2, a3, a4, a5⟩)
      unfold AS at k0 k1 k2
      go_wp2
      refine bodyPost_ret (v := .tuple #[.agg #[(.slice (some ⟨gn, 0, none⟩) k cg)], .agg #[.slice E5 xs.length c5, .slice (some ⟨w3.heap.size, 0, none⟩) k k]]) (by simp [results, Tryz.results31, go_sem, k0, k1, k2]) rfl ?_
      exact EgP.fin (hi := w6.heap.size) (X := w6) (st := ⟨xs, List.replicate k []⟩) hgw hk2 hk10 hsm rfl (by simp) (EM.none xs k (by omega) hk10) ((HO3.out.step HB6.out).it.mono (Nat.le_refl _) (by omega)) ⟨ISL.of_row ((HC3.out.step HB6.out).it.mono (Nat.le_refl _) (by omega)), nil_rows _ _ _ _ _ _ (HOW6.out.mono (by omega) (Nat.le_refl _))⟩ (Nat.le_refl _) ((HR3.out.step HB6.out).mono (by omega)) (HF3.out.trans (Frd.of_below HB6.out (by omega)))
    · go_simp
      refine hK.out _ _ pS (fun hHeld => ?_); clear hK K; (try simp only [Act.put, List.setIfInBounds_toArray, List.set_cons_zero, List.set_cons_succ])
      refine wpAnyH_ready (rs := [5]) (by kernel_rfl) (by simp) ?_; refine AllReadyH.cons (o := ⟨some 27, _, _, _, _, _⟩) rfl (fun K hK => ?_) AllReadyH.nil; go_simp
      refine hK.out _ _ p7 (fun hHeld => ?_); clear hK K; (try simp only [Act.put, List.setIfInBounds_toArray, List.set_cons_zero, List.set_cons_succ])
      refine wpAnyH_take (i := 6) (oi := ⟨some 28, _, _, _, _, _⟩) (v := ?_) rfl (by kernel_rfl) (by kernel_rfl) (by kernel_rfl) (fun _ _ _ h => h) (Or.inl ⟨by rfl, ?_⟩) (by assumption) ?_; rotate_left; (focus (intro w hSw; (try dsimp only at hSw); go_simp; (try with_reducible rfl))); (try simp only [Act.put, List.setIfInBounds_toArray, List.set_cons_zero, List.set_cons_succ])
      refine wpAnyH_ready (rs := [8]) (by kernel_rfl) (by simp) ?_; refine AllReadyH.cons (o := ⟨none, _, _, _, _, _⟩) rfl (fun K hK => ?_) AllReadyH.nil; go_simp
      have p7t : ((w7.setCell ⟨w.heap.size + 1, 0, none⟩ (.slice E5 xs.length c5)).setCell ⟨w.heap.size + 1, 1, none⟩ (.slice (some ⟨w3.heap.size, 0, none⟩) k k)).cell? ⟨bG, 0, none⟩ = some (.slice (some ⟨gn, 0, none⟩) k cg) := (World.cell?_setCell_other _ _ _ _ (by intro e; have := congrArg Addr.block e; simp at this; omega)).trans ((World.cell?_setCell_other _ _ _ _ (by intro e; have := congrArg Addr.block e; simp at this; omega)).trans p7)
      refine hK.out _ _ p7t (fun hHeld => ?_); clear hK K; (try simp only [Act.put, List.setIfInBounds_toArray, List.set_cons_zero, List.set_cons_succ])
      refine wpAnyH_done (by kernel_rfl) ?_ _
      have k0 : ((w7.setCell ⟨w.heap.size + 1, 0, none⟩ (.slice E5 xs.length c5)).setCell ⟨w.heap.size + 1, 1, none⟩ (.slice (some ⟨w3.heap.size, 0, none⟩) k k)).cell? ⟨w.heap.size, 0, none⟩ = some (.slice (some ⟨gn, 0, none⟩) k cg) := (World.cell?_setCell_other _ _ _ _ (by intro e; simp at e)).trans ((World.cell?_setCell_other _ _ _ _ (by intro e; simp at e)).trans b0)
      have k1 : ((w7.setCell ⟨w.heap.size + 1, 0, none⟩ (.slice E5 xs.length c5)).setCell ⟨w.heap.size + 1, 1, none⟩ (.slice (some ⟨w3.heap.size, 0, none⟩) k k)).cell? ⟨w.heap.size + 1, 0, none⟩ = some (.slice E5 xs.length c5) := (World.cell?_setCell_other _ _ _ _ (by intro e; cases e)).trans (World.cell?_setCell_same _ _ _ b2)
      have k2 : ((w7.setCell ⟨w.heap.size + 1, 0, none⟩ (.slice E5 xs.length c5)).setCell ⟨w.heap.size + 1, 1, none⟩ (.slice (some ⟨w3.heap.size, 0, none⟩) k k)).cell? ⟨w.heap.size + 1, 1, none⟩ = some (.slice (some ⟨w3.heap.size, 0, none⟩) k k) := World.cell?_setCell_same _ _ _ ((World.cell?_setCell_other _ _ _ _ (by intro e; cases e)).trans b3)
      go_wp2
      refine bodyPost_ret (v := .tuple #[.agg #[(.slice (some ⟨gn, 0, none⟩) k cg)], .agg #[.slice E5 xs.length c5, .slice (some ⟨w3.heap.size, 0, none⟩) k k]]) (by simp [results, Tryz.results31, go_sem, k0, k1, k2]) rfl ?_
      have hkeep := HO3.out.keep (w' := w7) (fun b x y => (HB7.out.block b (by omega)).trans (Below.heap_setCell _ _ _ _ (by show b ≠ w.heap.size; omega))) hs7
      have hkeepC := HC3.out.keep (w' := w7) (fun b x y => (HB7.out.block b (by omega)).trans (Below.heap_setCell _ _ _ _ (by show b ≠ w.heap.size; omega))) hs7
      have hR7 := (((HR3.out.set1 hgw 0 (.slice (some ⟨gn, 0, none⟩) k cg)).step (HB7.out.mono (by omega))).set1 (show g < w.heap.size + 1 by omega) 0 (.slice E5 xs.length c5)).set1 (show g < w.heap.size + 1 by omega) 1 (.slice (some ⟨w3.heap.size, 0, none⟩) k k)
      exact EgP.fin0 (hi := w7.heap.size) (X := w7) (st := ⟨xs, List.replicate k []⟩) hk2 hk10 hsm rfl (by simp) (EM.none xs k (by omega) hk10) (hkeep.it.mono (Nat.le_refl _) (by omega)) ⟨ISL.of_row (hkeepC.it.mono (Nat.le_refl _) (by omega)), nil_rows _ _ _ _ _ _ (HOW7.out.mono (by omega) (Nat.le_refl _))⟩ (Nat.le_refl _)
        ((HF3.out.trans (Frd.of_below ((Below.refl w.heap.size w3).setCell (p := ⟨w.heap.size, 0, none⟩) (Nat.le_refl _) (.slice (some ⟨gn, 0, none⟩) k cg)) (Nat.le_refl _))).trans (Frd.of_below HB7.out (by omega)))
        (((Below.refl w.heap.size w7).setCell (p := ⟨w.heap.size + 1, 0, none⟩) (Nat.le_succ _) _).setCell (p := ⟨w.heap.size + 1, 1, none⟩) (Nat.le_succ _) _) (fun b x => (Below.heap_setCell _ _ _ _ (by show b ≠ w.heap.size + 1; omega)).trans (Below.heap_setCell _ _ _ _ (by show b ≠ w.heap.size + 1; omega))) (by simp [World.setCell]) (hR7.mono (by omega))
  · go_wp2_with fail
    refine (HVC.out w3 bG (by omega) HO3.out.it.nodes HC3.out.it.ints).mono ?_
    rintro e w4 ⟨rfl, hb4⟩
    have hz4 := hb4.size
    have HR4 := Lib.hid (HR3.out.step hb4)
    have HO4 := Lib.hid (HO3.out.step hb4)
    have HC4 := Lib.hid (HC3.out.step hb4)
    have HB4 := Lib.hid (HB3.out.step hb4)
    have HG4 := Lib.hid (HG3.out.step hb4)
    have HF4 := Lib.hid (HF3.out.trans (Frd.of_below hb4 (by omega)))
    clear hb4 HR3 HO3 HC3 HB3 HG3 HF3 q3
    have q4 := HG4.out.it
    cases vc
    · skip
      obtain ⟨r0, r1, r2, r3, r4, r5⟩ := HB4.out.it
      have hlB := HB4.out.le
      have hlO := HO4.out.le
      have RB := Lib.hid HB4.out.it
      have hzz : (w4.setCell ⟨w.heap.size, 0, none⟩ (.slice (some ⟨gn, 0, none⟩) k cg)).heap.size = w4.heap.size := by simp [World.setCell]
      obtain ⟨w6, hmk, hown6, hgr6⟩ := run_make_full (P := Tryz.prog) w4.drew w4.heap.size 27 26 i1 _ 1 Tryz.underlying27 hi1 hy0 hy1 .i64 .i64 k (by rw [hy2]; omega) (by unfold maxLen; omega) (Nat.le_refl _)
      obtain ⟨w7, hmk7, hown7, hgr7⟩ := run_make_full (P := Tryz.prog) (w4.setCell ⟨w.heap.size, 0, none⟩ (.slice (some ⟨gn, 0, none⟩) k cg)).drew w4.heap.size 27 26 i1 _ 1 Tryz.underlying27 hi1 hy0 hy1 .i64 .i64 k (by rw [hy2]; omega) (by unfold maxLen; omega) (Nat.le_of_eq hzz.symm)
      have erep : (madeCells (Value.slice none 0 0).cells (k * 1)).toList = List.replicate k (.slice none 0 0) := by simp [Value.cells, toList_madeCells_one]
      rw [erep] at hown6 hown7
      rw [show ((w4.setCell ⟨w.heap.size, 0, none⟩ (.slice (some ⟨gn, 0, none⟩) k cg)).drew).heap.size = w4.heap.size from hzz] at hown7
      have hb6 : Below w4.heap.size w4 w6 := ⟨hgr6.os, hgr6.tape, hgr6.output, hgr6.size, fun k hk => hgr6.block k hk (by simp)⟩
      have hb7 : Below w4.heap.size (w4.setCell ⟨w.heap.size, 0, none⟩ (.slice (some ⟨gn, 0, none⟩) k cg)) w7 := ⟨hgr7.os, hgr7.tape, hgr7.output, hgr7.size, fun k hk => hgr7.block k (by show k < (w4.setCell _ _).heap.size; omega) (by simp)⟩
      have HOW6 := Lib.hid (OwR.start hown6)
      have HOW7 := Lib.hid (OwR.start hown7)
      have HB6 := Lib.hid hb6
      have HB7 := Lib.hid hb7
      have hs6 : w4.heap.size ≤ w6.heap.size := hb6.size
      have hs7 : w4.heap.size ≤ w7.heap.size := by have := hb7.size; omega
      clear erep hown6 hown7 hgr6 hgr7
      have p6 := (hb6.cell (p := ⟨bG, 0, none⟩) (by show bG < w4.heap.size; omega)).trans q4
      have pS : (w4.setCell ⟨w.heap.size, 0, none⟩ (.slice (some ⟨gn, 0, none⟩) k cg)).cell? ⟨bG, 0, none⟩ = some (.slice (some ⟨gn, 0, none⟩) k cg) := (World.cell?_setCell_other _ _ _ _ (by intro e; have := congrArg Addr.block e; simp at this; omega)).trans q4
      have p7 := (hb7.cell (p := ⟨bG, 0, none⟩) (by show bG < w4.heap.size; omega)).trans pS
      have c6 (b j : Nat) (hb : b < w4.heap.size) : w6.cell? ⟨b, j, none⟩ = w4.cell? ⟨b, j, none⟩ := hb6.cell (p := ⟨b, j, none⟩) hb
      have f6 (b j : Nat) (hb : b < w4.heap.size) : w6.frozen? ⟨b, j, none⟩ = w4.frozen? ⟨b, j, none⟩ := hb6.frozen (p := ⟨b, j, none⟩) hb
      have c7 (b j : Nat) (hb : b < w4.heap.size) (hb' : b ≠ w.heap.size) : w7.cell? ⟨b, j, none⟩ = w4.cell? ⟨b, j, none⟩ := (hb7.cell (p := ⟨b, j, none⟩) hb).trans (World.cell?_setCell_other _ _ _ _ (by intro e; have := congrArg Addr.block e; simp at this; omega))
      have f7 (b j : Nat) (hb : b < w4.heap.size) : w7.frozen? ⟨b, j, none⟩ = w4.frozen? ⟨b, j, none⟩ := (hb7.frozen (p := ⟨b, j, none⟩) hb).trans (World.frozen?_setCell _ _ _ _)
      have a0 := (c6 w.heap.size 0 (by omega)).trans r0
      have a1 := (f6 w.heap.size 0 (by omega)).trans r1
      have a2 := (c6 (w.heap.size + 1) 0 (by omega)).trans r2
      have a3 := (c6 (w.heap.size + 1) 1 (by omega)).trans r3
      have a4 := (f6 (w.heap.size + 1) 0 (by omega)).trans r4
      have a5 := (f6 (w.heap.size + 1) 1 (by omega)).trans r5
      have b0 : w7.cell? ⟨w.heap.size, 0, none⟩ = some (.slice (some ⟨gn, 0, none⟩) k cg) := (hb7.cell (p := ⟨w.heap.size, 0, none⟩) (by show w.heap.size < w4.heap.size; omega)).trans (World.cell?_setCell_same _ _ _ r0)
      have b2 := (c7 (w.heap.size + 1) 0 (by omega) (by omega)).trans r2
      have b3 := (c7 (w.heap.size + 1) 1 (by omega) (by omega)).trans r3
      have b4 := (f7 (w.heap.size + 1) 0 (by omega)).trans r4
      have b5 := (f7 (w.heap.size + 1) 1 (by omega)).trans r5
      clear c6 f6 c7 f7 hb6 hb7
      go_wp2
      refine wp_region_held_drew (S := fun w' => w'.cell? ⟨bG, 0, none⟩ = some (.slice (some ⟨gn, 0, none⟩) k cg)) (by kernel_rfl) q4 (fun hHeld => ?_)
      refine wpAnyH_take (i := 0) (oi := ⟨some 22, _, _, _, _, _⟩) (v := ?_) rfl (by kernel_rfl) (by kernel_rfl) (by kernel_rfl) (fun _ _ _ h => h) (Or.inl ⟨by rfl, ?_⟩) (by assumption) ?_; rotate_left; (focus (intro w hSw; (try dsimp only at hSw); go_simp; (try with_reducible rfl))); (try simp only [Act.put, List.setIfInBounds_toArray, List.set_cons_zero, List.set_cons_succ])
      refine wpAnyH_take (i := 1) (oi := ⟨some 23, _, _, _, _, _⟩) (v := ?_) rfl (by kernel_rfl) (by kernel_rfl) (by kernel_rfl) (fun _ _ _ h => h) (Or.inl ⟨by rfl, ?_⟩) (by assumption) ?_; rotate_left; (focus (intro w hSw; (try dsimp only at hSw); go_simp; (try with_reducible rfl))); (try simp only [Act.put, List.setIfInBounds_toArray, List.set_cons_zero, List.set_cons_succ])
      refine wpAnyH_take (i := 2) (oi := ⟨some 24, _, _, _, _, _⟩) (v := ?_) rfl (by kernel_rfl) (by kernel_rfl) (by kernel_rfl) (fun _ _ _ h => h) (Or.inl ⟨by rfl, ?_⟩) (by assumption) ?_; rotate_left; (focus (intro w hSw; (try dsimp only at hSw); go_simp; (try with_reducible rfl))); (try simp only [Act.put, List.setIfInBounds_toArray, List.set_cons_zero, List.set_cons_succ])
      refine wpAnyH_take (i := 3) (oi := ⟨some 25, _, _, _, _, _⟩) (v := ?_) rfl (by kernel_rfl) (by kernel_rfl) (by kernel_rfl) (fun _ _ _ h => h) (Or.inl ⟨by rfl, ?_⟩) (by assumption) ?_; rotate_left; (focus (intro w hSw; (try dsimp only at hSw); go_simp; (try with_reducible rfl))); (try simp only [Act.put, List.setIfInBounds_toArray, List.set_cons_zero, List.set_cons_succ])
      refine wpAnyH_take (i := 4) (oi := ⟨some 26, _, _, _, _, _⟩) (v := ?_) rfl (by kernel_rfl) (by kernel_rfl) (by kernel_rfl) (fun _ _ _ h => h) (Or.inl ⟨by rfl, ?_⟩) (by assumption) ?_; rotate_left; (focus (intro w hSw; (try dsimp only at hSw); go_simp; (try with_reducible rfl))); (try simp only [Act.put, List.setIfInBounds_toArray, List.set_cons_zero, List.set_cons_succ])
      refine wpAnyH_ready (rs := [5, 7]) (by kernel_rfl) (by simp) ?_; refine AllReadyH.cons (o := ⟨some 27, _, _, _, _, _⟩) rfl (fun K hK => ?_) (AllReadyH.cons (o := ⟨none, _, _, _, _, _⟩) rfl (fun K hK => ?_) AllReadyH.nil)
      · go_simp
        refine hK.out _ _ p6 (fun hHeld => ?_); clear hK K; (try simp only [Act.put, List.setIfInBounds_toArray, List.set_cons_zero, List.set_cons_succ])
        refine wpAnyH_take (i := 6) (oi := ⟨some 28, _, _, _, _, _⟩) (v := ?_) rfl (by kernel_rfl) (by kernel_rfl) (by kernel_rfl) (fun _ _ _ h => h) (Or.inl ⟨by rfl, ?_⟩) (by assumption) ?_; rotate_left; (focus (intro w hSw; (try dsimp only at hSw); go_simp; (try with_reducible rfl))); (try simp only [Act.put, List.setIfInBounds_toArray, List.set_cons_zero, List.set_cons_succ])
        refine wpAnyH_ready (rs := [7]) (by kernel_rfl) (by simp) ?_; refine AllReadyH.cons (o := ⟨none, _, _, _, _, _⟩) rfl (fun K hK => ?_) AllReadyH.nil; go_simp
        have p6s : (w6.setCell ⟨w.heap.size, 0, none⟩ (.slice (some ⟨gn, 0, none⟩) k cg)).cell? ⟨bG, 0, none⟩ = some (.slice (some ⟨gn, 0, none⟩) k cg) := (World.cell?_setCell_other _ _ _ _ (by intro e; have := congrArg Addr.block e; simp at this; omega)).trans p6
        refine hK.out _ _ p6s (fun hHeld => ?_); clear hK K; (try simp only [Act.put, List.setIfInBounds_toArray, List.set_cons_zero, List.set_cons_succ])
        refine wpAnyH_ready (rs := [8]) (by kernel_rfl) (by simp) ?_; refine AllReadyH.cons (o := ⟨none, _, _, _, _, _⟩) rfl (fun K hK => ?_) AllReadyH.nil; go_simp
        have p6t : (AS w.heap.size (.slice (some ⟨gn, 0, none⟩) k cg) (.slice E5 xs.length c5) (.slice (some ⟨w4.heap.size, 0, none⟩) k k) w6).cell? ⟨bG, 0, none⟩ = some (.slice (some ⟨gn, 0, none⟩) k cg) := (World.cell?_of_block (a := ⟨bG, 0, none⟩) (AS.block _ _ _ _ _ bG (.inl (by omega)))).trans p6
        unfold AS at p6t
        refine hK.out _ _ p6t (fun hHeld => ?_); clear hK K; (try simp only [Act.put, List.setIfInBounds_toArray, List.set_cons_zero, List.set_cons_succ])
        refine wpAnyH_done (by kernel_rfl) ?_ _
        obtain ⟨k0, k1, k2⟩ := AS.cells (x := (.slice (some ⟨gn, 0, none⟩) k cg)) (a := .slice E5 xs.length c5) (b := .slice (some ⟨w4.heap.size, 0, none⟩) k k) (show AB w.heap.size w6 from ⟨a0, a1, a2, a3, a4, a5⟩)
        unfold AS at k0 k1 k2
        go_wp2
        refine bodyPost_ret (v := .tuple #[.agg #[(.slice (some ⟨gn, 0, none⟩) k cg)], .agg #[.slice E5 xs.length c5, .slice (some ⟨w4.heap.size, 0, none⟩) k k]]) (by simp [results, Tryz.results31, go_sem, k0, k1, k2]) rfl ?_
        exact EgP.fin (hi := w6.heap.size) (X := w6) (st := ⟨xs, List.replicate k []⟩) hgw hk2 hk10 hsm rfl (by simp) (EM.none xs k (by omega) hk10) ((HO4.out.step HB6.out).it.mono (Nat.le_refl _) (by omega)) ⟨ISL.of_row ((HC4.out.step HB6.out).it.mono (Nat.le_refl _) (by omega)), nil_rows _ _ _ _ _ _ (HOW6.out.mono (by omega) (Nat.le_refl _))⟩ (Nat.le_refl _) ((HR4.out.step HB6.out).mono (by omega)) (HF4.out.trans (Frd.of_below HB6.out (by omega)))
      · go_simp
        refine hK.out _ _ pS (fun hHeld => ?_); clear hK K; (try simp only [Act.put, List.setIfInBounds_toArray, List.set_cons_zero, List.set_cons_succ])
        refine wpAnyH_ready (rs := [5]) (by kernel_rfl) (by simp) ?_; refine AllReadyH.cons (o := ⟨some 27, _, _, _, _, _⟩) rfl (fun K hK => ?_) AllReadyH.nil; go_simp
        refine hK.out _ _ p7 (fun hHeld => ?_); clear hK K; (try simp only [Act.put, List.setIfInBounds_toArray, List.set_cons_zero, List.set_cons_succ])
        refine wpAnyH_take (i := 6) (oi := ⟨some 28, _, _, _, _, _⟩) (v := ?_) rfl (by kernel_rfl) (by kernel_rfl) (by kernel_rfl) (fun _ _ _ h => h) (Or.inl ⟨by rfl, ?_⟩) (by assumption) ?_; rotate_left; (focus (intro w hSw; (try dsimp only at hSw); go_simp; (try with_reducible rfl))); (try simp only [Act.put, List.setIfInBounds_toArray, List.set_cons_zero, List.set_cons_succ])
        refine wpAnyH_ready (rs := [8]) (by kernel_rfl) (by simp) ?_; refine AllReadyH.cons (o := ⟨none, _, _, _, _, _⟩) rfl (fun K hK => ?_) AllReadyH.nil; go_simp
        have p7t : ((w7.setCell ⟨w.heap.size + 1, 0, none⟩ (.slice E5 xs.length c5)).setCell ⟨w.heap.size + 1, 1, none⟩ (.slice (some ⟨w4.heap.size, 0, none⟩) k k)).cell? ⟨bG, 0, none⟩ = some (.slice (some ⟨gn, 0, none⟩) k cg) := (World.cell?_setCell_other _ _ _ _ (by intro e; have := congrArg Addr.block e; simp at this; omega)).trans ((World.cell?_setCell_other _ _ _ _ (by intro e; have := congrArg Addr.block e; simp at this; omega)).trans p7)
        refine hK.out _ _ p7t (fun hHeld => ?_); clear hK K; (try simp only [Act.put, List.setIfInBounds_toArray, List.set_cons_zero, List.set_cons_succ])
        refine wpAnyH_done (by kernel_rfl) ?_ _
        have k0 : ((w7.setCell ⟨w.heap.size + 1, 0, none⟩ (.slice E5 xs.length c5)).setCell ⟨w.heap.size + 1, 1, none⟩ (.slice (some ⟨w4.heap.size, 0, none⟩) k k)).cell? ⟨w.heap.size, 0, none⟩ = some (.slice (some ⟨gn, 0, none⟩) k cg) := (World.cell?_setCell_other _ _ _ _ (by intro e; simp at e)).trans ((World.cell?_setCell_other _ _ _ _ (by intro e; simp at e)).trans b0)
        have k1 : ((w7.setCell ⟨w.heap.size + 1, 0, none⟩ (.slice E5 xs.length c5)).setCell ⟨w.heap.size + 1, 1, none⟩ (.slice (some ⟨w4.heap.size, 0, none⟩) k k)).cell? ⟨w.heap.size + 1, 0, none⟩ = some (.slice E5 xs.length c5) := (World.cell?_setCell_other _ _ _ _ (by intro e; cases e)).trans (World.cell?_setCell_same _ _ _ b2)
        have k2 : ((w7.setCell ⟨w.heap.size + 1, 0, none⟩ (.slice E5 xs.length c5)).setCell ⟨w.heap.size + 1, 1, none⟩ (.slice (some ⟨w4.heap.size, 0, none⟩) k k)).cell? ⟨w.heap.size + 1, 1, none⟩ = some (.slice (some ⟨w4.heap.size, 0, none⟩) k k) := World.cell?_setCell_same _ _ _ ((World.cell?_setCell_other _ _ _ _ (by intro e; cases e)).trans b3)
        go_wp2
        refine bodyPost_ret (v := .tuple #[.agg #[(.slice (some ⟨gn, 0, none⟩) k cg)], .agg #[.slice E5 xs.length c5, .slice (some ⟨w4.heap.size, 0, none⟩) k k]]) (by simp [results, Tryz.results31, go_sem, k0, k1, k2]) rfl ?_
        have hkeep := HO4.out.keep (w' := w7) (fun b x y => (HB7.out.block b (by omega)).trans (Below.heap_setCell _ _ _ _ (by show b ≠ w.heap.size; omega))) hs7
        have hkeepC := HC4.out.keep (w' := w7) (fun b x y => (HB7.out.block b (by omega)).trans (Below.heap_setCell _ _ _ _ (by show b ≠ w.heap.size; omega))) hs7
        have hR7 := (((HR4.out.set1 hgw 0 (.slice (some ⟨gn, 0, none⟩) k cg)).step (HB7.out.mono (by omega))).set1 (show g < w.heap.size + 1 by omega) 0 (.slice E5 xs.length c5)).set1 (show g < w.heap.size + 1 by omega) 1 (.slice (some ⟨w4.heap.size, 0, none⟩) k k)
        exact EgP.fin0 (hi := w7.heap.size) (X := w7) (st := ⟨xs, List.replicate k []⟩) hk2 hk10 hsm rfl (by simp) (EM.none xs k (by omega) hk10) (hkeep.it.mono (Nat.le_refl _) (by omega)) ⟨ISL.of_row (hkeepC.it.mono (Nat.le_refl _) (by omega)), nil_rows _ _ _ _ _ _ (HOW7.out.mono (by omega) (Nat.le_refl _))⟩ (Nat.le_refl _)
          ((HF4.out.trans (Frd.of_below ((Below.refl w.heap.size w4).setCell (p := ⟨w.heap.size, 0, none⟩) (Nat.le_refl _) (.slice (some ⟨gn, 0, none⟩) k cg)) (Nat.le_refl _))).trans (Frd.of_below HB7.out (by omega)))
          (((Below.refl w.heap.size w7).setCell (p := ⟨w.heap.size + 1, 0, none⟩) (Nat.le_succ _) _).setCell (p := ⟨w.heap.size + 1, 1, none⟩) (Nat.le_succ _) _) (fun b x => (Below.heap_setCell _ _ _ _ (by show b ≠ w.heap.size + 1; omega)).trans (Below.heap_setCell _ _ _ _ (by show b ≠ w.heap.size + 1; omega))) (by simp [World.setCell]) (hR7.mono (by omega))
    · have hok := HOK.out (by first | rfl | trivial) (by first | rfl | trivial)
      have HSE2 := Lib.hid (HSE.out hok)
      have hem := HEM.out hok
      have hvl : (mean gs xs).length = k := by rw [HKL.out]; exact mean_len gs xs
      have hrl : (depTo gs (mean gs xs) gs.length).length = k := by rw [HKL.out]; exact depTo_len gs (mean gs xs) gs.length
      clear HOK HSE HEM HVG HVC
      go_wp2_with fail
      refine (HSE2.out w4 bG (by omega) HO4.out.it.nodes HC4.out.it.ints).mono ?_
      rintro e w5 ⟨A3, m3, c3, E3, p3, e3, rfl, howe, hb5⟩
      have hm3 : m3 = k := howe.1.trans hvl
      have hp3 : p3 = k := howe.2.1.trans hrl
      generalize (⟨mean gs xs, depTo gs (mean gs xs) gs.length⟩ : Eg) = st at *
      have hms := howe.1
      have hps := howe.2.1
      obtain ⟨go, co, hv⟩ := row_pos howe.row0.1 (by omega)
      cases hv
      obtain ⟨ge, ce, hv⟩ := row_pos howe.inner.choose_spec.2.1.1 (by omega)
      cases hv
      have hz5 := hb5.size
      have HR5 := Lib.hid (HR4.out.step hb5)
      have HO5 := Lib.hid (HO4.out.step hb5)
      have HC5 := Lib.hid (HC4.out.step hb5)
      have HB5 := Lib.hid (HB4.out.step hb5)
      have HG5 := Lib.hid (HG4.out.step hb5)
      have HF5 := Lib.hid (HF4.out.trans (Frd.of_below hb5 (by omega)))
      have HS5 := Lib.hid (eager_start howe)
      have hglo := howe.row0.1.lt go rfl
      have hghi := howe.row0.2 go rfl
      have helo := howe.inner.choose_spec.2.1.1.lt ge rfl
      have hehi := howe.inner.choose_spec.2.1.2 ge rfl
      obtain ⟨bS, hbS⟩ : ∃ bS, bS = w5.heap.size := ⟨_, rfl⟩
      have HBS := Lib.hid hbS
      have HX6 := box2_new w5 (.slice (some ⟨go, 0, none⟩) m3 c3) (.slice (some ⟨ge, 0, none⟩) p3 e3) 29
      rw [← hbS] at HX6
      have HX6 := Lib.hid HX6
      have HZ6 : Hid (As bS (bS + 1) (fun w' => w'.frozen? ⟨bS, 1, none⟩ = false) (w5.alloc (.cells #[.slice (some ⟨go, 0, none⟩) m3 c3, .slice (some ⟨ge, 0, none⟩) p3 e3] 29))) := by rw [hbS]; exact ⟨by go_simp, by simp, fun w w' h hk => (World.frozen?_of_block (a := ⟨_, 1, none⟩) (hk _ (Nat.le_refl _) (Nat.lt_succ_self _))).trans h⟩
      have HR6 := Lib.hid (HR5.out.alloc (.cells #[.slice (some ⟨go, 0, none⟩) m3 c3, .slice (some ⟨ge, 0, none⟩) p3 e3] 29))
      have HO6 := Lib.hid (HO5.out.alloc (.cells #[.slice (some ⟨go, 0, none⟩) m3 c3, .slice (some ⟨ge, 0, none⟩) p3 e3] 29))
      have HB6 := Lib.hid (HB5.out.alloc (.cells #[.slice (some ⟨go, 0, none⟩) m3 c3, .slice (some ⟨ge, 0, none⟩) p3 e3] 29))
      have HG6 := Lib.hid (HG5.out.alloc (.cells #[.slice (some ⟨go, 0, none⟩) m3 c3, .slice (some ⟨ge, 0, none⟩) p3 e3] 29))
      have HS6 := Lib.hid (HS5.out.alloc (.cells #[.slice (some ⟨go, 0, none⟩) m3 c3, .slice (some ⟨ge, 0, none⟩) p3 e3] 29))
      have HF6 := Lib.hid (HF5.out.trans (Frd.of_below (w' := w5.alloc (.cells #[.slice (some ⟨go, 0, none⟩) m3 c3, .slice (some ⟨ge, 0, none⟩) p3 e3] 29)) ((Below.refl w5.heap.size w5).alloc (Nat.le_refl _) _) (by omega)))
      have hz6 : bS < (w5.alloc (.cells #[.slice (some ⟨go, 0, none⟩) m3 c3, .slice (some ⟨ge, 0, none⟩) p3 e3] 29)).heap.size := by rw [hbS]; simp
      have hwS : w4.heap.size ≤ bS := by omega
      have hw5S : w5.heap.size ≤ bS := by omega
      have HMS := Lib.hid hms
      have HPS := Lib.hid hps
      have HM3 := Lib.hid hm3
      have HP3 := Lib.hid hp3
      have hm3' : m3 ≤ 10 := by omega
      have hp3' : p3 ≤ 10 := by omega
      have hp2 : 2 ≤ p3 := by omega
      have q6 := HG6.out.it
      clear hb5 howe hvl hrl hbS hms hps hm3 hp3 HR4 HO4 HC4 HB4 HG4 HF4 HR5 HO5 HC5 HB5 HG5 HF5 HS5 q4 HSE2
      go_wp2_with fail
      rw [← HBS.out]
      generalize w5.alloc (.cells #[.slice (some ⟨go, 0, none⟩) m3 c3, .slice (some ⟨ge, 0, none⟩) p3 e3] 29) = W6 at *
      refine (pick_any g A n c bs (P + 2600) k W6 HR6.out HN.out hby hs (by omega) (by omega)).mono ?_
      rintro e w7 ⟨j, rfl, hj, _, hr7, ht7⟩
      have hjk : j < k := by have := hj (by omega); omega
      have hjm : j < m3 := by have := HM3.out; omega
      have hjp : j < p3 := by have := HP3.out; omega
      have hz7 := ht7.size
      have HR7 := Lib.hid hr7
      have HO7 := Lib.hid (HO6.out.turn ht7 (.inl (by omega)))
      have HB7 := Lib.hid (HB6.out.turn ht7 (.inl (by omega)))
      have HG7 := Lib.hid (HG6.out.turn ht7 (.inl (by omega)))
      have HS7 := Lib.hid (HS6.out.turn ht7 (.inl (by omega)))
      have HX7 := Lib.hid (HX6.out.turn ht7 (.inl (by omega)))
      have HZ7 := Lib.hid (HZ6.out.turn ht7 (.inl (by omega)))
      have HF7 := Lib.hid (HF6.out.trans (Frd.of_tch ht7 (by omega)))
      clear hj hr7 ht7 HR6 HO6 HB6 HG6 HF6 HS6 HX6 HZ6 q6
      go_wp2_with fail
      refine (pick_any g A n c bs (P + 2601) 24 w7 HR7.out HN.out hby hs (by omega) (by omega)).mono ?_
      rintro e w8 ⟨x, rfl, _, _, hr8, ht8⟩
      have hz8 := ht8.size
      have HR8 := Lib.hid hr8
      have HO8 := Lib.hid (HO7.out.turn ht8 (.inl (by omega)))
      have HB8 := Lib.hid (HB7.out.turn ht8 (.inl (by omega)))
      have HG8 := Lib.hid (HG7.out.turn ht8 (.inl (by omega)))
      have HS8 := Lib.hid (HS7.out.turn ht8 (.inl (by omega)))
      have HX8 := Lib.hid (HX7.out.turn ht8 (.inl (by omega)))
      have HZ8 := Lib.hid (HZ7.out.turn ht8 (.inl (by omega)))
      have HF8 := Lib.hid (HF7.out.trans (Frd.of_tch ht8 (by omega)))
      clear hr8 ht8 HR7 HO7 HB7 HG7 HF7 HS7 HX7 HZ7
      have qG := HG8.out.it
      obtain ⟨qS0, qS1⟩ := HX8.out.it
      have hgw8 : bS < w8.heap.size := by omega
      by_cases hx0 : x = 0
      · subst hx0
        have q9 := (World.cell?_alloc_lt w8 (.cells #[.int .i64 (-1), .int .i64 1000, .int .i64 7] 3) ⟨bS, 0, none⟩ hgw8).trans qS0
        go_wp2
        refine wp_region_held_drew (S := fun w' => w'.cell? ⟨bS, 0, none⟩ = some (.slice (some ⟨go, 0, none⟩) m3 c3)) (by kernel_rfl) qS0 (fun hHeld => ?_)
        refine wpAnyH_take (i := 0) (oi := ⟨some 41, _, _, _, _, _⟩) (v := ?_) rfl (by kernel_rfl) (by kernel_rfl) (by kernel_rfl) (fun _ _ _ h => h) (Or.inl ⟨by rfl, ?_⟩) (by assumption) ?_; rotate_left; (focus (intro w hSw; (try dsimp only at hSw); go_simp; (try with_reducible rfl))); (try simp only [Act.put, List.setIfInBounds_toArray, List.set_cons_zero, List.set_cons_succ])
        refine wpAnyH_take (i := 1) (oi := ⟨some 42, _, _, _, _, _⟩) (v := ?_) rfl (by kernel_rfl) (by kernel_rfl) (by kernel_rfl) (fun _ _ _ h => h) (Or.inl ⟨by rfl, ?_⟩) (by assumption) ?_; rotate_left; (focus (intro w hSw; (try dsimp only at hSw); go_simp; (try with_reducible rfl))); (try simp only [Act.put, List.setIfInBounds_toArray, List.set_cons_zero, List.set_cons_succ])
        refine wpAnyH_take (i := 2) (oi := ⟨some 43, _, _, _, _, _⟩) (v := ?_) rfl (by kernel_rfl) (by kernel_rfl) (by kernel_rfl) (fun _ _ _ h => h) (Or.inl ⟨by rfl, ?_⟩) (by assumption) ?_; rotate_left; (focus (intro w hSw; (try dsimp only at hSw); go_simp; (try with_reducible rfl))); (try simp only [Act.put, List.setIfInBounds_toArray, List.set_cons_zero, List.set_cons_succ])
        refine wpAnyH_take (i := 3) (oi := ⟨some 44, _, _, _, _, _⟩) (v := ?_) rfl (by kernel_rfl) (by kernel_rfl) (by kernel_rfl) (fun _ _ _ h => h) (Or.inl ⟨by rfl, ?_⟩) (by assumption) ?_; rotate_left; (focus (intro w hSw; (try dsimp only at hSw); go_simp; (try with_reducible rfl))); (try simp only [Act.put, List.setIfInBounds_toArray, List.set_cons_zero, List.set_cons_succ])
        refine wpAnyH_ready (rs := [4]) (by kernel_rfl) (by simp) ?_; refine AllReadyH.cons (o := ⟨some 45, _, _, _, _, _⟩) rfl (fun K hK => ?_) AllReadyH.nil; go_simp
        refine hK.out _ _ q9 (fun hHeld => ?_); clear hK K; (try simp only [Act.put, List.setIfInBounds_toArray, List.set_cons_zero, List.set_cons_succ])
        refine wpAnyH_ready (rs := [5]) (by kernel_rfl) (by simp) ?_; refine AllReadyH.cons (o := ⟨some 46, _, _, _, _, _⟩) rfl (fun K hK => ?_) AllReadyH.nil; go_simp
        have HR9 := Lib.hid (HR8.out.alloc (.cells #[.int .i64 (-1), .int .i64 1000, .int .i64 7] 3))
        have HO9 := Lib.hid (HO8.out.alloc (.cells #[.int .i64 (-1), .int .i64 1000, .int .i64 7] 3))
        have HB9 := Lib.hid (HB8.out.alloc (.cells #[.int .i64 (-1), .int .i64 1000, .int .i64 7] 3))
        have HG9 := Lib.hid (HG8.out.alloc (.cells #[.int .i64 (-1), .int .i64 1000, .int .i64 7] 3))
        have HS9 := Lib.hid (HS8.out.alloc (.cells #[.int .i64 (-1), .int .i64 1000, .int .i64 7] 3))
        have HX9 := Lib.hid (HX8.out.alloc (.cells #[.int .i64 (-1), .int .i64 1000, .int .i64 7] 3))
        have HZ9 := Lib.hid (HZ8.out.alloc (.cells #[.int .i64 (-1), .int .i64 1000, .int .i64 7] 3))
        have HF9 := Lib.hid (HF8.out.trans (Frd.of_below (w' := w8.alloc (.cells #[.int .i64 (-1), .int .i64 1000, .int .i64 7] 3)) ((Below.refl w8.heap.size w8).alloc (Nat.le_refl _) _) (by omega)))
        go_at_call 77
        refine (one_any g A n c bs (P + 2602) w8.heap.size 0 3 3 [-1, 1000, 7] _ HR9.out.drew HN.out hby hs (by omega) rfl (by omega) (by omega) ?_ (by omega) (by simp)).mono ?_
        · intro i hi
          have : i = 0 ∨ i = 1 ∨ i = 2 := by omega
          rcases this with rfl | rfl | rfl <;> go_simp
        rintro e w10 ⟨z, rfl, _, hr10, ht10'⟩
        have ht10 : Tch g (g + 1) (w8.alloc (.cells #[.int .i64 (-1), .int .i64 1000, .int .i64 7] 3)) w10 := ⟨ht10'.os, ht10'.tape, ht10'.output, ht10'.size, ht10'.block⟩
        have hz10 : w8.heap.size + 1 ≤ w10.heap.size := by have := ht10.size; simpa using this
        have HO10 := Lib.hid (HO9.out.turn ht10 (.inl (by omega)))
        have HB10 := Lib.hid (HB9.out.turn ht10 (.inl (by omega)))
        have HG10 := Lib.hid (HG9.out.turn ht10 (.inl (by omega)))
        have HS10 := Lib.hid (HS9.out.turn ht10 (.inl (by omega)))
        have HX10 := Lib.hid (HX9.out.turn ht10 (.inl (by omega)))
        have HF10 := Lib.hid (HF9.out.trans (Frd.of_tch ht10 (by simp; omega)))
        obtain ⟨s0, s1⟩ := HX10.out.it
        have u0 := HS10.out.it.row0.1.cellAt j (by omega)
        have hml : (st.vs.map (Value.int .i64)).length = m3 := by rw [List.length_map]; exact HMS.out.symm
        rw [List.getElem?_eq_getElem (by rw [hml]; exact hjm)] at u0
        have f0 := HS10.out.it.row0.1.frozenAt j
        generalize (st.vs.map (Value.int .i64))[j]'_ = vv at u0
        have hne : ∀ q : Nat, (⟨go, q, none⟩ : Addr) ≠ ⟨bS, 0, none⟩ := fun q e => by have := congrArg Addr.block e; simp at this; omega
        have s0' : (w10.setCell ⟨go, j, none⟩ (.int .i64 z)).cell? ⟨bS, 0, none⟩ = some (.slice (some ⟨go, 0, none⟩) m3 c3) := (World.cell?_setCell_other _ _ _ _ (hne _)).trans s0
        clear hml
        refine hK.out _ _ s0 (fun hHeld => ?_); clear hK K; (try simp only [Act.put, List.setIfInBounds_toArray, List.set_cons_zero, List.set_cons_succ])
        refine wpAnyH_take (i := 6) (oi := ⟨some 47, _, _, _, _, _⟩) (v := ?_) rfl (by kernel_rfl) (by kernel_rfl) (by kernel_rfl) (fun _ _ _ h => h) (Or.inl ⟨by rfl, ?_⟩) (by assumption) ?_; rotate_left; (focus (intro w hSw; (try dsimp only at hSw); go_simp; (try with_reducible rfl))); (try simp only [Act.put, List.setIfInBounds_toArray, List.set_cons_zero, List.set_cons_succ])
        refine wpAnyH_ready (rs := [7]) (by kernel_rfl) (by simp) ?_; refine AllReadyH.cons (o := ⟨none, _, _, _, _, _⟩) rfl (fun K hK => ?_) AllReadyH.nil; go_simp
        refine hK.out _ _ s0' (fun hHeld => ?_); clear hK K; (try simp only [Act.put, List.setIfInBounds_toArray, List.set_cons_zero, List.set_cons_succ])
        refine wpAnyH_done (by kernel_rfl) ?_ _
        have hT := Tch.of_grown (a := go) (b := go + 1) (grown_setCell0 w10 go j (.int .i64 z)) fun k hk => by cases hk; exact ⟨Nat.le_refl _, Nat.lt_succ_self _⟩
        have HOX := Lib.hid (((HO10.out.turn hT (.inr (by omega))).it).mono (Nat.le_refl _) (show bG ≤ bS by omega))
        have HEX := Lib.hid ((HS10.out.it.setVal z (k := j)).mono (show w.heap.size + 2 ≤ w4.heap.size by omega) (show w5.heap.size ≤ bS by have := HBS.out; omega))
        have hAB := (HB10.out.turn hT (.inr (by omega))).it
        have qG := (HG10.out.turn hT (.inr (by omega))).it
        obtain ⟨qS0, qS1⟩ := (HX10.out.turn hT (.inl (by omega))).it
        have HRX := Lib.hid (hr10.turn hT (by omega))
        have HFX := Lib.hid (HF10.out.trans (Frd.of_below ((Below.refl w.heap.size w10).setCell (p := ⟨go, j, none⟩) (by show w.heap.size ≤ go; omega) (.int .i64 z)) (Nat.le_refl _)))
        have hhi : bS ≤ (w10.setCell ⟨go, j, none⟩ (.int .i64 z)).heap.size := by simp [World.setCell]; omega
        clear hT hr10 ht10 ht10' s0 s0' u0 f0 hne q9
        generalize w10.setCell ⟨go, j, none⟩ (.int .i64 z) = X at *
        obtain ⟨k0, k1, k2⟩ := AS.cells (x := (.slice (some ⟨gn, 0, none⟩) k cg)) (a := (.slice (some ⟨go, 0, none⟩) m3 c3)) (b := (.slice (some ⟨ge, 0, none⟩) p3 e3)) hAB
        have qt : (X.setCell ⟨w.heap.size, 0, none⟩ (.slice (some ⟨gn, 0, none⟩) k cg)).cell? ⟨bG, 0, none⟩ = some (.slice (some ⟨gn, 0, none⟩) k cg) := (World.cell?_setCell_other _ _ _ _ (by intro e; have := congrArg Addr.block e; simp at this; omega)).trans qG
        have qt0 : (X.setCell ⟨w.heap.size, 0, none⟩ (.slice (some ⟨gn, 0, none⟩) k cg)).cell? ⟨bS, 0, none⟩ = some (.slice (some ⟨go, 0, none⟩) m3 c3) := (World.cell?_setCell_other _ _ _ _ (by intro e; have := congrArg Addr.block e; simp at this; omega)).trans qS0
        have qt1 : (X.setCell ⟨w.heap.size, 0, none⟩ (.slice (some ⟨gn, 0, none⟩) k cg)).cell? ⟨bS, 1, none⟩ = some (.slice (some ⟨ge, 0, none⟩) p3 e3) := (World.cell?_setCell_other _ _ _ _ (by intro e; have := congrArg Addr.block e; simp at this; omega)).trans qS1
        have hAX := AS.block w.heap.size (.slice (some ⟨gn, 0, none⟩) k cg) (.slice (some ⟨go, 0, none⟩) m3 c3) (.slice (some ⟨ge, 0, none⟩) p3 e3) X
        have qu : (AS w.heap.size (.slice (some ⟨gn, 0, none⟩) k cg) (.slice (some ⟨go, 0, none⟩) m3 c3) (.slice (some ⟨ge, 0, none⟩) p3 e3) X).cell? ⟨bG, 0, none⟩ = some (.slice (some ⟨gn, 0, none⟩) k cg) := (World.cell?_of_block (a := ⟨bG, 0, none⟩) (hAX bG (.inl (by omega)))).trans qG
        have qu0 : (AS w.heap.size (.slice (some ⟨gn, 0, none⟩) k cg) (.slice (some ⟨go, 0, none⟩) m3 c3) (.slice (some ⟨ge, 0, none⟩) p3 e3) X).cell? ⟨bS, 0, none⟩ = some (.slice (some ⟨go, 0, none⟩) m3 c3) := (World.cell?_of_block (a := ⟨bS, 0, none⟩) (hAX bS (.inl (by omega)))).trans qS0
        have qu1 : (AS w.heap.size (.slice (some ⟨gn, 0, none⟩) k cg) (.slice (some ⟨go, 0, none⟩) m3 c3) (.slice (some ⟨ge, 0, none⟩) p3 e3) X).cell? ⟨bS, 1, none⟩ = some (.slice (some ⟨ge, 0, none⟩) p3 e3) := (World.cell?_of_block (a := ⟨bS, 1, none⟩) (hAX bS (.inl (by omega)))).trans qS1
        obtain ⟨r0, r1, r2, r3, r4, r5⟩ := hAB
        unfold AS at k0 k1 k2 qu qu0 qu1
        clear hAX
        go_wp2
        refine wp_region_held_drew (S := fun w' => w'.cell? ⟨bG, 0, none⟩ = some (.slice (some ⟨gn, 0, none⟩) k cg) ∧ w'.cell? ⟨bS, 0, none⟩ = some (.slice (some ⟨go, 0, none⟩) m3 c3) ∧ w'.cell? ⟨bS, 1, none⟩ = some (.slice (some ⟨ge, 0, none⟩) p3 e3)) (by kernel_rfl) ⟨qG, qS0, qS1⟩ (fun hHeld => ?_)
        refine wpAnyH_take (i := 0) (oi := ⟨some 61, _, _, _, _, _⟩) (v := ?_) rfl (by kernel_rfl) (by kernel_rfl) (by kernel_rfl) (fun _ _ _ h => h) (Or.inl ⟨by rfl, ?_⟩) (by assumption) ?_; rotate_left; (focus (intro w hSw; (try dsimp only at hSw); go_simp; (try with_reducible rfl))); (try simp only [Act.put, List.setIfInBounds_toArray, List.set_cons_zero, List.set_cons_succ])
        refine wpAnyH_take (i := 1) (oi := ⟨some 62, _, _, _, _, _⟩) (v := ?_) rfl (by kernel_rfl) (by kernel_rfl) (by kernel_rfl) (fun _ _ _ h => h) (Or.inl ⟨by rfl, ?_⟩) (by assumption) ?_; rotate_left; (focus (intro w hSw; (try dsimp only at hSw); go_simp; (try with_reducible rfl))); (try simp only [Act.put, List.setIfInBounds_toArray, List.set_cons_zero, List.set_cons_succ])
        refine wpAnyH_ready (rs := [2]) (by kernel_rfl) (by simp) ?_; refine AllReadyH.cons (o := ⟨none, _, _, _, _, _⟩) rfl (fun K hK => ?_) AllReadyH.nil; go_simp
        refine hK.out _ _ ⟨qt, qt0, qt1⟩ (fun hHeld => ?_); clear hK K; (try simp only [Act.put, List.setIfInBounds_toArray, List.set_cons_zero, List.set_cons_succ])
        refine wpAnyH_ready (rs := [3]) (by kernel_rfl) (by simp) ?_; refine AllReadyH.cons (o := ⟨none, _, _, _, _, _⟩) rfl (fun K hK => ?_) AllReadyH.nil; go_simp
        refine hK.out _ _ ⟨qu, qu0, qu1⟩ (fun hHeld => ?_); clear hK K; (try simp only [Act.put, List.setIfInBounds_toArray, List.set_cons_zero, List.set_cons_succ])
        refine wpAnyH_done (by kernel_rfl) ?_ _
        go_wp2
        refine bodyPost_ret (v := .tuple #[.agg #[(.slice (some ⟨gn, 0, none⟩) k cg)], .agg #[(.slice (some ⟨go, 0, none⟩) m3 c3), (.slice (some ⟨ge, 0, none⟩) p3 e3)]]) (by simp [results, Tryz.results31, go_sem, k0, k1, k2]) rfl ?_
        exact (EgP.fin (Q := P + 2700) (X := X) (st := ⟨st.vs.set j z, st.rs⟩) hgw hk2 hk10 hsm (by simpa using HMS.out) HPS.out (hem.val j z) HOX.out HEX.out hhi (HRX.out.mono (by omega)) HFX.out).drew
      by_cases hx1 : x = 1
      · subst hx1
        clear hx0
        have HR9 := Lib.hid (HR8.out.alloc (.cells #[.int .i64 0] 3))
        have HO9 := Lib.hid (HO8.out.alloc (.cells #[.int .i64 0] 3))
        have HB9 := Lib.hid (HB8.out.alloc (.cells #[.int .i64 0] 3))
        have HG9 := Lib.hid (HG8.out.alloc (.cells #[.int .i64 0] 3))
        have HS9 := Lib.hid (HS8.out.alloc (.cells #[.int .i64 0] 3))
        have HX9 := Lib.hid (HX8.out.alloc (.cells #[.int .i64 0] 3))
        have HZ9 := Lib.hid (HZ8.out.alloc (.cells #[.int .i64 0] 3))
        have HF9 := Lib.hid (HF8.out.trans (Frd.of_below (w' := w8.alloc (.cells #[.int .i64 0] 3)) ((Below.refl w8.heap.size w8).alloc (Nat.le_refl _) _) (by omega)))
        obtain ⟨us, hul, hou, hin, _⟩ := HS9.out.it.inner
        have u0 := hou.1.cellAt j (by omega)
        rw [List.getElem?_eq_getElem (by omega)] at u0
        have f0 := hou.1.frozenAt j
        generalize us[j]'_ = vv at u0
        have s0 := HX9.out.it
        have hT := Lib.hid (Tch.of_grown (a := ge) (b := ge + 1) (grown_setCell0 (w8.alloc (.cells #[.int .i64 0] 3)) ge j (.slice (some ⟨w8.heap.size, 0, none⟩) 1 1)) fun k hk => by cases hk; exact ⟨Nat.le_refl _, Nat.lt_succ_self _⟩)
        have hlit : ISL (w.heap.size + 2) (w8.heap.size + 1) (some ⟨w8.heap.size, 0, none⟩) [0] ((w8.alloc (.cells #[.int .i64 0] 3)).setCell ⟨ge, j, none⟩ (.slice (some ⟨w8.heap.size, 0, none⟩) 1 1)) := by
          intro _
          refine ⟨w8.heap.size, 0, rfl, by omega, by omega, fun i hi => ?_⟩
          obtain rfl : i = 0 := by simp at hi; omega
          exact (World.cell?_setCell_other _ _ _ _ (by intro e; have := congrArg Addr.block e; simp at this; omega)).trans (by go_simp)
        have HEX := Lib.hid ((HS9.out.it.mono (show w.heap.size + 2 ≤ w4.heap.size by omega) (Nat.le_refl _)).setRow (hi' := w8.heap.size + 1) hjp (m5 := 1) (c5 := 1) (ys := [0]) rfl hlit (by omega))
        have HOX := Lib.hid (((HO9.out.turn hT.out (.inr (by omega))).it).mono (Nat.le_refl _) (show bG ≤ w8.heap.size + 1 by omega))
        have HABX := Lib.hid (HB9.out.turn hT.out (.inr (by omega)))
        have HGX := Lib.hid (HG9.out.turn hT.out (.inr (by omega)))
        have HXX := Lib.hid (HX9.out.turn hT.out (.inl (by omega)))
        have HRX := Lib.hid (HR9.out.turn hT.out (by omega))
        have HFX := Lib.hid (HF9.out.trans (Frd.of_below ((Below.refl w.heap.size (w8.alloc (.cells #[.int .i64 0] 3))).setCell (p := ⟨ge, j, none⟩) (by show w.heap.size ≤ ge; omega) (.slice (some ⟨w8.heap.size, 0, none⟩) 1 1)) (Nat.le_refl _)))
        have hhi : w8.heap.size + 1 ≤ ((w8.alloc (.cells #[.int .i64 0] 3)).setCell ⟨ge, j, none⟩ (.slice (some ⟨w8.heap.size, 0, none⟩) 1 1)).heap.size := by simp [World.setCell]
        have hgel : ge < w8.heap.size := by omega
        have u1 : w8.cell? ⟨ge, j, none⟩ = some vv := (World.cell?_alloc_lt w8 (.cells #[.int .i64 0] 3) ⟨ge, j, none⟩ hgel).symm.trans u0
        have f1 : w8.frozen? ⟨ge, j, none⟩ = false := (World.frozen?_alloc_past (w := w8) (.cells #[.int .i64 0] 3) ge j hgel).symm.trans f0
        clear hlit hul hou hin
        rw [World.setCell_alloc_past _ _ _ _ hgel] at HEX HOX HABX HGX HXX HRX HFX hhi
        go_upto_region 13 with fail
        have hAB := HABX.out.it
        have qG := HGX.out.it
        obtain ⟨qS0, qS1⟩ := HXX.out.it
        generalize (w8.setCell ⟨ge, j, none⟩ (.slice (some ⟨w8.heap.size, 0, none⟩) 1 1)).alloc (.cells #[.int .i64 0] 3) = X at *
        obtain ⟨k0, k1, k2⟩ := AS.cells (x := (.slice (some ⟨gn, 0, none⟩) k cg)) (a := (.slice (some ⟨go, 0, none⟩) m3 c3)) (b := (.slice (some ⟨ge, 0, none⟩) p3 e3)) hAB
        have qt : (X.setCell ⟨w.heap.size, 0, none⟩ (.slice (some ⟨gn, 0, none⟩) k cg)).cell? ⟨bG, 0, none⟩ = some (.slice (some ⟨gn, 0, none⟩) k cg) := (World.cell?_setCell_other _ _ _ _ (by intro e; have := congrArg Addr.block e; simp at this; omega)).trans qG
        have qt0 : (X.setCell ⟨w.heap.size, 0, none⟩ (.slice (some ⟨gn, 0, none⟩) k cg)).cell? ⟨bS, 0, none⟩ = some (.slice (some ⟨go, 0, none⟩) m3 c3) := (World.cell?_setCell_other _ _ _ _ (by intro e; have := congrArg Addr.block e; simp at this; omega)).trans qS0
        have qt1 : (X.setCell ⟨w.heap.size, 0, none⟩ (.slice (some ⟨gn, 0, none⟩) k cg)).cell? ⟨bS, 1, none⟩ = some (.slice (some ⟨ge, 0, none⟩) p3 e3) := (World.cell?_setCell_other _ _ _ _ (by intro e; have := congrArg Addr.block e; simp at this; omega)).trans qS1
        have hAX := AS.block w.heap.size (.slice (some ⟨gn, 0, none⟩) k cg) (.slice (some ⟨go, 0, none⟩) m3 c3) (.slice (some ⟨ge, 0, none⟩) p3 e3) X
        have qu : (AS w.heap.size (.slice (some ⟨gn, 0, none⟩) k cg) (.slice (some ⟨go, 0, none⟩) m3 c3) (.slice (some ⟨ge, 0, none⟩) p3 e3) X).cell? ⟨bG, 0, none⟩ = some (.slice (some ⟨gn, 0, none⟩) k cg) := (World.cell?_of_block (a := ⟨bG, 0, none⟩) (hAX bG (.inl (by omega)))).trans qG
        have qu0 : (AS w.heap.size (.slice (some ⟨gn, 0, none⟩) k cg) (.slice (some ⟨go, 0, none⟩) m3 c3) (.slice (some ⟨ge, 0, none⟩) p3 e3) X).cell? ⟨bS, 0, none⟩ = some (.slice (some ⟨go, 0, none⟩) m3 c3) := (World.cell?_of_block (a := ⟨bS, 0, none⟩) (hAX bS (.inl (by omega)))).trans qS0
        have qu1 : (AS w.heap.size (.slice (some ⟨gn, 0, none⟩) k cg) (.slice (some ⟨go, 0, none⟩) m3 c3) (.slice (some ⟨ge, 0, none⟩) p3 e3) X).cell? ⟨bS, 1, none⟩ = some (.slice (some ⟨ge, 0, none⟩) p3 e3) := (World.cell?_of_block (a := ⟨bS, 1, none⟩) (hAX bS (.inl (by omega)))).trans qS1
        obtain ⟨r0, r1, r2, r3, r4, r5⟩ := hAB
        unfold AS at k0 k1 k2 qu qu0 qu1
        clear hAX
        refine wp_region_held_drew (S := fun w' => w'.cell? ⟨bG, 0, none⟩ = some (.slice (some ⟨gn, 0, none⟩) k cg) ∧ w'.cell? ⟨bS, 0, none⟩ = some (.slice (some ⟨go, 0, none⟩) m3 c3) ∧ w'.cell? ⟨bS, 1, none⟩ = some (.slice (some ⟨ge, 0, none⟩) p3 e3)) (by kernel_rfl) ⟨qG, qS0, qS1⟩ (fun hHeld => ?_)
        refine wpAnyH_take (i := 0) (oi := ⟨some 61, _, _, _, _, _⟩) (v := ?_) rfl (by kernel_rfl) (by kernel_rfl) (by kernel_rfl) (fun _ _ _ h => h) (Or.inl ⟨by rfl, ?_⟩) (by assumption) ?_; rotate_left; (focus (intro w hSw; (try dsimp only at hSw); go_simp; (try with_reducible rfl))); (try simp only [Act.put, List.setIfInBounds_toArray, List.set_cons_zero, List.set_cons_succ])
        refine wpAnyH_take (i := 1) (oi := ⟨some 62, _, _, _, _, _⟩) (v := ?_) rfl (by kernel_rfl) (by kernel_rfl) (by kernel_rfl) (fun _ _ _ h => h) (Or.inl ⟨by rfl, ?_⟩) (by assumption) ?_; rotate_left; (focus (intro w hSw; (try dsimp only at hSw); go_simp; (try with_reducible rfl))); (try simp only [Act.put, List.setIfInBounds_toArray, List.set_cons_zero, List.set_cons_succ])
        refine wpAnyH_ready (rs := [2]) (by kernel_rfl) (by simp) ?_; refine AllReadyH.cons (o := ⟨none, _, _, _, _, _⟩) rfl (fun K hK => ?_) AllReadyH.nil; go_simp
        refine hK.out _ _ ⟨qt, qt0, qt1⟩ (fun hHeld => ?_); clear hK K; (try simp only [Act.put, List.setIfInBounds_toArray, List.set_cons_zero, List.set_cons_succ])
        refine wpAnyH_ready (rs := [3]) (by kernel_rfl) (by simp) ?_; refine AllReadyH.cons (o := ⟨none, _, _, _, _, _⟩) rfl (fun K hK => ?_) AllReadyH.nil; go_simp
        refine hK.out _ _ ⟨qu, qu0, qu1⟩ (fun hHeld => ?_); clear hK K; (try simp only [Act.put, List.setIfInBounds_toArray, List.set_cons_zero, List.set_cons_succ])
        refine wpAnyH_done (by kernel_rfl) ?_ _
        go_wp2
        refine bodyPost_ret (v := .tuple #[.agg #[(.slice (some ⟨gn, 0, none⟩) k cg)], .agg #[(.slice (some ⟨go, 0, none⟩) m3 c3), (.slice (some ⟨ge, 0, none⟩) p3 e3)]]) (by simp [results, Tryz.results31, go_sem, k0, k1, k2]) rfl ?_
        exact (EgP.fin (Q := P + 2700) (X := X) (st := ⟨st.vs, st.rs.set j [0]⟩) hgw hk2 hk10 hsm HMS.out (by simpa using HPS.out) (hem.row j) HOX.out HEX.out hhi (HRX.out.mono (by omega)) HFX.out).drew
      by_cases hx2 : x = 2
      · subst hx2
        clear hx0 hx1
        have hce : p3 ≤ e3 := by
          obtain ⟨us, hul, hou, _⟩ := HS8.out.it.inner
          exact own_ncap hou.1
        have hc1 : ¬ e3 = 1 := by omega
        have hc2 : ¬ e3 - 1 = 0 := by omega
        have h1p : (1 : Int) ≤ (p3 : Int) := by omega
        have hpe : (p3 : Int) ≤ (e3 : Int) := by omega
        have fz := HZ8.out.it
        obtain ⟨B9, hB9⟩ : ∃ B9 : Value, B9 = .slice (some ⟨ge, 1, none⟩) (p3 - 1) (e3 - 1) := ⟨_, rfl⟩
        have HEX : Hid (ESL (w.heap.size + 2) bS (some ⟨go, 0, none⟩) (some ⟨ge, 1, none⟩) ⟨st.vs, st.rs.drop 1⟩ (w8.setCell ⟨bS, 1, none⟩ (.slice (some ⟨ge, 1, none⟩) (p3 - 1) (e3 - 1)))) := by
          have h0 := (HS8.out.it.esl).mono (show w.heap.size + 2 ≤ w4.heap.size by omega) (show w5.heap.size ≤ bS by omega)
          exact ESL.loc _ _ _ _ _ w8 _ (show ESL _ _ _ _ ⟨st.vs, st.rs.drop 1⟩ w8 from ⟨h0.1, h0.2.drop1⟩) fun b x y => Below.heap_setCell _ _ _ _ (by show b ≠ bS; omega)
        have HT := Lib.hid (Tch.of_grown (a := bS) (b := bS + 1) (grown_setCell0 w8 bS 1 (.slice (some ⟨ge, 1, none⟩) (p3 - 1) (e3 - 1))) fun k hk => by cases hk; exact ⟨Nat.le_refl _, Nat.lt_succ_self _⟩)
        have HOX := Lib.hid (((HO8.out.turn HT.out (.inr (by omega))).it).mono (Nat.le_refl _) (show bG ≤ bS by omega))
        have HABX := Lib.hid (HB8.out.turn HT.out (.inr (by omega)))
        have HGX := Lib.hid (HG8.out.turn HT.out (.inr (by omega)))
        have HRX := Lib.hid (HR8.out.turn HT.out (by omega))
        have HFX := Lib.hid (HF8.out.trans (Frd.of_below ((Below.refl w.heap.size w8).setCell (p := ⟨bS, 1, none⟩) (by show w.heap.size ≤ bS; omega) (.slice (some ⟨ge, 1, none⟩) (p3 - 1) (e3 - 1))) (Nat.le_refl _)))
        have hhi : bS ≤ (w8.setCell ⟨bS, 1, none⟩ (.slice (some ⟨ge, 1, none⟩) (p3 - 1) (e3 - 1))).heap.size := by simp [World.setCell]; omega
        have HQ0 : Hid ((w8.setCell ⟨bS, 1, none⟩ (.slice (some ⟨ge, 1, none⟩) (p3 - 1) (e3 - 1))).cell? ⟨bS, 0, none⟩ = some (.slice (some ⟨go, 0, none⟩) m3 c3)) := (World.cell?_setCell_other _ _ _ _ (by intro e; cases e)).trans qS0
        have HQ1 : Hid ((w8.setCell ⟨bS, 1, none⟩ (.slice (some ⟨ge, 1, none⟩) (p3 - 1) (e3 - 1))).cell? ⟨bS, 1, none⟩ = some (.slice (some ⟨ge, 1, none⟩) (p3 - 1) (e3 - 1))) := World.cell?_setCell_same _ _ _ qS1
        clear hB9 HS8 HX8 HZ8 HO8 HB8 HG8 HF8 HR8
        go_upto_region 13 with fail
        have hAB := HABX.out.it
        have qG := HGX.out.it
        have qS0 := HQ0.out
        have qS1 := HQ1.out
        generalize w8.setCell ⟨bS, 1, none⟩ (.slice (some ⟨ge, 1, none⟩) (p3 - 1) (e3 - 1)) = X at *
        obtain ⟨k0, k1, k2⟩ := AS.cells (x := (.slice (some ⟨gn, 0, none⟩) k cg)) (a := (.slice (some ⟨go, 0, none⟩) m3 c3)) (b := (.slice (some ⟨ge, 1, none⟩) (p3 - 1) (e3 - 1))) hAB
        have qt : (X.setCell ⟨w.heap.size, 0, none⟩ (.slice (some ⟨gn, 0, none⟩) k cg)).cell? ⟨bG, 0, none⟩ = some (.slice (some ⟨gn, 0, none⟩) k cg) := (World.cell?_setCell_other _ _ _ _ (by intro e; have := congrArg Addr.block e; simp at this; omega)).trans qG
        have qt0 : (X.setCell ⟨w.heap.size, 0, none⟩ (.slice (some ⟨gn, 0, none⟩) k cg)).cell? ⟨bS, 0, none⟩ = some (.slice (some ⟨go, 0, none⟩) m3 c3) := (World.cell?_setCell_other _ _ _ _ (by intro e; have := congrArg Addr.block e; simp at this; omega)).trans qS0
        have qt1 : (X.setCell ⟨w.heap.size, 0, none⟩ (.slice (some ⟨gn, 0, none⟩) k cg)).cell? ⟨bS, 1, none⟩ = some (.slice (some ⟨ge, 1, none⟩) (p3 - 1) (e3 - 1)) := (World.cell?_setCell_other _ _ _ _ (by intro e; have := congrArg Addr.block e; simp at this; omega)).trans qS1
        have hAX := AS.block w.heap.size (.slice (some ⟨gn, 0, none⟩) k cg) (.slice (some ⟨go, 0, none⟩) m3 c3) (.slice (some ⟨ge, 1, none⟩) (p3 - 1) (e3 - 1)) X
        have qu : (AS w.heap.size (.slice (some ⟨gn, 0, none⟩) k cg) (.slice (some ⟨go, 0, none⟩) m3 c3) (.slice (some ⟨ge, 1, none⟩) (p3 - 1) (e3 - 1)) X).cell? ⟨bG, 0, none⟩ = some (.slice (some ⟨gn, 0, none⟩) k cg) := (World.cell?_of_block (a := ⟨bG, 0, none⟩) (hAX bG (.inl (by omega)))).trans qG
        have qu0 : (AS w.heap.size (.slice (some ⟨gn, 0, none⟩) k cg) (.slice (some ⟨go, 0, none⟩) m3 c3) (.slice (some ⟨ge, 1, none⟩) (p3 - 1) (e3 - 1)) X).cell? ⟨bS, 0, none⟩ = some (.slice (some ⟨go, 0, none⟩) m3 c3) := (World.cell?_of_block (a := ⟨bS, 0, none⟩) (hAX bS (.inl (by omega)))).trans qS0
        have qu1 : (AS w.heap.size (.slice (some ⟨gn, 0, none⟩) k cg) (.slice (some ⟨go, 0, none⟩) m3 c3) (.slice (some ⟨ge, 1, none⟩) (p3 - 1) (e3 - 1)) X).cell? ⟨bS, 1, none⟩ = some (.slice (some ⟨ge, 1, none⟩) (p3 - 1) (e3 - 1)) := (World.cell?_of_block (a := ⟨bS, 1, none⟩) (hAX bS (.inl (by omega)))).trans qS1
        obtain ⟨r0, r1, r2, r3, r4, r5⟩ := hAB
        unfold AS at k0 k1 k2 qu qu0 qu1
        clear hAX
        refine wp_region_held_drew (S := fun w' => w'.cell? ⟨bG, 0, none⟩ = some (.slice (some ⟨gn, 0, none⟩) k cg) ∧ w'.cell? ⟨bS, 0, none⟩ = some (.slice (some ⟨go, 0, none⟩) m3 c3) ∧ w'.cell? ⟨bS, 1, none⟩ = some (.slice (some ⟨ge, 1, none⟩) (p3 - 1) (e3 - 1))) (by kernel_rfl) ⟨qG, qS0, qS1⟩ (fun hHeld => ?_)
        refine wpAnyH_take (i := 0) (oi := ⟨some 61, _, _, _, _, _⟩) (v := ?_) rfl (by kernel_rfl) (by kernel_rfl) (by kernel_rfl) (fun _ _ _ h => h) (Or.inl ⟨by rfl, ?_⟩) (by assumption) ?_; rotate_left; (focus (intro w hSw; (try dsimp only at hSw); go_simp; (try with_reducible rfl))); (try simp only [Act.put, List.setIfInBounds_toArray, List.set_cons_zero, List.set_cons_succ])
        refine wpAnyH_take (i := 1) (oi := ⟨some 62, _, _, _, _, _⟩) (v := ?_) rfl (by kernel_rfl) (by kernel_rfl) (by kernel_rfl) (fun _ _ _ h => h) (Or.inl ⟨by rfl, ?_⟩) (by assumption) ?_; rotate_left; (focus (intro w hSw; (try dsimp only at hSw); go_simp; (try with_reducible rfl))); (try simp only [Act.put, List.setIfInBounds_toArray, List.set_cons_zero, List.set_cons_succ])
        refine wpAnyH_ready (rs := [2]) (by kernel_rfl) (by simp) ?_; refine AllReadyH.cons (o := ⟨none, _, _, _, _, _⟩) rfl (fun K hK => ?_) AllReadyH.nil; go_simp
        refine hK.out _ _ ⟨qt, qt0, qt1⟩ (fun hHeld => ?_); clear hK K; (try simp only [Act.put, List.setIfInBounds_toArray, List.set_cons_zero, List.set_cons_succ])
        refine wpAnyH_ready (rs := [3]) (by kernel_rfl) (by simp) ?_; refine AllReadyH.cons (o := ⟨none, _, _, _, _, _⟩) rfl (fun K hK => ?_) AllReadyH.nil; go_simp
        refine hK.out _ _ ⟨qu, qu0, qu1⟩ (fun hHeld => ?_); clear hK K; (try simp only [Act.put, List.setIfInBounds_toArray, List.set_cons_zero, List.set_cons_succ])
        refine wpAnyH_done (by kernel_rfl) ?_ _
        go_wp2
        refine bodyPost_ret (v := .tuple #[.agg #[(.slice (some ⟨gn, 0, none⟩) k cg)], .agg #[(.slice (some ⟨go, 0, none⟩) m3 c3), (.slice (some ⟨ge, 1, none⟩) (p3 - 1) (e3 - 1))]]) (by simp [results, Tryz.results31, go_sem, k0, k1, k2]) rfl ?_
        exact (EgP.fin (Q := P + 2700) (X := X) (st := ⟨st.vs, st.rs.drop 1⟩) hgw hk2 hk10 hsm HMS.out (by have := HPS.out; simp; omega) hem.drop HOX.out HEX.out hhi (HRX.out.mono (by omega)) HFX.out).drew
      · have hAB := HB8.out.it
        have HOX := Lib.hid (HO8.out.it.mono (Nat.le_refl _) (show bG ≤ bS by omega))
        have HEX := Lib.hid ((HS8.out.it.esl).mono (show w.heap.size + 2 ≤ w4.heap.size by omega) (show w5.heap.size ≤ bS by omega))
        have HRX := Lib.hid HR8.out
        have HFX := Lib.hid HF8.out
        have hhi : bS ≤ w8.heap.size := by omega
        go_upto_region 13 with fail
        generalize w8 = X at *
        obtain ⟨k0, k1, k2⟩ := AS.cells (x := (.slice (some ⟨gn, 0, none⟩) k cg)) (a := (.slice (some ⟨go, 0, none⟩) m3 c3)) (b := (.slice (some ⟨ge, 0, none⟩) p3 e3)) hAB
        have qt : (X.setCell ⟨w.heap.size, 0, none⟩ (.slice (some ⟨gn, 0, none⟩) k cg)).cell? ⟨bG, 0, none⟩ = some (.slice (some ⟨gn, 0, none⟩) k cg) := (World.cell?_setCell_other _ _ _ _ (by intro e; have := congrArg Addr.block e; simp at this; omega)).trans qG
        have qt0 : (X.setCell ⟨w.heap.size, 0, none⟩ (.slice (some ⟨gn, 0, none⟩) k cg)).cell? ⟨bS, 0, none⟩ = some (.slice (some ⟨go, 0, none⟩) m3 c3) := (World.cell?_setCell_other _ _ _ _ (by intro e; have := congrArg Addr.block e; simp at this; omega)).trans qS0
        have qt1 : (X.setCell ⟨w.heap.size, 0, none⟩ (.slice (some ⟨gn, 0, none⟩) k cg)).cell? ⟨bS, 1, none⟩ = some (.slice (some ⟨ge, 0, none⟩) p3 e3) := (World.cell?_setCell_other _ _ _ _ (by intro e; have := congrArg Addr.block e; simp at this; omega)).trans qS1
        have hAX := AS.block w.heap.size (.slice (some ⟨gn, 0, none⟩) k cg) (.slice (some ⟨go, 0, none⟩) m3 c3) (.slice (some ⟨ge, 0, none⟩) p3 e3) X
        have qu : (AS w.heap.size (.slice (some ⟨gn, 0, none⟩) k cg) (.slice (some ⟨go, 0, none⟩) m3 c3) (.slice (some ⟨ge, 0, none⟩) p3 e3) X).cell? ⟨bG, 0, none⟩ = some (.slice (some ⟨gn, 0, none⟩) k cg) := (World.cell?_of_block (a := ⟨bG, 0, none⟩) (hAX bG (.inl (by omega)))).trans qG
        have qu0 : (AS w.heap.size (.slice (some ⟨gn, 0, none⟩) k cg) (.slice (some ⟨go, 0, none⟩) m3 c3) (.slice (some ⟨ge, 0, none⟩) p3 e3) X).cell? ⟨bS, 0, none⟩ = some (.slice (some ⟨go, 0, none⟩) m3 c3) := (World.cell?_of_block (a := ⟨bS, 0, none⟩) (hAX bS (.inl (by omega)))).trans qS0
        have qu1 : (AS w.heap.size (.slice (some ⟨gn, 0, none⟩) k cg) (.slice (some ⟨go, 0, none⟩) m3 c3) (.slice (some ⟨ge, 0, none⟩) p3 e3) X).cell? ⟨bS, 1, none⟩ = some (.slice (some ⟨ge, 0, none⟩) p3 e3) := (World.cell?_of_block (a := ⟨bS, 1, none⟩) (hAX bS (.inl (by omega)))).trans qS1
        obtain ⟨r0, r1, r2, r3, r4, r5⟩ := hAB
        unfold AS at k0 k1 k2 qu qu0 qu1
        clear hAX
        refine wp_region_held_drew (S := fun w' => w'.cell? ⟨bG, 0, none⟩ = some (.slice (some ⟨gn, 0, none⟩) k cg) ∧ w'.cell? ⟨bS, 0, none⟩ = some (.slice (some ⟨go, 0, none⟩) m3 c3) ∧ w'.cell? ⟨bS, 1, none⟩ = some (.slice (some ⟨ge, 0, none⟩) p3 e3)) (by kernel_rfl) ⟨qG, qS0, qS1⟩ (fun hHeld => ?_)
        refine wpAnyH_take (i := 0) (oi := ⟨some 61, _, _, _, _, _⟩) (v := ?_) rfl (by kernel_rfl) (by kernel_rfl) (by kernel_rfl) (fun _ _ _ h => h) (Or.inl ⟨by rfl, ?_⟩) (by assumption) ?_; rotate_left; (focus (intro w hSw; (try dsimp only at hSw); go_simp; (try with_reducible rfl))); (try simp only [Act.put, List.setIfInBounds_toArray, List.set_cons_zero, List.set_cons_succ])
        refine wpAnyH_take (i := 1) (oi := ⟨some 62, _, _, _, _, _⟩) (v := ?_) rfl (by kernel_rfl) (by kernel_rfl) (by kernel_rfl) (fun _ _ _ h => h) (Or.inl ⟨by rfl, ?_⟩) (by assumption) ?_; rotate_left; (focus (intro w hSw; (try dsimp only at hSw); go_simp; (try with_reducible rfl))); (try simp only [Act.put, List.setIfInBounds_toArray, List.set_cons_zero, List.set_cons_succ])
        refine wpAnyH_ready (rs := [2]) (by kernel_rfl) (by simp) ?_; refine AllReadyH.cons (o := ⟨none, _, _, _, _, _⟩) rfl (fun K hK => ?_) AllReadyH.nil; go_simp
        refine hK.out _ _ ⟨qt, qt0, qt1⟩ (fun hHeld => ?_); clear hK K; (try simp only [Act.put, List.setIfInBounds_toArray, List.set_cons_zero, List.set_cons_succ])
        refine wpAnyH_ready (rs := [3]) (by kernel_rfl) (by simp) ?_; refine AllReadyH.cons (o := ⟨none, _, _, _, _, _⟩) rfl (fun K hK => ?_) AllReadyH.nil; go_simp
        refine hK.out _ _ ⟨qu, qu0, qu1⟩ (fun hHeld => ?_); clear hK K; (try simp only [Act.put, List.setIfInBounds_toArray, List.set_cons_zero, List.set_cons_succ])
        refine wpAnyH_done (by kernel_rfl) ?_ _
        go_wp2
        refine bodyPost_ret (v := .tuple #[.agg #[(.slice (some ⟨gn, 0, none⟩) k cg)], .agg #[(.slice (some ⟨go, 0, none⟩) m3 c3), (.slice (some ⟨ge, 0, none⟩) p3 e3)]]) (by simp [results, Tryz.results31, go_sem, k0, k1, k2]) rfl ?_
        exact (EgP.fin (Q := P + 2700) (X := X) (st := st) hgw hk2 hk10 hsm HMS.out HPS.out hem HOX.out HEX.out hhi (HRX.out.mono (by omega)) HFX.out).drew
end Go.Proofs.YtgakgmkonmgblaaGreat

namespace Go.Proofs.YtgakgmkonmgblaaGreat
set_option linter.unusedSimpArgs false
set_option linter.unusedVariables false
open Go.RowKit
/-- Two rows of the call's own in blocks of their own; the numbers of the first are nodes. -/
structure SwI (base k : Nat) (vN vV : Value) (xs ys : List Int) (w : World) : Prop where
  n : w.ownsRow base 3 1 vN xs.length (xs.map (Value.int .i64))
  v : w.ownsRow base 3 1 vV ys.length (ys.map (Value.int .i64))
  ne : vN.ownBlock ≠ vV.ownBlock
  ok : ∀ x ∈ xs, 0 ≤ x ∧ x < (k : Int)
structure Bn (g : Nat) (A : Option Addr) (n c : Nat) (bs : List Int) (lo hi : Nat) (Ag : Option Addr) (k cg : Nat) (gs : List Nd) (s : Nat) (w0 : World) (Q : Nat) (vN vV : Value) (xs ys : List Int) (w : World) : Prop where
  rd : Rdr g A n c bs Q w
  gr : As lo hi (OwG lo hi (.slice Ag k cg) k gs) w
  bx : As s (s + 1) (fun w' => w'.cell? ⟨s, 0, none⟩ = some (.slice Ag k cg)) w
  fr : Frd g s w0 w
  ro : SwI (s + 1) k vN vV xs ys w
section
variable {g : Nat} {A : Option Addr} {n c : Nat} {bs : List Int} {lo hi : Nat} {Ag : Option Addr} {k cg : Nat} {gs : List Nd} {s : Nat} {w0 : World} {Q Q' : Nat} {vN vV v9 : Value} {xs ys : List Int} {w w' : World} {z : Int}
theorem Bn.turn (h : Bn g A n c bs lo hi Ag k cg gs s w0 Q vN vV xs ys w) (hr : Rdr g A n c bs Q' w') (ht : Tch g (g + 1) w w') (h1 : g < lo) (h2 : g < s) : Bn g A n c bs lo hi Ag k cg gs s w0 Q' vN vV xs ys w' :=
  ⟨hr, h.gr.turn ht (.inl (by omega)), h.bx.turn ht (.inl (by omega)), h.fr.trans (Frd.of_tch ht (by have := h.bx.le; omega)),
   own_keep h.ro.n fun q a b => ht.block q b (.inr (by omega)), own_keep h.ro.v fun q a b => ht.block q b (.inr (by omega)), h.ro.ne, h.ro.ok⟩
theorem Bn.step (h : Bn g A n c bs lo hi Ag k cg gs s w0 Q vN vV xs ys w) (hb : Below w.heap.size w w') : Bn g A n c bs lo hi Ag k cg gs s w0 Q vN vV xs ys w' :=
  ⟨h.rd.step hb, h.gr.step hb, h.bx.step hb, h.fr.trans (Frd.of_below hb (by have := h.bx.le; omega)), own_below h.ro.n hb, own_below h.ro.v hb, h.ro.ne, h.ro.ok⟩
theorem Bn.alloc (h : Bn g A n c bs lo hi Ag k cg gs s w0 Q vN vV xs ys w) (o : Obj) : Bn g A n c bs lo hi Ag k cg gs s w0 Q vN vV xs ys (w.alloc o) := h.step ((Below.refl _ _).alloc (Nat.le_refl _) o)
theorem Bn.snocN (h : Bn g A n c bs lo hi Ag k cg gs s w0 Q vN vV xs ys w) (hs : hi ≤ s) (hg : g < s) (ho : w'.ownsRow (s + 1) 3 1 v9 (xs.length + 1) (xs.map (Value.int .i64) ++ [.int .i64 z])) (hgrow : w.grownBy w' vN.ownBlock) (hblk : v9.ownBlock = vN.ownBlock ∨ v9.ownBlock = some w.heap.size) (hz0 : 0 ≤ z) (hz : z < (k : Int)) :
    Bn g A n c bs lo hi Ag k cg gs s w0 Q v9 vV (xs ++ [z]) ys w' := by
  have hb : Below (s + 1) w w' := (Below.refl _ _).grown hgrow h.bx.le (fun q hq => (h.ro.n.lt q hq).1)
  have ht : Tch (s + 1) w.heap.size w w' := Tch.of_grown hgrow fun q hq => h.ro.n.lt q hq
  refine ⟨h.rd.turn ht (by omega), h.gr.turn ht (.inr (by omega)), h.bx.turn ht (.inr (Nat.le_refl _)), h.fr.trans (Frd.of_below hb (by omega)), by simpa using ho, h.ro.v.kept hgrow (.inr fun e => h.ro.ne e.symm), ?_, ?_⟩
  · rcases hblk with e | e
    · rw [e]; exact h.ro.ne
    · rw [e]; intro e2
      have := (h.ro.v.lt _ e2.symm).2
      omega
  · intro x hx
    rcases List.mem_append.1 hx with h1 | h1
    · exact h.ro.ok x h1
    · simp at h1; omega
theorem Bn.snocV (h : Bn g A n c bs lo hi Ag k cg gs s w0 Q vN vV xs ys w) (hs : hi ≤ s) (hg : g < s) (ho : w'.ownsRow (s + 1) 3 1 v9 (ys.length + 1) (ys.map (Value.int .i64) ++ [.int .i64 z])) (hgrow : w.grownBy w' vV.ownBlock) (hblk : v9.ownBlock = vV.ownBlock ∨ v9.ownBlock = some w.heap.size) :
    Bn g A n c bs lo hi Ag k cg gs s w0 Q vN v9 xs (ys ++ [z]) w' := by
  have hb : Below (s + 1) w w' := (Below.refl _ _).grown hgrow h.bx.le (fun q hq => (h.ro.v.lt q hq).1)
  have ht : Tch (s + 1) w.heap.size w w' := Tch.of_grown hgrow fun q hq => h.ro.v.lt q hq
  refine ⟨h.rd.turn ht (by omega), h.gr.turn ht (.inr (by omega)), h.bx.turn ht (.inr (Nat.le_refl _)), h.fr.trans (Frd.of_below hb (by omega)), h.ro.n.kept hgrow (.inr h.ro.ne), by simpa using ho, ?_, h.ro.ok⟩
  rcases hblk with e | e
  · rw [e]; exact h.ro.ne
  · rw [e]; intro e2
    have := (h.ro.n.lt _ e2).2
    omega
end
end Go.Proofs.YtgakgmkonmgblaaGreat

namespace Go.Proofs.YtgakgmkonmgblaaGreat
set_option linter.unusedSimpArgs false
set_option linter.unusedVariables false
open Go.RowKit
/-- Returns two lists of one length in fresh blocks; the numbers of the first are nodes. -/
def SwP (g : Nat) (A : Option Addr) (n c : Nat) (bs : List Int) (Q k : Nat) (w : World) (e : Ending) (w' : World) : Prop :=
  ∃ (vN vV : Value) (xs ys : List Int), e = .returned (.tuple #[vN, vV]) ∧ xs.length = ys.length ∧ xs.length ≤ 3 ∧ (∀ x ∈ xs, 0 ≤ x ∧ x < (k : Int)) ∧ w'.ownsRow (w.heap.size + 1) 3 1 vN xs.length (xs.map (Value.int .i64)) ∧ w'.ownsRow (w.heap.size + 1) 3 1 vV ys.length (ys.map (Value.int .i64)) ∧ Rdr g A n c bs Q w' ∧ Frd g w.heap.size w w'
set_option maxRecDepth 100000 in
set_option maxHeartbeats 12800000 in
theorem someWrites_any (g : Nat) (A : Option Addr) (n c : Nat) (bs : List Int) (P : Nat) (Ag : Option Addr) (k cg lo hi : Nat) (gs : List Nd) (w : World) (h : Rdr g A n c bs P w) (hn : n = bs.length) (hby : BY bs) (hs : n ≤ 2000) (hP : P ≤ 800000)
    (hg : As lo hi (OwG lo hi (.slice Ag k cg) k gs) w) (hlo : g < lo) (hk1 : 1 ≤ k) (hk : k ≤ 10) :
    Calls Tryz.prog 32 #[.pointer (some ⟨g, 0, none⟩), .agg #[.slice Ag k cg]] w fun e w' => SwP g A n c bs (P + 40) k w e w' := by
  obtain ⟨i0, hi0, hz0, hz1, hz2⟩ := info_parts info_int
  have hgw := h.lt
  have hhi := hg.le
  have HN := Lib.hid hn
  have HGL := Lib.hid hg.it.1
  have hBW : Below w.heap.size w (((w.alloc (.cells #[.slice Ag k cg] 25)).alloc (.cells #[] 3)).alloc (.cells #[] 3)) := (((Below.refl _ _).alloc (Nat.le_refl _) _).alloc (by simp) _).alloc (by simp; omega) _
  have hN0 := World.ownsRow_lit (e := 3) (size := 1) (base := w.heap.size + 1) (w.alloc (.cells #[.slice Ag k cg] 25)) #[] 0 (by simp) (by unfold maxLen; omega) (by simp)
  have hV0 := World.ownsRow_lit (e := 3) (size := 1) (base := w.heap.size + 1) ((w.alloc (.cells #[.slice Ag k cg] 25)).alloc (.cells #[] 3)) #[] 0 (by simp) (by unfold maxLen; omega) (by simp)
  have hX3 : Bn g A n c bs lo hi Ag k cg gs w.heap.size w P (.slice (some ⟨w.heap.size + 1, 0, none⟩) 0 0) (.slice (some ⟨w.heap.size + 2, 0, none⟩) 0 0) [] [] (((w.alloc (.cells #[.slice Ag k cg] 25)).alloc (.cells #[] 3)).alloc (.cells #[] 3)) :=
    ⟨((h.alloc _).alloc _).alloc _, ((hg.alloc _).alloc _).alloc _, ((box_new w (.slice Ag k cg) 25).alloc _).alloc _, Frd.of_below (g := g) hBW (Nat.le_refl _), by simpa using hN0.alloc (.cells #[] 3), by simpa using hV0, by simp [Value.ownBlock], by simp⟩
  have HX4 := Lib.hid (hX3.alloc (.cells #[.int .i64 1, .int .i64 2, .int .i64 1, .int .i64 3, .int .i64 0] 3))
  clear h hn hg hBW hN0 hV0 hX3
  go_enter Tryz.func32, Tryz.ntmps32
  go_wp2_with fail
  refine (one_any g A n c bs P (w.heap.size + 3) 0 5 5 [1, 2, 1, 3, 0] _ HX4.out.rd HN.out hby hs (by omega) rfl (by omega) (by omega) ?_ (by omega) (by simp)).mono ?_
  · intro j hj
    have : j = 0 ∨ j = 1 ∨ j = 2 ∨ j = 3 ∨ j = 4 := by omega
    rcases this with rfl | rfl | rfl | rfl | rfl <;> go_simp
  rintro e w5 ⟨x, rfl, hxm, hr5, ht5⟩
  obtain ⟨N, rfl, hN3⟩ : ∃ N : Nat, x = (N : Int) ∧ N ≤ 3 := by
    simp only [List.mem_cons, List.not_mem_nil, or_false] at hxm
    exact ⟨x.toNat, by omega, by omega⟩
  have HX5 := Lib.hid (HX4.out.turn hr5 ht5 hlo hgw)
  clear hxm hr5 ht5 HX4
  go_wp2
  go_loopw [6, 7, 8] (fun vN vV u wr => ∃ (i m : Nat) (xs ys : List Int), i + m = N ∧ u = .int .i64 m ∧ xs.length ≤ i ∧ Hid (xs.length = ys.length) ∧ Hid (Bn g A n c bs lo hi Ag k cg gs w.heap.size w (P + 1 + 6 * i) vN vV xs ys wr)) (fun _ _ u _ => (intOf u).toNat)
  case atStart => exact ⟨0, N, [], [], by omega, rfl, Nat.le_refl _, rfl, HX5.out⟩
  case round =>
    obtain ⟨i, m, xs, ys, him, rfl, hli, HE, HX⟩ := hrel
    obtain ⟨AN, cN, rfl⟩ := row_form' HX.out.ro.n
    obtain ⟨AV, cV, rfl⟩ := row_form' HX.out.ro.v
    clear HX5
    have HIC := Lib.hid fun (z : Int) (w' : World) (hX : As lo hi (OwG lo hi (.slice Ag k cg) k gs) w') => spec_isCell Ag k cg gs z w' hi hX.le HGL.out hX.it.nodes (by omega)
    generalize hxl : xs.length = lx at *
    generalize hyl : ys.length = ly at *
    have HXL := Lib.hid hxl
    have HYL := Lib.hid hyl
    clear hxl hyl
    by_cases hm : 0 < m
    · skip
      have hmi : (0 : Int) < (m : Int) := by omega
      have qb := HX.out.bx.it
      go_wp2_with fail
      refine (pick_any g A n c bs _ k _ HX.out.rd HN.out hby hs (by omega) (by omega)).mono ?_
      rintro e v1 ⟨z, rfl, hz, _, hr, ht⟩
      have X1 := Lib.hid (HX.out.turn hr ht hlo hgw)
      clear hr ht HX
      have hzk : (z : Int) < (k : Int) := hz (by omega)
      clear qb
      have qb := X1.out.bx.it
      have HCZ := Lib.hid (HIC.out (z : Int))
      generalize isC gs (z : Int) = ic at *
      go_wp2_with fail
      refine (HCZ.out _ X1.out.gr).mono ?_
      rintro e w7 ⟨rfl, hb⟩
      have Y1 := Lib.hid (X1.out.step hb)
      clear hb qb HCZ HIC X1
      cases ic
      · skip
        go_wp2_with fail
        refine (pick_any g A n c bs _ 8 _ Y1.out.rd HN.out hby hs (by omega) (by omega)).mono ?_
        rintro e v2 ⟨q8, rfl, hq8, _, hr, ht⟩
        have X2 := Lib.hid (Y1.out.turn hr ht hlo hgw)
        clear hr ht Y1
        by_cases hq : 0 < q8
        · skip
          have hqi : (0 : Int) < (q8 : Int) := by omega
          have HPL := Lib.hid (spec_placeIn AN lx cN xs (0) v2 v2.heap.size (Nat.le_refl _) HXL.out.symm (IS.of_own (n := lx) (by have := X2.out.ro.n; rw [HXL.out] at this; exact this)) (by omega))
          generalize plc xs (0) = p at *
          go_wp2_with fail
          refine HPL.out.mono ?_
          rintro e w6 ⟨rfl, rfl⟩
          clear HPL
          by_cases hp : 0 ≤ p
          · skip
            go_wp2_with fail
            refine (pick_any g A n c bs _ 8 _ X2.out.rd HN.out hby hs (by omega) (by omega)).mono ?_
            rintro e v3 ⟨p8, rfl, hp8, _, hr, ht⟩
            have X3 := Lib.hid (X2.out.turn hr ht hlo hgw)
            clear hr ht X2
            by_cases h8 : 0 < p8
            · skip
              have h8i : (0 : Int) < (p8 : Int) := by omega
              go_wp2
              go_roundw
              case rel => exact ⟨i + 1, m - 1, xs, ys, by omega, by go_num, by have := HXL.out; omega, by rw [HXL.out, HYL.out]; exact HE.out, ⟨X3.out.rd.mono (by omega), X3.out.gr, X3.out.bx, X3.out.fr, X3.out.ro⟩⟩
              case measure => simp [intOf]; omega
            · skip
              obtain rfl : p8 = 0 := by omega
              have Xa := Lib.hid (X3.out.alloc (.cells #[.int .i64 0] 3))
              go_wp2_with (at_builtin; refine wpList_append_own_at _ rfl _ _ 26 rfl (w.heap.size + 1) 3 i0 (.int .i64 0) 1 8 Tryz.underlying26 hi0 hz0 hz1 hz2 rfl (by decide) _ _ _ rfl Xa.out.ro.n ⟨_, 0, none⟩ 1 1 [.int .i64 0] rfl rfl (cell_one_new _ _ _) ?c2 ?c3 ?c4 ?c5 ?_)
              case c2 => first | rfl | (intro u hu; simp at hu; subst hu; rfl)
              case c3 => have := HXL.out; have := HYL.out; have := HE.out; unfold maxLen; omega
              case c4 => have := HXL.out; have := HYL.out; have := HE.out; omega
              case c5 => have := X3.out.bx.le; first | omega | (simp; omega)
              intro v9 v4 hown hgrow _ hblk
              have X4 := Lib.hid (Xa.out.snocN (by omega) hgw hown hgrow (by simpa using hblk) (by omega) (by omega))
              clear hown hgrow hblk Xa X3
              go_wp2_with fail
              refine (pick_any g A n c bs _ 1000 _ X4.out.rd HN.out hby hs (by omega) (by omega)).mono ?_
              rintro e v5 ⟨y, rfl, hy, _, hr, ht⟩
              have X5 := Lib.hid (X4.out.turn hr ht hlo hgw)
              clear hr ht X4
              have Xb := Lib.hid (X5.out.alloc (.cells #[.int .i64 0, .int .i64 1, .int .i64 y, .int .i64 3] 3))
              go_wp2_with fail
              refine (one_any g A n c bs _ v5.heap.size 0 4 4 [0, 1, (y : Int), 3] _ Xb.out.rd HN.out hby hs (by omega) rfl (by omega) (by omega) ?_ (by have := X5.out.rd.lt; omega) (by simp)).mono ?_
              · intro j hj
                have : j = 0 ∨ j = 1 ∨ j = 2 ∨ j = 3 := by omega
                rcases this with rfl | rfl | rfl | rfl <;> go_simp
              rintro e v6 ⟨u, rfl, _, hr, ht⟩
              have X6 := Lib.hid (Xb.out.turn hr ht hlo hgw)
              clear hr ht Xb X5
              have Xa := Lib.hid (X6.out.alloc (.cells #[.int .i64 u] 3))
              go_wp2_with (at_builtin; refine wpList_append_own_at _ rfl _ _ 26 rfl (w.heap.size + 1) 3 i0 (.int .i64 0) 1 8 Tryz.underlying26 hi0 hz0 hz1 hz2 rfl (by decide) _ _ _ rfl Xa.out.ro.v ⟨_, 0, none⟩ 1 1 [.int .i64 u] rfl rfl (cell_one_new _ _ _) ?c2 ?c3 ?c4 ?c5 ?_)
              case c2 => first | rfl | (intro u hu; simp at hu; subst hu; rfl)
              case c3 => have := HXL.out; have := HYL.out; have := HE.out; unfold maxLen; omega
              case c4 => have := HXL.out; have := HYL.out; have := HE.out; omega
              case c5 => have := X6.out.bx.le; first | omega | (simp; omega)
              intro v9 v7 hown hgrow _ hblk
              have X7 := Lib.hid (Xa.out.snocV (by omega) hgw hown hgrow (by simpa using hblk))
              clear hown hgrow hblk Xa X6
              go_wp2
              go_roundw
              case rel => exact ⟨i + 1, m - 1, xs ++ [0], ys ++ [u], by omega, by go_num, by rw [List.length_append]; have := HXL.out; simp; omega, by rw [List.length_append, List.length_append, HXL.out, HYL.out, HE.out]; rfl, ⟨X7.out.rd.mono (by omega), X7.out.gr, X7.out.bx, X7.out.fr, X7.out.ro⟩⟩
              case measure => simp [intOf]; omega
          · skip
            have Xa := Lib.hid (X2.out.alloc (.cells #[.int .i64 0] 3))
            go_wp2_with (at_builtin; refine wpList_append_own_at _ rfl _ _ 26 rfl (w.heap.size + 1) 3 i0 (.int .i64 0) 1 8 Tryz.underlying26 hi0 hz0 hz1 hz2 rfl (by decide) _ _ _ rfl Xa.out.ro.n ⟨_, 0, none⟩ 1 1 [.int .i64 0] rfl rfl (cell_one_new _ _ _) ?c2 ?c3 ?c4 ?c5 ?_)
            case c2 => first | rfl | (intro u hu; simp at hu; subst hu; rfl)
            case c3 => have := HXL.out; have := HYL.out; have := HE.out; unfold maxLen; omega
            case c4 => have := HXL.out; have := HYL.out; have := HE.out; omega
            case c5 => have := X2.out.bx.le; first | omega | (simp; omega)
            intro v9 v8 hown hgrow _ hblk
            have X8 := Lib.hid (Xa.out.snocN (by omega) hgw hown hgrow (by simpa using hblk) (by omega) (by omega))
            clear hown hgrow hblk Xa X2
            go_wp2_with fail
            refine (pick_any g A n c bs _ 1000 _ X8.out.rd HN.out hby hs (by omega) (by omega)).mono ?_
            rintro e v9 ⟨y, rfl, hy, _, hr, ht⟩
            have X9 := Lib.hid (X8.out.turn hr ht hlo hgw)
            clear hr ht X8
            have Xb := Lib.hid (X9.out.alloc (.cells #[.int .i64 0, .int .i64 1, .int .i64 y, .int .i64 3] 3))
            go_wp2_with fail
            refine (one_any g A n c bs _ v9.heap.size 0 4 4 [0, 1, (y : Int), 3] _ Xb.out.rd HN.out hby hs (by omega) rfl (by omega) (by omega) ?_ (by have := X9.out.rd.lt; omega) (by simp)).mono ?_
            · intro j hj
              have : j = 0 ∨ j = 1 ∨ j = 2 ∨ j = 3 := by omega
              rcases this with rfl | rfl | rfl | rfl <;> go_simp
            rintro e v10 ⟨u, rfl, _, hr, ht⟩
            have X10 := Lib.hid (Xb.out.turn hr ht hlo hgw)
            clear hr ht Xb X9
            have Xa := Lib.hid (X10.out.alloc (.cells #[.int .i64 u] 3))
            go_wp2_with (at_builtin; refine wpList_append_own_at _ rfl _ _ 26 rfl (w.heap.size + 1) 3 i0 (.int .i64 0) 1 8 Tryz.underlying26 hi0 hz0 hz1 hz2 rfl (by decide) _ _ _ rfl Xa.out.ro.v ⟨_, 0, none⟩ 1 1 [.int .i64 u] rfl rfl (cell_one_new _ _ _) ?c2 ?c3 ?c4 ?c5 ?_)
            case c2 => first | rfl | (intro u hu; simp at hu; subst hu; rfl)
            case c3 => have := HXL.out; have := HYL.out; have := HE.out; unfold maxLen; omega
            case c4 => have := HXL.out; have := HYL.out; have := HE.out; omega
            case c5 => have := X10.out.bx.le; first | omega | (simp; omega)
            intro v9 v11 hown hgrow _ hblk
            have X11 := Lib.hid (Xa.out.snocV (by omega) hgw hown hgrow (by simpa using hblk))
            clear hown hgrow hblk Xa X10
            go_wp2
            go_roundw
            case rel => exact ⟨i + 1, m - 1, xs ++ [0], ys ++ [u], by omega, by go_num, by rw [List.length_append]; have := HXL.out; simp; omega, by rw [List.length_append, List.length_append, HXL.out, HYL.out, HE.out]; rfl, ⟨X11.out.rd.mono (by omega), X11.out.gr, X11.out.bx, X11.out.fr, X11.out.ro⟩⟩
            case measure => simp [intOf]; omega
        · skip
          obtain rfl : q8 = 0 := by omega
          have HPL := Lib.hid (spec_placeIn AN lx cN xs ((z : Int)) v2 v2.heap.size (Nat.le_refl _) HXL.out.symm (IS.of_own (n := lx) (by have := X2.out.ro.n; rw [HXL.out] at this; exact this)) (by omega))
          generalize plc xs ((z : Int)) = p at *
          go_wp2_with fail
          refine HPL.out.mono ?_
          rintro e w6 ⟨rfl, rfl⟩
          clear HPL
          by_cases hp : 0 ≤ p
          · skip
            go_wp2_with fail
            refine (pick_any g A n c bs _ 8 _ X2.out.rd HN.out hby hs (by omega) (by omega)).mono ?_
            rintro e v12 ⟨p8, rfl, hp8, _, hr, ht⟩
            have X12 := Lib.hid (X2.out.turn hr ht hlo hgw)
            clear hr ht X2
            by_cases h8 : 0 < p8
            · skip
              have h8i : (0 : Int) < (p8 : Int) := by omega
              go_wp2
              go_roundw
              case rel => exact ⟨i + 1, m - 1, xs, ys, by omega, by go_num, by have := HXL.out; omega, by rw [HXL.out, HYL.out]; exact HE.out, ⟨X12.out.rd.mono (by omega), X12.out.gr, X12.out.bx, X12.out.fr, X12.out.ro⟩⟩
              case measure => simp [intOf]; omega
            · skip
              obtain rfl : p8 = 0 := by omega
              have Xa := Lib.hid (X12.out.alloc (.cells #[.int .i64 (z : Int)] 3))
              go_wp2_with (at_builtin; refine wpList_append_own_at _ rfl _ _ 26 rfl (w.heap.size + 1) 3 i0 (.int .i64 0) 1 8 Tryz.underlying26 hi0 hz0 hz1 hz2 rfl (by decide) _ _ _ rfl Xa.out.ro.n ⟨_, 0, none⟩ 1 1 [.int .i64 (z : Int)] rfl rfl (cell_one_new _ _ _) ?c2 ?c3 ?c4 ?c5 ?_)
              case c2 => first | rfl | (intro u hu; simp at hu; subst hu; rfl)
              case c3 => have := HXL.out; have := HYL.out; have := HE.out; unfold maxLen; omega
              case c4 => have := HXL.out; have := HYL.out; have := HE.out; omega
              case c5 => have := X12.out.bx.le; first | omega | (simp; omega)
              intro v9 v13 hown hgrow _ hblk
              have X13 := Lib.hid (Xa.out.snocN (by omega) hgw hown hgrow (by simpa using hblk) (by omega) (by omega))
              clear hown hgrow hblk Xa X12
              go_wp2_with fail
              refine (pick_any g A n c bs _ 1000 _ X13.out.rd HN.out hby hs (by omega) (by omega)).mono ?_
              rintro e v14 ⟨y, rfl, hy, _, hr, ht⟩
              have X14 := Lib.hid (X13.out.turn hr ht hlo hgw)
              clear hr ht X13
              have Xb := Lib.hid (X14.out.alloc (.cells #[.int .i64 0, .int .i64 1, .int .i64 y, .int .i64 3] 3))
              go_wp2_with fail
              refine (one_any g A n c bs _ v14.heap.size 0 4 4 [0, 1, (y : Int), 3] _ Xb.out.rd HN.out hby hs (by omega) rfl (by omega) (by omega) ?_ (by have := X14.out.rd.lt; omega) (by simp)).mono ?_
              · intro j hj
                have : j = 0 ∨ j = 1 ∨ j = 2 ∨ j = 3 := by omega
                rcases this with rfl | rfl | rfl | rfl <;> go_simp
              rintro e v15 ⟨u, rfl, _, hr, ht⟩
              have X15 := Lib.hid (Xb.out.turn hr ht hlo hgw)
              clear hr ht Xb X14
              have Xa := Lib.hid (X15.out.alloc (.cells #[.int .i64 u] 3))
              go_wp2_with (at_builtin; refine wpList_append_own_at _ rfl _ _ 26 rfl (w.heap.size + 1) 3 i0 (.int .i64 0) 1 8 Tryz.underlying26 hi0 hz0 hz1 hz2 rfl (by decide) _ _ _ rfl Xa.out.ro.v ⟨_, 0, none⟩ 1 1 [.int .i64 u] rfl rfl (cell_one_new _ _ _) ?c2 ?c3 ?c4 ?c5 ?_)
              case c2 => first | rfl | (intro u hu; simp at hu; subst hu; rfl)
              case c3 => have := HXL.out; have := HYL.out; have := HE.out; unfold maxLen; omega
              case c4 => have := HXL.out; have := HYL.out; have := HE.out; omega
              case c5 => have := X15.out.bx.le; first | omega | (simp; omega)
              intro v9 v16 hown hgrow _ hblk
              have X16 := Lib.hid (Xa.out.snocV (by omega) hgw hown hgrow (by simpa using hblk))
              clear hown hgrow hblk Xa X15
              go_wp2
              go_roundw
              case rel => exact ⟨i + 1, m - 1, xs ++ [(z : Int)], ys ++ [u], by omega, by go_num, by rw [List.length_append]; have := HXL.out; simp; omega, by rw [List.length_append, List.length_append, HXL.out, HYL.out, HE.out]; rfl, ⟨X16.out.rd.mono (by omega), X16.out.gr, X16.out.bx, X16.out.fr, X16.out.ro⟩⟩
              case measure => simp [intOf]; omega
          · skip
            have Xa := Lib.hid (X2.out.alloc (.cells #[.int .i64 (z : Int)] 3))
            go_wp2_with (at_builtin; refine wpList_append_own_at _ rfl _ _ 26 rfl (w.heap.size + 1) 3 i0 (.int .i64 0) 1 8 Tryz.underlying26 hi0 hz0 hz1 hz2 rfl (by decide) _ _ _ rfl Xa.out.ro.n ⟨_, 0, none⟩ 1 1 [.int .i64 (z : Int)] rfl rfl (cell_one_new _ _ _) ?c2 ?c3 ?c4 ?c5 ?_)
            case c2 => first | rfl | (intro u hu; simp at hu; subst hu; rfl)
            case c3 => have := HXL.out; have := HYL.out; have := HE.out; unfold maxLen; omega
            case c4 => have := HXL.out; have := HYL.out; have := HE.out; omega
            case c5 => have := X2.out.bx.le; first | omega | (simp; omega)
            intro v9 v17 hown hgrow _ hblk
            have X17 := Lib.hid (Xa.out.snocN (by omega) hgw hown hgrow (by simpa using hblk) (by omega) (by omega))
            clear hown hgrow hblk Xa X2
            go_wp2_with fail
            refine (pick_any g A n c bs _ 1000 _ X17.out.rd HN.out hby hs (by omega) (by omega)).mono ?_
            rintro e v18 ⟨y, rfl, hy, _, hr, ht⟩
            have X18 := Lib.hid (X17.out.turn hr ht hlo hgw)
            clear hr ht X17
            have Xb := Lib.hid (X18.out.alloc (.cells #[.int .i64 0, .int .i64 1, .int .i64 y, .int .i64 3] 3))
            go_wp2_with fail
            refine (one_any g A n c bs _ v18.heap.size 0 4 4 [0, 1, (y : Int), 3] _ Xb.out.rd HN.out hby hs (by omega) rfl (by omega) (by omega) ?_ (by have := X18.out.rd.lt; omega) (by simp)).mono ?_
            · intro j hj
              have : j = 0 ∨ j = 1 ∨ j = 2 ∨ j = 3 := by omega
              rcases this with rfl | rfl | rfl | rfl <;> go_simp
            rintro e v19 ⟨u, rfl, _, hr, ht⟩
            have X19 := Lib.hid (Xb.out.turn hr ht hlo hgw)
            clear hr ht Xb X18
            have Xa := Lib.hid (X19.out.alloc (.cells #[.int .i64 u] 3))
            go_wp2_with (at_builtin; refine wpList_append_own_at _ rfl _ _ 26 rfl (w.heap.size + 1) 3 i0 (.int .i64 0) 1 8 Tryz.underlying26 hi0 hz0 hz1 hz2 rfl (by decide) _ _ _ rfl Xa.out.ro.v ⟨_, 0, none⟩ 1 1 [.int .i64 u] rfl rfl (cell_one_new _ _ _) ?c2 ?c3 ?c4 ?c5 ?_)
            case c2 => first | rfl | (intro u hu; simp at hu; subst hu; rfl)
            case c3 => have := HXL.out; have := HYL.out; have := HE.out; unfold maxLen; omega
            case c4 => have := HXL.out; have := HYL.out; have := HE.out; omega
            case c5 => have := X19.out.bx.le; first | omega | (simp; omega)
            intro v9 v20 hown hgrow _ hblk
            have X20 := Lib.hid (Xa.out.snocV (by omega) hgw hown hgrow (by simpa using hblk))
            clear hown hgrow hblk Xa X19
            go_wp2
            go_roundw
            case rel => exact ⟨i + 1, m - 1, xs ++ [(z : Int)], ys ++ [u], by omega, by go_num, by rw [List.length_append]; have := HXL.out; simp; omega, by rw [List.length_append, List.length_append, HXL.out, HYL.out, HE.out]; rfl, ⟨X20.out.rd.mono (by omega), X20.out.gr, X20.out.bx, X20.out.fr, X20.out.ro⟩⟩
            case measure => simp [intOf]; omega
      · skip
        have HPL := Lib.hid (spec_placeIn AN lx cN xs ((z : Int)) w7 w7.heap.size (Nat.le_refl _) HXL.out.symm (IS.of_own (n := lx) (by have := Y1.out.ro.n; rw [HXL.out] at this; exact this)) (by omega))
        generalize plc xs ((z : Int)) = p at *
        go_wp2_with fail
        refine HPL.out.mono ?_
        rintro e w6 ⟨rfl, rfl⟩
        clear HPL
        by_cases hp : 0 ≤ p
        · skip
          go_wp2_with fail
          refine (pick_any g A n c bs _ 8 _ Y1.out.rd HN.out hby hs (by omega) (by omega)).mono ?_
          rintro e v21 ⟨p8, rfl, hp8, _, hr, ht⟩
          have X21 := Lib.hid (Y1.out.turn hr ht hlo hgw)
          clear hr ht Y1
          by_cases h8 : 0 < p8
          · skip
            have h8i : (0 : Int) < (p8 : Int) := by omega
            go_wp2
            go_roundw
            case rel => exact ⟨i + 1, m - 1, xs, ys, by omega, by go_num, by have := HXL.out; omega, by rw [HXL.out, HYL.out]; exact HE.out, ⟨X21.out.rd.mono (by omega), X21.out.gr, X21.out.bx, X21.out.fr, X21.out.ro⟩⟩
            case measure => simp [intOf]; omega
          · skip
            obtain rfl : p8 = 0 := by omega
            have Xa := Lib.hid (X21.out.alloc (.cells #[.int .i64 (z : Int)] 3))
            go_wp2_with (at_builtin; refine wpList_append_own_at _ rfl _ _ 26 rfl (w.heap.size + 1) 3 i0 (.int .i64 0) 1 8 Tryz.underlying26 hi0 hz0 hz1 hz2 rfl (by decide) _ _ _ rfl Xa.out.ro.n ⟨_, 0, none⟩ 1 1 [.int .i64 (z : Int)] rfl rfl (cell_one_new _ _ _) ?c2 ?c3 ?c4 ?c5 ?_)
            case c2 => first | rfl | (intro u hu; simp at hu; subst hu; rfl)
            case c3 => have := HXL.out; have := HYL.out; have := HE.out; unfold maxLen; omega
            case c4 => have := HXL.out; have := HYL.out; have := HE.out; omega
            case c5 => have := X21.out.bx.le; first | omega | (simp; omega)
            intro v9 v22 hown hgrow _ hblk
            have X22 := Lib.hid (Xa.out.snocN (by omega) hgw hown hgrow (by simpa using hblk) (by omega) (by omega))
            clear hown hgrow hblk Xa X21
            go_wp2_with fail
            refine (pick_any g A n c bs _ 1000 _ X22.out.rd HN.out hby hs (by omega) (by omega)).mono ?_
            rintro e v23 ⟨y, rfl, hy, _, hr, ht⟩
            have X23 := Lib.hid (X22.out.turn hr ht hlo hgw)
            clear hr ht X22
            have Xb := Lib.hid (X23.out.alloc (.cells #[.int .i64 0, .int .i64 1, .int .i64 y, .int .i64 3] 3))
            go_wp2_with fail
            refine (one_any g A n c bs _ v23.heap.size 0 4 4 [0, 1, (y : Int), 3] _ Xb.out.rd HN.out hby hs (by omega) rfl (by omega) (by omega) ?_ (by have := X23.out.rd.lt; omega) (by simp)).mono ?_
            · intro j hj
              have : j = 0 ∨ j = 1 ∨ j = 2 ∨ j = 3 := by omega
              rcases this with rfl | rfl | rfl | rfl <;> go_simp
            rintro e v24 ⟨u, rfl, _, hr, ht⟩
            have X24 := Lib.hid (Xb.out.turn hr ht hlo hgw)
            clear hr ht Xb X23
            have Xa := Lib.hid (X24.out.alloc (.cells #[.int .i64 u] 3))
            go_wp2_with (at_builtin; refine wpList_append_own_at _ rfl _ _ 26 rfl (w.heap.size + 1) 3 i0 (.int .i64 0) 1 8 Tryz.underlying26 hi0 hz0 hz1 hz2 rfl (by decide) _ _ _ rfl Xa.out.ro.v ⟨_, 0, none⟩ 1 1 [.int .i64 u] rfl rfl (cell_one_new _ _ _) ?c2 ?c3 ?c4 ?c5 ?_)
            case c2 => first | rfl | (intro u hu; simp at hu; subst hu; rfl)
            case c3 => have := HXL.out; have := HYL.out; have := HE.out; unfold maxLen; omega
            case c4 => have := HXL.out; have := HYL.out; have := HE.out; omega
            case c5 => have := X24.out.bx.le; first | omega | (simp; omega)
            intro v9 v25 hown hgrow _ hblk
            have X25 := Lib.hid (Xa.out.snocV (by omega) hgw hown hgrow (by simpa using hblk))
            clear hown hgrow hblk Xa X24
            go_wp2
            go_roundw
            case rel => exact ⟨i + 1, m - 1, xs ++ [(z : Int)], ys ++ [u], by omega, by go_num, by rw [List.length_append]; have := HXL.out; simp; omega, by rw [List.length_append, List.length_append, HXL.out, HYL.out, HE.out]; rfl, ⟨X25.out.rd.mono (by omega), X25.out.gr, X25.out.bx, X25.out.fr, X25.out.ro⟩⟩
            case measure => simp [intOf]; omega
        · skip
          have Xa := Lib.hid (Y1.out.alloc (.cells #[.int .i64 (z : Int)] 3))
          go_wp2_with (at_builtin; refine wpList_append_own_at _ rfl _ _ 26 rfl (w.heap.size + 1) 3 i0 (.int .i64 0) 1 8 Tryz.underlying26 hi0 hz0 hz1 hz2 rfl (by decide) _ _ _ rfl Xa.out.ro.n ⟨_, 0, none⟩ 1 1 [.int .i64 (z : Int)] rfl rfl (cell_one_new _ _ _) ?c2 ?c3 ?c4 ?c5 ?_)
          case c2 => first | rfl | (intro u hu; simp at hu; subst hu; rfl)
          case c3 => have := HXL.out; have := HYL.out; have := HE.out; unfold maxLen; omega
          case c4 => have := HXL.out; have := HYL.out; have := HE.out; omega
          case c5 => have := Y1.out.bx.le; first | omega | (simp; omega)
          intro v9 v26 hown hgrow _ hblk
          have X26 := Lib.hid (Xa.out.snocN (by omega) hgw hown hgrow (by simpa using hblk) (by omega) (by omega))
          clear hown hgrow hblk Xa Y1
          go_wp2_with fail
          refine (pick_any g A n c bs _ 1000 _ X26.out.rd HN.out hby hs (by omega) (by omega)).mono ?_
          rintro e v27 ⟨y, rfl, hy, _, hr, ht⟩
          have X27 := Lib.hid (X26.out.turn hr ht hlo hgw)
          clear hr ht X26
          have Xb := Lib.hid (X27.out.alloc (.cells #[.int .i64 0, .int .i64 1, .int .i64 y, .int .i64 3] 3))
          go_wp2_with fail
          refine (one_any g A n c bs _ v27.heap.size 0 4 4 [0, 1, (y : Int), 3] _ Xb.out.rd HN.out hby hs (by omega) rfl (by omega) (by omega) ?_ (by have := X27.out.rd.lt; omega) (by simp)).mono ?_
          · intro j hj
            have : j = 0 ∨ j = 1 ∨ j = 2 ∨ j = 3 := by omega
            rcases this with rfl | rfl | rfl | rfl <;> go_simp
          rintro e v28 ⟨u, rfl, _, hr, ht⟩
          have X28 := Lib.hid (Xb.out.turn hr ht hlo hgw)
          clear hr ht Xb X27
          have Xa := Lib.hid (X28.out.alloc (.cells #[.int .i64 u] 3))
          go_wp2_with (at_builtin; refine wpList_append_own_at _ rfl _ _ 26 rfl (w.heap.size + 1) 3 i0 (.int .i64 0) 1 8 Tryz.underlying26 hi0 hz0 hz1 hz2 rfl (by decide) _ _ _ rfl Xa.out.ro.v ⟨_, 0, none⟩ 1 1 [.int .i64 u] rfl rfl (cell_one_new _ _ _) ?c2 ?c3 ?c4 ?c5 ?_)
          case c2 => first | rfl | (intro u hu; simp at hu; subst hu; rfl)
          case c3 => have := HXL.out; have := HYL.out; have := HE.out; unfold maxLen; omega
          case c4 => have := HXL.out; have := HYL.out; have := HE.out; omega
          case c5 => have := X28.out.bx.le; first | omega | (simp; omega)
          intro v9 v29 hown hgrow _ hblk
          have X29 := Lib.hid (Xa.out.snocV (by omega) hgw hown hgrow (by simpa using hblk))
          clear hown hgrow hblk Xa X28
          go_wp2
          go_roundw
          case rel => exact ⟨i + 1, m - 1, xs ++ [(z : Int)], ys ++ [u], by omega, by go_num, by rw [List.length_append]; have := HXL.out; simp; omega, by rw [List.length_append, List.length_append, HXL.out, HYL.out, HE.out]; rfl, ⟨X29.out.rd.mono (by omega), X29.out.gr, X29.out.bx, X29.out.fr, X29.out.ro⟩⟩
          case measure => simp [intOf]; omega
    · skip
      obtain rfl : m = 0 := by omega
      by_cases hl0 : ly = 0
      · skip
        subst hl0
        go_wp2
        refine bodyPost_ret (v := .tuple #[.slice AN lx cN, .slice AV 0 cV]) (by simp [results, Tryz.results32, go_sem]) rfl ?_
        exact ⟨_, _, xs, ys, rfl, by rw [HXL.out, HYL.out]; exact HE.out, by have := HXL.out; omega, HX.out.ro.ok, HX.out.ro.n, HX.out.ro.v, HX.out.rd.mono (by omega), HX.out.fr⟩
      · skip
        have hli2 : (0 : Int) < (ly : Int) := by omega
        go_wp2_with fail
        refine (pick_any g A n c bs _ 24 _ HX.out.rd HN.out hby hs (by omega) (by omega)).mono ?_
        rintro e v30 ⟨q24, rfl, hq24, _, hr, ht⟩
        have X30 := Lib.hid (HX.out.turn hr ht hlo hgw)
        clear hr ht HX
        cases hq24 : ((q24 : Int) == 0)
        · skip
          go_wp2
          refine bodyPost_ret (v := .tuple #[.slice AN lx cN, .slice AV ly cV]) (by simp [results, Tryz.results32, go_sem]) rfl ?_
          exact ⟨_, _, xs, ys, rfl, by rw [HXL.out, HYL.out]; exact HE.out, by have := HXL.out; omega, X30.out.ro.ok, X30.out.ro.n, X30.out.ro.v, X30.out.rd.mono (by omega), X30.out.fr⟩
        · skip
          have HQ0 := Lib.hid hq24
          have Xa := Lib.hid (X30.out.alloc (.cells #[.int .i64 (-1), .int .i64 1000] 3))
          obtain ⟨gv, rfl⟩ : ∃ gv, AV = some ⟨gv, 0, none⟩ := by
            rcases X30.out.ro.v.2 with ⟨_, hz⟩ | ⟨gv, cap, cur, hv, _⟩
            · have := HYL.out; omega
            · simp only [Value.slice.injEq] at hv; exact ⟨gv, hv.1⟩
          go_wp2_with fail
          refine (one_any g A n c bs _ v30.heap.size 0 2 2 [-1, 1000] _ Xa.out.rd HN.out hby hs (by omega) rfl (by omega) (by omega) ?_ (by have := X30.out.rd.lt; omega) (by simp)).mono ?_
          · intro j hj
            have : j = 0 ∨ j = 1 := by omega
            rcases this with rfl | rfl <;> go_simp
          rintro e wz ⟨u, rfl, _, hr, ht⟩
          have Xz := Lib.hid (Xa.out.turn hr ht hlo hgw)
          clear hr ht Xa X30
          have hvo : wz.ownsRow (w.heap.size + 1) 3 1 (.slice (some ⟨gv, 0, none⟩) ly cV) ly (ys.map (Value.int .i64)) := by have := Xz.out.ro.v; rw [HYL.out] at this; exact this
          have u0 := hvo.cellAt 0 (by omega)
          rw [List.getElem?_eq_getElem (by rw [List.length_map, HYL.out]; omega)] at u0
          have f0 := hvo.frozenAt 0
          have hst := (hvo.stored 0 (.int .i64 u)).1
          rw [← List.map_set] at hst
          generalize (ys.map (Value.int .i64))[0]'_ = vv at u0
          have hgv := hvo.lt gv rfl
          have hbz : Below (w.heap.size + 1) wz (wz.setCell ⟨gv, 0, none⟩ (.int .i64 u)) := (Below.refl _ _).setCell (p := ⟨gv, 0, none⟩) hgv.1 _
          have htz : Tch (w.heap.size + 1) wz.heap.size wz (wz.setCell ⟨gv, 0, none⟩ (.int .i64 u)) := Tch.of_grown (hvo.stored 0 (.int .i64 u)).2 fun q hq => by cases hq; exact hgv
          have HV2 : Hid ((wz.setCell ⟨gv, 0, none⟩ (.int .i64 u)).ownsRow (w.heap.size + 1) 3 1 (.slice (some ⟨gv, 0, none⟩) ly cV) (ys.set 0 u).length ((ys.set 0 u).map (Value.int .i64))) := by show World.ownsRow _ _ _ _ _ _ _; rw [List.length_set, HYL.out]; exact hst
          have HN2 := Lib.hid (Xz.out.ro.n.kept (hvo.stored 0 (.int .i64 u)).2 (.inr Xz.out.ro.ne))
          have HRz := Lib.hid (Xz.out.rd.turn htz (by omega))
          have HFz := Lib.hid (Xz.out.fr.trans (Frd.of_below hbz (by omega)))
          have HOK := Lib.hid Xz.out.ro.ok
          clear hst hbz htz hvo Xz
          go_wp2
          refine bodyPost_ret (v := .tuple #[.slice AN lx cN, .slice (some ⟨gv, 0, none⟩) ly cV]) (by simp [results, Tryz.results32, go_sem]) rfl ?_
          exact ⟨_, _, xs, ys.set 0 u, rfl, by rw [List.length_set, HXL.out, HYL.out]; exact HE.out, by have := HXL.out; omega, HOK.out, HN2.out, HV2.out, HRz.out.mono (by omega), HFz.out⟩
end Go.Proofs.YtgakgmkonmgblaaGreat

namespace Go.Proofs.YtgakgmkonmgblaaGreat
set_option linter.unusedSimpArgs false
set_option linter.unusedVariables false
open Go.RowKit
theorem Bx.as2 {b : Nat} {v u : Value} {w : World} (h : Bx b [v, u] w) : As b (b + 1) (fun w' => w'.cell? ⟨b, 0, none⟩ = some v ∧ w'.cell? ⟨b, 1, none⟩ = some u) w := ⟨⟨h.c 0 _ rfl, h.c 1 _ rfl⟩, h.lt, box2_loc _ _ _⟩
theorem Bx.as3 {b : Nat} {v u x : Value} {w : World} (h : Bx b [v, u, x] w) : As b (b + 1) (fun w' => w'.cell? ⟨b, 0, none⟩ = some v ∧ w'.cell? ⟨b, 1, none⟩ = some u ∧ w'.cell? ⟨b, 2, none⟩ = some x) w := ⟨⟨h.c 0 _ rfl, h.c 1 _ rfl, h.c 2 _ rfl⟩, h.lt, box3_loc _ _ _ _⟩
theorem Bx.tch {b : Nat} (w : World) (j : Nat) (u : Value) : Tch b (b + 1) w (w.setCell ⟨b, j, none⟩ u) := Tch.of_grown (grown_setCell0 w b j u) fun k hk => by cases hk; omega
end Go.Proofs.YtgakgmkonmgblaaGreat
