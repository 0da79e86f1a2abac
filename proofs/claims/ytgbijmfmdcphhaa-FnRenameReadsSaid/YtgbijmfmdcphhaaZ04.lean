/- Texts put together: D5 D7 G3 G7 D8 D9 D10 R1 R8 T10 R0 R2 R4. -/
import Derived.Test.YtgbijmfmdcphhaaZ03
import Derived.StillTailTactics
import Derived.RegionTactic
/- The drawing of formulas: someFormula. -/
namespace Go.Proofs.Ytgbijmfmdcphhaa
set_option linter.unusedSimpArgs false
set_option linter.unusedVariables false
open Go.RowKit

theorem cells_some (ps : List Pt) (i : Nat) (x : Int) (hi : i < ps.length * 5) : ∃ qs : List Pt, qs.length = ps.length ∧ qs.flatMap Pt.cells = (ps.flatMap Pt.cells).set i (.int .i64 x) := by
  induction ps generalizing i with
  | nil => simp at hi
  | cons p ps ih =>
    rcases Nat.lt_or_ge i 5 with h | h
    · have : i = 0 ∨ i = 1 ∨ i = 2 ∨ i = 3 ∨ i = 4 := by omega
      rcases this with rfl | rfl | rfl | rfl | rfl
      · exact ⟨{ p with k := x } :: ps, rfl, by simp [Pt.cells]⟩
      · exact ⟨{ p with a := x } :: ps, rfl, by simp [Pt.cells]⟩
      · exact ⟨{ p with b := x } :: ps, rfl, by simp [Pt.cells]⟩
      · exact ⟨{ p with c := x } :: ps, rfl, by simp [Pt.cells]⟩
      · exact ⟨{ p with n := x } :: ps, rfl, by simp [Pt.cells]⟩
    · obtain ⟨i', rfl⟩ : ∃ i', i = i' + 5 := ⟨i - 5, by omega⟩
      obtain ⟨qs, h1, h2⟩ := ih i' (by simp at hi; omega)
      refine ⟨p :: qs, by simp [h1], ?_⟩
      rw [List.flatMap_cons, List.flatMap_cons, h2]
      simp [Pt.cells]

theorem own_set {w : World} {base e size g n c : Nat} {xs : List Value} (h : w.ownsRow base e size (.slice (some ⟨g, 0, none⟩) n c) n xs) (a : Addr) (ha : a.block ≠ g) (x : Value) : (w.setCell a x).ownsRow base e size (.slice (some ⟨g, 0, none⟩) n c) n xs := by
  refine ⟨h.1, ?_⟩
  rcases h.2 with ⟨h', _⟩ | ⟨g', cap', cur, h', hb, hg, hrest⟩
  · simp at h'
  · have hgg : g = g' := by simp at h'; exact h'.1
    exact .inr ⟨g', cap', cur, h', hb, (Below.heap_setCell _ _ _ _ (by omega)).trans hg, hrest⟩

/-- Returns a formula of some parts in fresh blocks, of any content; the reader has picked Q times at most. -/
def SfP (g : Nat) (A : Option Addr) (n c : Nat) (bs : List Int) (Q : Nat) (w : World) (e : Ending) (w' : World) : Prop :=
  ∃ (A' : Option Addr) (n' c' : Nat) (ps : List Pt), e = .returned (.agg #[.slice A' n' c']) ∧ n' = ps.length ∧ 1 ≤ n' ∧ n' ≤ 41 ∧ w'.ownsRow w.heap.size 73 5 (.slice A' n' c') n' (ps.flatMap Pt.cells) ∧ Rdr g A n c bs Q w' ∧ Tch g (g + 1) w w'
theorem Tch.of_below' {C : Nat} {w w' : World} (h : Below C w w') : Tch C w'.heap.size w w' := ⟨h.os, h.tape, h.output, h.size, fun k hk hr => h.block k (by have := h.size; omega)⟩

set_option maxRecDepth 100000 in
set_option maxHeartbeats 3200000 in
theorem someFormula_any (g : Nat) (A : Option Addr) (n c : Nat) (bs : List Int) (P : Nat) (w : World) (h : Rdr g A n c bs P w) (hn : n = bs.length) (hby : BY bs) (hs : n ≤ 2000) (hP : P ≤ 800000) :
    Calls Try.prog 52 #[.pointer (some ⟨g, 0, none⟩)] w fun e w' => SfP g A n c bs (P + 300) w e w' := by
  obtain ⟨i1, hi1, hy0, hy1, hy2⟩ := info_parts info_part
  have hgw := h.lt
  have HN := Lib.hid hn
  have HR0 := Lib.hid ((h.alloc (.cells #[.slice none 0 0] 25)).alloc (.cells #[.int .i64 0, .int .i64 1, .int .i64 2, .int .i64 3] 3))
  have hBW : Below w.heap.size w ((w.alloc (.cells #[.slice none 0 0] 25)).alloc (.cells #[.int .i64 0, .int .i64 1, .int .i64 2, .int .i64 3] 3)) := ((Below.refl _ _).alloc (Nat.le_refl _) _).alloc (by simp) _
  have HF0 := Lib.hid (Frd.of_below (g := g) (s := w.heap.size) hBW (Nat.le_refl _))
  clear h hn hBW
  go_enter Try.func52, Try.ntmps52
  go_wp2_with fail
  refine (goodFormula_any g A n c bs P (some ⟨w.heap.size + 1, 0, none⟩) 4 4 [0, 1, 2, 3] _ HR0.out HN.out hby hs (by omega) rfl (by omega) ?_ ?_).mono ?_
  · intro _
    refine ⟨w.heap.size + 1, 0, rfl, by simp, fun j hj => ?_⟩
    have : j = 0 ∨ j = 1 ∨ j = 2 ∨ j = 3 := by simp at hj; omega
    rcases this with rfl | rfl | rfl | rfl <;> go_simp
  · intro b' o' e; cases e; omega
  rintro e w1 ⟨Af, nf, cf, ps, rfl, hpl, hnf1, hnf2, hrow, hr1, ht1⟩
  have hs1 : w.heap.size + 2 ≤ w1.heap.size := by have := ht1.size; simpa using this
  have k0 : w1.cell? ⟨w.heap.size, 0, none⟩ = some (.slice none 0 0) := (World.cell?_of_block (a := ⟨w.heap.size, 0, none⟩) (ht1.block w.heap.size (by simp; omega) (.inr (by omega)))).trans (by go_simp)
  have k1 : w1.frozen? ⟨w.heap.size, 0, none⟩ = false := (World.frozen?_of_block (a := ⟨w.heap.size, 0, none⟩) (ht1.block w.heap.size (by simp; omega) (.inr (by omega)))).trans (by go_simp)
  obtain ⟨bp, cp, hbv⟩ := row_pos hrow (by omega)
  cases hbv
  have hbp := hrow.lt bp rfl
  simp only [World.size_alloc] at hbp hrow
  have HF1 := Lib.hid (HF0.out.trans (Frd.of_tch ht1 (by simp; omega)))
  have HR1 := Lib.hid (hr1.alloc (.cells #[.slice (some ⟨bp, 0, none⟩) nf cf] 25))
  have HO1 := Lib.hid hrow
  have HPL := Lib.hid hpl
  clear hr1 ht1 hpl hrow HR0 HF0
  obtain ⟨b3, hb3⟩ : ∃ b3, b3 = w1.heap.size := ⟨_, rfl⟩
  have HB3 := Lib.hid hb3
  have hb3p : bp < b3 := by omega
  have hb3s : w.heap.size + 2 ≤ b3 := by omega
  clear hb3
  go_wp2_with fail
  refine (pick_any g A n c bs (P + 200) nf _ HR1.out HN.out hby hs (by omega) (by omega)).mono ?_
  rintro e w2 ⟨k, rfl, hk, _, hr2, ht2⟩
  have hkn : k < nf := by have := hk (by omega); omega
  have hs2 := ht2.size
  simp only [World.size_alloc] at hs2
  have c3 : w2.cell? ⟨w1.heap.size, 0, none⟩ = some (.slice (some ⟨bp, 0, none⟩) nf cf) := (World.cell?_of_block (a := ⟨w1.heap.size, 0, none⟩) (ht2.block w1.heap.size (by simp) (.inr (by omega)))).trans (by go_simp)
  have z3 : w2.frozen? ⟨w1.heap.size, 0, none⟩ = false := (World.frozen?_of_block (a := ⟨w1.heap.size, 0, none⟩) (ht2.block w1.heap.size (by simp) (.inr (by omega)))).trans (by go_simp)
  have k2 := (World.cell?_of_block (a := ⟨w.heap.size, 0, none⟩) (ht2.block w.heap.size (by simp; omega) (.inr (by omega)))).trans ((World.cell?_alloc_lt w1 _ ⟨w.heap.size, 0, none⟩ (by show w.heap.size < w1.heap.size; omega)).trans k0)
  have l2 : w2.frozen? ⟨w.heap.size, 0, none⟩ = false := (World.frozen?_of_block (a := ⟨w.heap.size, 0, none⟩) (ht2.block w.heap.size (by simp; omega) (.inr (by omega)))).trans ((World.frozen?_alloc_past _ w.heap.size 0 (by omega)).trans k1)
  have HR2 := Lib.hid hr2
  have HF2 := Lib.hid ((HF1.out.trans (Frd.of_below (w' := w1.alloc (.cells #[.slice (some ⟨bp, 0, none⟩) nf cf] 25)) ((Below.refl w1.heap.size w1).alloc (Nat.le_refl _) _) (by omega))).trans (Frd.of_tch ht2 (by simp; omega)))
  have HO2 := Lib.hid (own_keep (HO1.out.alloc (.cells #[.slice (some ⟨bp, 0, none⟩) nf cf] 25)) fun q hq hq' => ht2.block q hq' (.inr (by omega)))
  clear hr2 ht2 HR1 HF1 HO1 k0 k1 hk
  go_wp2_with fail
  refine (pick_any g A n c bs (P + 200 + 1) 24 _ HR2.out HN.out hby hs (by omega) (by omega)).mono ?_
  rintro e w3 ⟨x, rfl, _, _, hr3, ht3⟩
  have hs3 := ht3.size
  have c4 := (World.cell?_of_block (a := ⟨w1.heap.size, 0, none⟩) (ht3.block w1.heap.size (by omega) (.inr (by omega)))).trans c3
  have z4 := (World.frozen?_of_block (a := ⟨w1.heap.size, 0, none⟩) (ht3.block w1.heap.size (by omega) (.inr (by omega)))).trans z3
  have k4 := (World.cell?_of_block (a := ⟨w.heap.size, 0, none⟩) (ht3.block w.heap.size (by omega) (.inr (by omega)))).trans k2
  have l4 := (World.frozen?_of_block (a := ⟨w.heap.size, 0, none⟩) (ht3.block w.heap.size (by omega) (.inr (by omega)))).trans l2
  have HR3 := Lib.hid hr3
  have HF3 := Lib.hid (HF2.out.trans (Frd.of_tch ht3 (by omega)))
  have HO3 := Lib.hid (own_keep HO2.out fun q hq hq' => ht3.block q hq' (.inr (by omega)))
  have hbpo := hbp.1
  clear hr3 ht3 HR2 HF2 HO2 c3 z3 k2 l2
  by_cases hx0 : x = 0
  · subst hx0
    have HR4 := Lib.hid (HR3.out.alloc (.cells #[.int .i64 (-1), .int .i64 9, .int .i64 8] 3))
    have HF4 := Lib.hid (HF3.out.trans (Frd.of_below (w' := w3.alloc (.cells #[.int .i64 (-1), .int .i64 9, .int .i64 8] 3)) ((Below.refl w3.heap.size w3).alloc (Nat.le_refl _) _) (by omega)))
    have HO4 := Lib.hid (HO3.out.alloc (.cells #[.int .i64 (-1), .int .i64 9, .int .i64 8] 3))
    have hg3 : w3.heap.size ≠ g := by omega
    have hb3a : w1.heap.size < w3.heap.size := by omega
    have hs0 : w.heap.size < w3.heap.size := by omega
    have hcl := length_cells ps
    have hne : ∀ q : Nat, (⟨bp, q, none⟩ : Addr) ≠ ⟨w1.heap.size, 0, none⟩ := fun q e => by have := congrArg Addr.block e; simp at this; omega
    have hne3 : ∀ q : Nat, (⟨bp, q, none⟩ : Addr) ≠ ⟨w.heap.size, 0, none⟩ := fun q e => by have := congrArg Addr.block e; simp at this; omega
    obtain ⟨v5, hv5⟩ : ∃ v, (ps.flatMap Pt.cells)[k * 5]? = some v := ⟨_, List.getElem?_eq_getElem (by have := HPL.out; omega)⟩
    have HV5 := Lib.hid hv5
    clear hv5 hcl
    have c5 := (World.cell?_alloc_lt w3 (.cells #[.int .i64 (-1), .int .i64 9, .int .i64 8] 3) ⟨w1.heap.size, 0, none⟩ hb3a).trans c4
    have k5 := (World.cell?_alloc_lt w3 (.cells #[.int .i64 (-1), .int .i64 9, .int .i64 8] 3) ⟨w.heap.size, 0, none⟩ hs0).trans k4
    have l5 := (World.frozen?_alloc_past (.cells #[.int .i64 (-1), .int .i64 9, .int .i64 8] 3) w.heap.size 0 hs0).trans l4
    go_wp2_with fail
    go_region_held3 (fun w' => w'.cell? ⟨w1.heap.size, 0, none⟩ = some (.slice (some ⟨bp, 0, none⟩) nf cf)) (first | exact c4 | exact c5 | exact c6 | exact (World.cell?_setCell_other _ _ _ _ (hne _)).trans c6)
      (first
        | (go_at_call 64; refine (one_any g A n c bs (P + 202) w3.heap.size 0 3 3 [(-1), 9, 8] _ ?_ HN.out hby hs ?_ rfl ?_ ?_ ?_ hg3 ?_).mono ?_; (first | exact HR4.out | exact HR4.out.drew); omega; omega; omega; (intro j hj; have hj3 : j = 0 ∨ j = 1 ∨ j = 2 := (by omega); rcases hj3 with rfl | rfl | rfl <;> go_simp); (simp); rintro e w4 ⟨z, rfl, _, hr4, ht4'⟩; have ht4 : Tch g (g + 1) (w3.alloc (.cells #[.int .i64 (-1), .int .i64 9, .int .i64 8] 3)) w4 := ⟨ht4'.os, ht4'.tape, ht4'.output, ht4'.size, ht4'.block⟩; have HR5 := Lib.hid hr4; have HF5 := Lib.hid (HF4.out.trans (Frd.of_tch ht4 (Nat.le_trans (Nat.le_of_lt hs0) (by simp)))); have HO5 := Lib.hid (own_keep HO4.out fun q hq hq' => ht4.block q hq' (.inr (by omega))); have u5 := (HO5.out.cellAt (k * 5) (by omega)).trans HV5.out; have f5 := HO5.out.frozenAt (k * 5); have c6 := (World.cell?_of_block (a := ⟨w1.heap.size, 0, none⟩) (ht4.block w1.heap.size (by simp; omega) (.inr (by omega)))).trans c5; have k6 := (World.cell?_of_block (a := ⟨w.heap.size, 0, none⟩) (ht4.block w.heap.size (by simp; omega) (.inr (by omega)))).trans k5; have l6 := (World.frozen?_of_block (a := ⟨w.heap.size, 0, none⟩) (ht4.block w.heap.size (by simp; omega) (.inr (by omega)))).trans l5))
    have c7 : (w4.setCell ⟨bp, k * 5, none⟩ (.int .i64 z)).cell? ⟨w1.heap.size, 0, none⟩ = some (.slice (some ⟨bp, 0, none⟩) nf cf) := (World.cell?_setCell_other _ _ _ _ (hne (k * 5))).trans c6
    have k7 : (w4.setCell ⟨bp, k * 5, none⟩ (.int .i64 z)).cell? ⟨w.heap.size, 0, none⟩ = some (.slice none 0 0) := (World.cell?_setCell_other _ _ _ _ (hne3 (k * 5))).trans k6
    have l7 : (w4.setCell ⟨bp, k * 5, none⟩ (.int .i64 z)).frozen? ⟨w.heap.size, 0, none⟩ = false := by rw [World.frozen?_setCell]; exact l6
    obtain ⟨qs, hq1, hq2⟩ := cells_some ps (k * 5) z (by have := HPL.out; omega)
    have hst := (HO5.out.stored (k * 5) (.int .i64 z)).1
    rw [← hq2] at hst
    have HST := Lib.hid hst
    have HQ := Lib.hid hq1
    clear hq1 hq2 hst u5 f5 c6 k6 l6
    have hsz4 := ht4.size
    have hw4 : w.heap.size < w4.heap.size := by simp at hsz4; omega
    go_wp2
    refine bodyPost_ret (v := .agg #[.slice (some ⟨bp, 0, none⟩) nf cf]) (by simp [results, Try.results52, go_sem, k7]) rfl ?_
    have hb1 : Below w.heap.size w4 (w4.setCell ⟨bp, k * 5, none⟩ (.int .i64 z)) := (Below.refl w.heap.size w4).setCell (by show w.heap.size ≤ bp; omega) _
    have hb2 : Below w.heap.size w4 ((w4.setCell ⟨bp, k * 5, none⟩ (.int .i64 z)).setCell ⟨w.heap.size, 0, none⟩ (.slice (some ⟨bp, 0, none⟩) nf cf)) := hb1.setCell (Nat.le_refl _) _
    refine ⟨_, _, _, qs, rfl, by rw [HQ.out]; exact HPL.out, hnf1, by omega, ?_, ?_, ?_⟩
    · exact own_mono (own_keep HST.out fun q hq hq' => Below.heap_setCell _ _ _ _ (by show q ≠ w.heap.size; omega)) (by omega)
    · exact (HR5.out.mono (by omega)).turn (Tch.of_below' hb2) hgw
    · exact (HF5.out.trans (Frd.of_below hb2 (Nat.le_refl _))).tch
  · by_cases hx1 : x = 1
    · subst hx1
      have HR4 := Lib.hid (HR3.out.alloc (.cells #[.int .i64 k, .int .i64 (-1), .int .i64 5] 3))
      have HF4 := Lib.hid (HF3.out.trans (Frd.of_below (w' := w3.alloc (.cells #[.int .i64 k, .int .i64 (-1), .int .i64 5] 3)) ((Below.refl w3.heap.size w3).alloc (Nat.le_refl _) _) (by omega)))
      have HO4 := Lib.hid (HO3.out.alloc (.cells #[.int .i64 k, .int .i64 (-1), .int .i64 5] 3))
      have hg3 : w3.heap.size ≠ g := by omega
      have hb3a : w1.heap.size < w3.heap.size := by omega
      have hs0 : w.heap.size < w3.heap.size := by omega
      have hcl := length_cells ps
      have hne : ∀ q : Nat, (⟨bp, q, none⟩ : Addr) ≠ ⟨w1.heap.size, 0, none⟩ := fun q e => by have := congrArg Addr.block e; simp at this; omega
      have hne3 : ∀ q : Nat, (⟨bp, q, none⟩ : Addr) ≠ ⟨w.heap.size, 0, none⟩ := fun q e => by have := congrArg Addr.block e; simp at this; omega
      obtain ⟨v5, hv5⟩ : ∃ v, (ps.flatMap Pt.cells)[k * 5 + 1]? = some v := ⟨_, List.getElem?_eq_getElem (by have := HPL.out; omega)⟩
      have HV5 := Lib.hid hv5
      clear hv5 hcl
      have c5 := (World.cell?_alloc_lt w3 (.cells #[.int .i64 k, .int .i64 (-1), .int .i64 5] 3) ⟨w1.heap.size, 0, none⟩ hb3a).trans c4
      have k5 := (World.cell?_alloc_lt w3 (.cells #[.int .i64 k, .int .i64 (-1), .int .i64 5] 3) ⟨w.heap.size, 0, none⟩ hs0).trans k4
      have l5 := (World.frozen?_alloc_past (.cells #[.int .i64 k, .int .i64 (-1), .int .i64 5] 3) w.heap.size 0 hs0).trans l4
      go_wp2_with fail
      go_region_held3 (fun w' => w'.cell? ⟨w1.heap.size, 0, none⟩ = some (.slice (some ⟨bp, 0, none⟩) nf cf)) (first | exact c4 | exact c5 | exact c6 | exact (World.cell?_setCell_other _ _ _ _ (hne _)).trans c6)
        (first
          | (go_at_call 64; refine (one_any g A n c bs (P + 202) w3.heap.size 0 3 3 [k, (-1), 5] _ ?_ HN.out hby hs ?_ rfl ?_ ?_ ?_ hg3 ?_).mono ?_; (first | exact HR4.out | exact HR4.out.drew); omega; omega; omega; (intro j hj; have hj3 : j = 0 ∨ j = 1 ∨ j = 2 := (by omega); rcases hj3 with rfl | rfl | rfl <;> go_simp); (simp); rintro e w4 ⟨z, rfl, _, hr4, ht4'⟩; have ht4 : Tch g (g + 1) (w3.alloc (.cells #[.int .i64 k, .int .i64 (-1), .int .i64 5] 3)) w4 := ⟨ht4'.os, ht4'.tape, ht4'.output, ht4'.size, ht4'.block⟩; have HR5 := Lib.hid hr4; have HF5 := Lib.hid (HF4.out.trans (Frd.of_tch ht4 (Nat.le_trans (Nat.le_of_lt hs0) (by simp)))); have HO5 := Lib.hid (own_keep HO4.out fun q hq hq' => ht4.block q hq' (.inr (by omega))); have u5 := (HO5.out.cellAt (k * 5 + 1) (by omega)).trans HV5.out; have f5 := HO5.out.frozenAt (k * 5 + 1); have c6 := (World.cell?_of_block (a := ⟨w1.heap.size, 0, none⟩) (ht4.block w1.heap.size (by simp; omega) (.inr (by omega)))).trans c5; have k6 := (World.cell?_of_block (a := ⟨w.heap.size, 0, none⟩) (ht4.block w.heap.size (by simp; omega) (.inr (by omega)))).trans k5; have l6 := (World.frozen?_of_block (a := ⟨w.heap.size, 0, none⟩) (ht4.block w.heap.size (by simp; omega) (.inr (by omega)))).trans l5))
      have c7 : (w4.setCell ⟨bp, k * 5 + 1, none⟩ (.int .i64 z)).cell? ⟨w1.heap.size, 0, none⟩ = some (.slice (some ⟨bp, 0, none⟩) nf cf) := (World.cell?_setCell_other _ _ _ _ (hne (k * 5 + 1))).trans c6
      have k7 : (w4.setCell ⟨bp, k * 5 + 1, none⟩ (.int .i64 z)).cell? ⟨w.heap.size, 0, none⟩ = some (.slice none 0 0) := (World.cell?_setCell_other _ _ _ _ (hne3 (k * 5 + 1))).trans k6
      have l7 : (w4.setCell ⟨bp, k * 5 + 1, none⟩ (.int .i64 z)).frozen? ⟨w.heap.size, 0, none⟩ = false := by rw [World.frozen?_setCell]; exact l6
      obtain ⟨qs, hq1, hq2⟩ := cells_some ps (k * 5 + 1) z (by have := HPL.out; omega)
      have hst := (HO5.out.stored (k * 5 + 1) (.int .i64 z)).1
      rw [← hq2] at hst
      have HST := Lib.hid hst
      have HQ := Lib.hid hq1
      clear hq1 hq2 hst u5 f5 c6 k6 l6
      have hsz4 := ht4.size
      have hw4 : w.heap.size < w4.heap.size := by simp at hsz4; omega
      go_wp2
      refine bodyPost_ret (v := .agg #[.slice (some ⟨bp, 0, none⟩) nf cf]) (by simp [results, Try.results52, go_sem, k7]) rfl ?_
      have hb1 : Below w.heap.size w4 (w4.setCell ⟨bp, k * 5 + 1, none⟩ (.int .i64 z)) := (Below.refl w.heap.size w4).setCell (by show w.heap.size ≤ bp; omega) _
      have hb2 : Below w.heap.size w4 ((w4.setCell ⟨bp, k * 5 + 1, none⟩ (.int .i64 z)).setCell ⟨w.heap.size, 0, none⟩ (.slice (some ⟨bp, 0, none⟩) nf cf)) := hb1.setCell (Nat.le_refl _) _
      refine ⟨_, _, _, qs, rfl, by rw [HQ.out]; exact HPL.out, hnf1, by omega, ?_, ?_, ?_⟩
      · exact own_mono (own_keep HST.out fun q hq hq' => Below.heap_setCell _ _ _ _ (by show q ≠ w.heap.size; omega)) (by omega)
      · exact (HR5.out.mono (by omega)).turn (Tch.of_below' hb2) hgw
      · exact (HF5.out.trans (Frd.of_below hb2 (Nat.le_refl _))).tch
    · by_cases hx2 : x = 2
      · subst hx2
        have HR4 := Lib.hid (HR3.out.alloc (.cells #[.int .i64 (-1), .int .i64 100, .int .i64 1] 3))
        have HF4 := Lib.hid (HF3.out.trans (Frd.of_below (w' := w3.alloc (.cells #[.int .i64 (-1), .int .i64 100, .int .i64 1] 3)) ((Below.refl w3.heap.size w3).alloc (Nat.le_refl _) _) (by omega)))
        have HO4 := Lib.hid (HO3.out.alloc (.cells #[.int .i64 (-1), .int .i64 100, .int .i64 1] 3))
        have hg3 : w3.heap.size ≠ g := by omega
        have hb3a : w1.heap.size < w3.heap.size := by omega
        have hs0 : w.heap.size < w3.heap.size := by omega
        have hcl := length_cells ps
        have hne : ∀ q : Nat, (⟨bp, q, none⟩ : Addr) ≠ ⟨w1.heap.size, 0, none⟩ := fun q e => by have := congrArg Addr.block e; simp at this; omega
        have hne3 : ∀ q : Nat, (⟨bp, q, none⟩ : Addr) ≠ ⟨w.heap.size, 0, none⟩ := fun q e => by have := congrArg Addr.block e; simp at this; omega
        obtain ⟨v5, hv5⟩ : ∃ v, (ps.flatMap Pt.cells)[k * 5 + 4]? = some v := ⟨_, List.getElem?_eq_getElem (by have := HPL.out; omega)⟩
        have HV5 := Lib.hid hv5
        clear hv5 hcl
        have c5 := (World.cell?_alloc_lt w3 (.cells #[.int .i64 (-1), .int .i64 100, .int .i64 1] 3) ⟨w1.heap.size, 0, none⟩ hb3a).trans c4
        have k5 := (World.cell?_alloc_lt w3 (.cells #[.int .i64 (-1), .int .i64 100, .int .i64 1] 3) ⟨w.heap.size, 0, none⟩ hs0).trans k4
        have l5 := (World.frozen?_alloc_past (.cells #[.int .i64 (-1), .int .i64 100, .int .i64 1] 3) w.heap.size 0 hs0).trans l4
        go_wp2_with fail
        go_region_held3 (fun w' => w'.cell? ⟨w1.heap.size, 0, none⟩ = some (.slice (some ⟨bp, 0, none⟩) nf cf)) (first | exact c4 | exact c5 | exact c6 | exact (World.cell?_setCell_other _ _ _ _ (hne _)).trans c6)
          (first
            | (go_at_call 64; refine (one_any g A n c bs (P + 202) w3.heap.size 0 3 3 [(-1), 100, 1] _ ?_ HN.out hby hs ?_ rfl ?_ ?_ ?_ hg3 ?_).mono ?_; (first | exact HR4.out | exact HR4.out.drew); omega; omega; omega; (intro j hj; have hj3 : j = 0 ∨ j = 1 ∨ j = 2 := (by omega); rcases hj3 with rfl | rfl | rfl <;> go_simp); (simp); rintro e w4 ⟨z, rfl, _, hr4, ht4'⟩; have ht4 : Tch g (g + 1) (w3.alloc (.cells #[.int .i64 (-1), .int .i64 100, .int .i64 1] 3)) w4 := ⟨ht4'.os, ht4'.tape, ht4'.output, ht4'.size, ht4'.block⟩; have HR5 := Lib.hid hr4; have HF5 := Lib.hid (HF4.out.trans (Frd.of_tch ht4 (Nat.le_trans (Nat.le_of_lt hs0) (by simp)))); have HO5 := Lib.hid (own_keep HO4.out fun q hq hq' => ht4.block q hq' (.inr (by omega))); have u5 := (HO5.out.cellAt (k * 5 + 4) (by omega)).trans HV5.out; have f5 := HO5.out.frozenAt (k * 5 + 4); have c6 := (World.cell?_of_block (a := ⟨w1.heap.size, 0, none⟩) (ht4.block w1.heap.size (by simp; omega) (.inr (by omega)))).trans c5; have k6 := (World.cell?_of_block (a := ⟨w.heap.size, 0, none⟩) (ht4.block w.heap.size (by simp; omega) (.inr (by omega)))).trans k5; have l6 := (World.frozen?_of_block (a := ⟨w.heap.size, 0, none⟩) (ht4.block w.heap.size (by simp; omega) (.inr (by omega)))).trans l5))
        have c7 : (w4.setCell ⟨bp, k * 5 + 4, none⟩ (.int .i64 z)).cell? ⟨w1.heap.size, 0, none⟩ = some (.slice (some ⟨bp, 0, none⟩) nf cf) := (World.cell?_setCell_other _ _ _ _ (hne (k * 5 + 4))).trans c6
        have k7 : (w4.setCell ⟨bp, k * 5 + 4, none⟩ (.int .i64 z)).cell? ⟨w.heap.size, 0, none⟩ = some (.slice none 0 0) := (World.cell?_setCell_other _ _ _ _ (hne3 (k * 5 + 4))).trans k6
        have l7 : (w4.setCell ⟨bp, k * 5 + 4, none⟩ (.int .i64 z)).frozen? ⟨w.heap.size, 0, none⟩ = false := by rw [World.frozen?_setCell]; exact l6
        obtain ⟨qs, hq1, hq2⟩ := cells_some ps (k * 5 + 4) z (by have := HPL.out; omega)
        have hst := (HO5.out.stored (k * 5 + 4) (.int .i64 z)).1
        rw [← hq2] at hst
        have HST := Lib.hid hst
        have HQ := Lib.hid hq1
        clear hq1 hq2 hst u5 f5 c6 k6 l6
        have hsz4 := ht4.size
        have hw4 : w.heap.size < w4.heap.size := by simp at hsz4; omega
        go_wp2
        refine bodyPost_ret (v := .agg #[.slice (some ⟨bp, 0, none⟩) nf cf]) (by simp [results, Try.results52, go_sem, k7]) rfl ?_
        have hb1 : Below w.heap.size w4 (w4.setCell ⟨bp, k * 5 + 4, none⟩ (.int .i64 z)) := (Below.refl w.heap.size w4).setCell (by show w.heap.size ≤ bp; omega) _
        have hb2 : Below w.heap.size w4 ((w4.setCell ⟨bp, k * 5 + 4, none⟩ (.int .i64 z)).setCell ⟨w.heap.size, 0, none⟩ (.slice (some ⟨bp, 0, none⟩) nf cf)) := hb1.setCell (Nat.le_refl _) _
        refine ⟨_, _, _, qs, rfl, by rw [HQ.out]; exact HPL.out, hnf1, by omega, ?_, ?_, ?_⟩
        · exact own_mono (own_keep HST.out fun q hq hq' => Below.heap_setCell _ _ _ _ (by show q ≠ w.heap.size; omega)) (by omega)
        · exact (HR5.out.mono (by omega)).turn (Tch.of_below' hb2) hgw
        · exact (HF5.out.trans (Frd.of_below hb2 (Nat.le_refl _))).tch
      · by_cases hx3 : x = 3
        · subst hx3
          have hw3 : w.heap.size < w3.heap.size := by omega
          have hb3a : w1.heap.size < w3.heap.size := by omega
          go_wp2
          go_region_law
            (first
              | (go_simp; go_at_call 94; refine (spec_numberPart 1 _).mono ?_; rintro e w5 ⟨rfl, hb5'⟩; have hb5 : Below w3.heap.size w3 w5 := (by first | exact hb5' | exact below_of_drew hb5'); have HB5 := Lib.hid hb5; have HO5 := Lib.hid (own_below HO3.out hb5); have hs5 : w3.heap.size ≤ w5.heap.size := hb5.size; have c5 := (hb5.cell (p := ⟨w1.heap.size, 0, none⟩) hb3a).trans c4; have z5 := (hb5.frozen (p := ⟨w1.heap.size, 0, none⟩) hb3a).trans z4; have k5 := (hb5.cell (p := ⟨w.heap.size, 0, none⟩) hw3).trans k4; have l5 := (hb5.frozen (p := ⟨w.heap.size, 0, none⟩) hw3).trans l4; have c6 := (World.cell?_alloc_lt w5 (.cells #[.int .i64 0, .int .i64 (-1), .int .i64 (-1), .int .i64 (-1), .int .i64 1] 73) ⟨w1.heap.size, 0, none⟩ (Nat.lt_of_lt_of_le hb3a hs5)).trans c5; have k6 := (World.cell?_alloc_lt w5 (.cells #[.int .i64 0, .int .i64 (-1), .int .i64 (-1), .int .i64 (-1), .int .i64 1] 73) ⟨w.heap.size, 0, none⟩ (Nat.lt_of_lt_of_le hw3 hs5)).trans k5; have z6 := ((World.frozen?_alloc_past (w := w5) (.cells #[.int .i64 0, .int .i64 (-1), .int .i64 (-1), .int .i64 (-1), .int .i64 1] 73) w1.heap.size 0 (Nat.lt_of_lt_of_le hb3a hs5)).trans z5 : (w5.alloc (.cells #[.int .i64 0, .int .i64 (-1), .int .i64 (-1), .int .i64 (-1), .int .i64 1] 73)).frozen? ⟨w1.heap.size, 0, none⟩ = false); have l6 := ((World.frozen?_alloc_past (w := w5) (.cells #[.int .i64 0, .int .i64 (-1), .int .i64 (-1), .int .i64 (-1), .int .i64 1] 73) w.heap.size 0 (Nat.lt_of_lt_of_le hw3 hs5)).trans l5 : (w5.alloc (.cells #[.int .i64 0, .int .i64 (-1), .int .i64 (-1), .int .i64 (-1), .int .i64 1] 73)).frozen? ⟨w.heap.size, 0, none⟩ = false); clear hb5 hb5')
              | (refine step_append_lies _ (by rfl) _ _ _ (by rfl) (w.heap.size + 2) 73 i1 _ 5 40 Try.underlying23 hi1 hy0 hy1 hy2 rfl (by omega) (.slice (some ⟨bp, 0, none⟩) nf cf) nf _ (by rfl) (HO5.out.alloc _) ⟨w5.heap.size, 0, none⟩ 1 1 [.int .i64 0, .int .i64 (-1), .int .i64 (-1), .int .i64 (-1), .int .i64 1] (by rfl) (by rfl) (cells_new _ _ _ _ rfl) (by simp [Value.oneCell']) (by omega) (by unfold maxLen; omega) (by omega) (by simp; omega) (w5.heap.size + 1) (by simp) ?_; intro gg cap w6 hown' hgrow hat hlt6; have ht6 : Tch bp (bp + 1) (w5.alloc (.cells #[.int .i64 0, .int .i64 (-1), .int .i64 (-1), .int .i64 (-1), .int .i64 1] 73)) w6 := Tch.of_grown hgrow (fun q hq => by cases hq; exact ⟨Nat.le_refl _, Nat.lt_succ_self _⟩); have c7 := (World.cell?_of_block (a := ⟨w1.heap.size, 0, none⟩) (ht6.block w1.heap.size (by simp; omega) (.inr (by omega)))).trans c6; have k7 := (World.cell?_of_block (a := ⟨w.heap.size, 0, none⟩) (ht6.block w.heap.size (by simp; omega) (.inl (by omega)))).trans k6; have z7 := (World.frozen?_of_block (a := ⟨w1.heap.size, 0, none⟩) (ht6.block w1.heap.size (by simp; omega) (.inr (by omega)))).trans z6; have l7 := (World.frozen?_of_block (a := ⟨w.heap.size, 0, none⟩) (ht6.block w.heap.size (by simp; omega) (.inl (by omega)))).trans l6))
          all_goals
            have hg1 : gg ≠ w1.heap.size := by
              rcases hat with h | h
              · have hh : bp = gg := Option.some.inj h
                omega
              · omega
            have hg2 : gg ≠ w.heap.size := by
              rcases hat with h | h
              · have hh : bp = gg := Option.some.inj h
                omega
              · omega
            have c8 : (w6.setCell ⟨w1.heap.size, 0, none⟩ (.slice (some ⟨gg, 0, none⟩) (nf + 1) cap)).cell? ⟨w1.heap.size, 0, none⟩ = some (.slice (some ⟨gg, 0, none⟩) (nf + 1) cap) := World.cell?_setCell_same _ _ _ c7
            have k8 : (w6.setCell ⟨w1.heap.size, 0, none⟩ (.slice (some ⟨gg, 0, none⟩) (nf + 1) cap)).cell? ⟨w.heap.size, 0, none⟩ = some (.slice none 0 0) := (World.cell?_setCell_other _ _ _ _ (fun e => by have := congrArg Addr.block e; simp at this; omega)).trans k7
            have l8 : (w6.setCell ⟨w1.heap.size, 0, none⟩ (.slice (some ⟨gg, 0, none⟩) (nf + 1) cap)).frozen? ⟨w.heap.size, 0, none⟩ = false := (World.frozen?_setCell _ _ _ _).trans l7
            have HOW := Lib.hid (own_set (own_set hown' ⟨w1.heap.size, 0, none⟩ (by show w1.heap.size ≠ gg; omega) (.slice (some ⟨gg, 0, none⟩) (nf + 1) cap)) ⟨w.heap.size, 0, none⟩ (by show w.heap.size ≠ gg; omega) (.slice (some ⟨gg, 0, none⟩) (nf + 1) cap))
            have hb6 : Below w.heap.size (w5.alloc (.cells #[.int .i64 0, .int .i64 (-1), .int .i64 (-1), .int .i64 (-1), .int .i64 1] 73)) w6 := (Below.refl _ _).grown hgrow (by simp; omega) (fun q hq => by have hh : bp = q := Option.some.inj hq; omega)
            have hb7 : Below w.heap.size w3 w6 := ((HB5.out.mono (Nat.le_of_lt hw3)).alloc (by omega) (.cells #[.int .i64 0, .int .i64 (-1), .int .i64 (-1), .int .i64 (-1), .int .i64 1] 73)).trans hb6
            have hb8 : Below w.heap.size w3 ((w6.setCell ⟨w1.heap.size, 0, none⟩ (.slice (some ⟨gg, 0, none⟩) (nf + 1) cap)).setCell ⟨w.heap.size, 0, none⟩ (.slice (some ⟨gg, 0, none⟩) (nf + 1) cap)) := (hb7.setCell (by show w.heap.size ≤ w1.heap.size; omega) _).setCell (Nat.le_refl _) _
            have HB8 := Lib.hid hb8
            clear hb6 hb7 hb8 hown' hgrow hat ht6 c7 k7 l7 z7 c6 k6 l6 z6 c5 k5 l5 z5
            go_wp2
            refine bodyPost_ret (v := .agg #[.slice (some ⟨gg, 0, none⟩) (nf + 1) cap]) (by simp [results, Try.results52, go_sem, k8]) rfl ?_
            refine ⟨_, _, _, ps ++ [⟨0, -1, -1, -1, 1⟩], rfl, by rw [List.length_append, ← HPL.out]; rfl, by omega, by omega, ?_, ?_, ?_⟩
            · rw [List.flatMap_append]; exact own_mono HOW.out (by omega)
            · exact (HR3.out.mono (by omega)).turn (Tch.of_below' HB8.out) hgw
            · exact (HF3.out.trans (Frd.of_below HB8.out (Nat.le_refl _))).tch
        · have hw3 : w.heap.size < w3.heap.size := by omega
          go_wp2
          refine bodyPost_ret (v := .agg #[.slice (some ⟨bp, 0, none⟩) nf cf]) (by simp [results, Try.results52, go_sem, k4]) rfl ?_
          have hb2 : Below w.heap.size w3 (w3.setCell ⟨w.heap.size, 0, none⟩ (.slice (some ⟨bp, 0, none⟩) nf cf)) := (Below.refl w.heap.size w3).setCell (Nat.le_refl _) _
          refine ⟨_, _, _, ps, rfl, HPL.out, hnf1, by omega, ?_, ?_, ?_⟩
          · exact own_mono (own_keep HO3.out fun q hq hq' => Below.heap_setCell _ _ _ _ (by show q ≠ w.heap.size; omega)) (by omega)
          · exact (HR3.out.mono (by omega)).turn (Tch.of_below' hb2) hgw
          · exact (HF3.out.trans (Frd.of_below hb2 (Nat.le_refl _))).tch
end Go.Proofs.Ytgbijmfmdcphhaa

/- The drawing of graphs: goodGraph, the walk. -/
namespace Go.Proofs.Ytgbijmfmdcphhaa
set_option linter.unusedSimpArgs false
set_option linter.unusedVariables false
open Go.RowKit

set_option maxRecDepth 100000 in
set_option maxHeartbeats 40000000 in
theorem goodGraph_any (g : Nat) (A : Option Addr) (n c : Nat) (bs : List Int) (P : Nat) (w : World) (h : Rdr g A n c bs P w) (hn : n = bs.length) (hby : BY bs) (hs : n ≤ 2000) (hP : P ≤ 800000) :
    Calls Try.prog 103 #[.pointer (some ⟨g, 0, none⟩)] w fun e w' => GgP g A n c bs (P + 2200) w e w' := by
  obtain ⟨i1, hi1, hy0, hy1, hy2⟩ := info_parts info_node
  obtain ⟨i0, hi0, hz0, hz1, hz2⟩ := info_parts info_int
  have hgw := h.lt
  have HN := Lib.hid hn
  have HR0 := Lib.hid ((((h.alloc (.cells #[.slice none 0 0] 41)).alloc (.cells #[.slice none 0 0] 41)).alloc (.cells #[] 3)).alloc (.cells #[.int .i64 6, .int .i64 5, .int .i64 7, .int .i64 8, .int .i64 4, .int .i64 10, .int .i64 2] 3))
  have hrow0 := World.ownsRow_lit (e := 3) (size := 1) (base := w.heap.size + 2) ((w.alloc (.cells #[.slice none 0 0] 41)).alloc (.cells #[.slice none 0 0] 41)) #[] 0 (by simp) (by unfold maxLen; omega) (by simp)
  have HROW := Lib.hid (OwR.start (hrow0.alloc (.cells #[.int .i64 6, .int .i64 5, .int .i64 7, .int .i64 8, .int .i64 4, .int .i64 10, .int .i64 2] 3)))
  have hBW : Below w.heap.size w ((((w.alloc (.cells #[.slice none 0 0] 41)).alloc (.cells #[.slice none 0 0] 41)).alloc (.cells #[] 3)).alloc (.cells #[.int .i64 6, .int .i64 5, .int .i64 7, .int .i64 8, .int .i64 4, .int .i64 10, .int .i64 2] 3)) := ((((Below.refl _ _).alloc (Nat.le_refl _) _).alloc (by simp) _).alloc (by simp; omega) _).alloc (by simp; omega) _
  have HG0 : Hid (GQ g w.heap.size (w.heap.size + 4) A n c bs w P (.slice none 0 0) 0 [] (.slice (some ⟨w.heap.size + 1 + 1, 0, none⟩) 0 0) 0 [] ((((w.alloc (.cells #[.slice none 0 0] 41)).alloc (.cells #[.slice none 0 0] 41)).alloc (.cells #[] 3)).alloc (.cells #[.int .i64 6, .int .i64 5, .int .i64 7, .int .i64 8, .int .i64 4, .int .i64 10, .int .i64 2] 3))) :=
    ⟨hgw, Frd.of_below hBW (Nat.le_refl _), HR0.out, by omega, by simp, by go_simp, by go_simp, by go_simp, by go_simp, ⟨rfl, [], OwR.nil _ _ _ _ _, fun j hj => absurd hj (Nat.not_lt_zero _)⟩, fun j => by simp [List.getD]; exact Nat.zero_le _, rfl, by simpa using HROW.out⟩
  clear h hn hrow0 hBW HROW
  go_enter Try.func103, Try.ntmps103
  go_wp2_with fail
  refine (one_any g A n c bs P (w.heap.size + 3) 0 7 7 [6, 5, 7, 8, 4, 10, 2] _ HR0.out HN.out hby hs (by omega) rfl (by omega) (by omega) ?_ (by omega) (by simp)).mono ?_
  · intro j hj
    have : j = 0 ∨ j = 1 ∨ j = 2 ∨ j = 3 ∨ j = 4 ∨ j = 5 ∨ j = 6 := by omega
    rcases this with rfl | rfl | rfl | rfl | rfl | rfl | rfl <;> go_simp
  rintro e w1 ⟨x, rfl, hxm, hr1, ht1⟩
  obtain ⟨N, rfl, hN2, hN10⟩ : ∃ N : Nat, x = (N : Int) ∧ 2 ≤ N ∧ N ≤ 10 := by
    simp only [List.mem_cons, List.not_mem_nil, or_false] at hxm
    exact ⟨x.toNat, by omega, by omega, by omega⟩
  have HG1 := Lib.hid (HG0.out.pick hr1 ht1)
  clear hxm hr1 ht1 HG0 HR0
  go_wp2
  go_loopw [4, 6] (fun v u wr => ∃ (k fl : Nat) (gs : List Nd) (fr : List Int) (Vg : Value), k ≤ N ∧ u = .int .i64 k ∧ fl ≤ k ∧ Hid (GQ g w.heap.size wr.heap.size A n c bs w (P + 1 + 210 * k) Vg k gs v fl fr wr)) (fun _ u _ => N - (intOf u).toNat)
  case atStart => exact ⟨0, 0, [], [], _, Nat.zero_le _, rfl, Nat.le_refl _, HG1.out.raise HG1.out.lt (Nat.le_refl _)⟩
  case round =>
    obtain ⟨k, fl, gs, fr, Vg, hk, rfl, hfl, HG⟩ := hrel
    obtain ⟨Af, cf, rfl⟩ := row_form' HG.out.fx.1
    by_cases hlt : k < N
    · have hPm : P + 1 + 210 * k ≤ 802000 := by omega
      obtain ⟨P1, hP1⟩ : ∃ P1, P1 = P + 1 + 210 * k := ⟨_, rfl⟩
      have HP1 := Lib.hid hP1
      rw [← hP1] at HG hPm
      obtain ⟨b8, hb8⟩ : ∃ b8, b8 = wr.heap.size := ⟨_, rfl⟩
      have HB8 := Lib.hid hb8
      have HNB : Hid (NB b8 0 (.slice none 0 0) (wr.alloc (.cells #[.int .i64 0, .slice none 0 0] 49))) := by
        rw [hb8]; exact ⟨by simp, by go_simp, by go_simp, fun j => by go_simp⟩
      rw [← hb8] at HG
      have HG2 := Lib.hid (HG.out.alloc (.cells #[.int .i64 0, .slice none 0 0] 49))
      have hs2 := HG.out.s2
      clear hP1 hb8 HG HG1
      go_upto_region 8 with fail
      rw [← HB8.out]
      generalize wr.alloc (.cells #[.int .i64 0, .slice none 0 0] 49) = W2 at *
      go_cut [26] from 14 to 64 (fun t wx => ∃ b : Bool, t = .bool b ∧ Hid (NB b8 0 (.slice none 0 0) wx) ∧ Hid (GQ g w.heap.size b8 A n c bs w (P1 + 1) Vg k gs (.slice Af fl cf) fl fr wx))
      case first =>
        by_cases hk1 : 1 < k
        · go_wp2_with fail
          go_meet
          exact ⟨true, rfl, HNB.out, HG2.out.mono (by omega)⟩
        · go_wp2_with fail
          refine (pick_any g A n c bs P1 8 W2 HG2.out.rd HN.out hby hs (by omega) (by omega)).mono ?_
          rintro e w3 ⟨x3, rfl, _, _, hr3, ht3⟩
          have HG3 := Lib.hid (HG2.out.pick hr3 ht3)
          have HN3 := Lib.hid (HNB.out.pick ht3 (by omega))
          clear hr3 ht3
          go_wp2_with fail
          go_meet
          exact ⟨_, rfl, HN3.out, HG3.out⟩
      case rest =>
        obtain ⟨b, rfl, HN3, HG3⟩ := hcut
        clear HNB HG2
        go_upto_if 26 with fail
        go_cut [] from 14 to 64 (fun wx => ∃ q : Int, Hid (NB b8 q (.slice none 0 0) wx) ∧ Hid (GQ g w.heap.size b8 A n c bs w (P1 + 2) Vg k gs (.slice Af fl cf) fl fr wx))
        case first =>
          cases b
          · go_wp2_with fail
            go_meet
            exact ⟨0, HN3.out, HG3.out.mono (by omega)⟩
          · have HG4 := Lib.hid (HG3.out.alloc (.cells #[.int .i64 1, .int .i64 1, .int .i64 2, .int .i64 0, .int .i64 1] 3))
            have HN4 := Lib.hid (HN3.out.alloc (.cells #[.int .i64 1, .int .i64 1, .int .i64 2, .int .i64 0, .int .i64 1] 3))
            go_wp2_with fail
            refine (one_any g A n c bs (P1 + 1) wc.heap.size 0 5 5 [1, 1, 2, 0, 1] _ HG4.out.rd HN.out hby hs (by omega) rfl (by omega) (by omega) ?_ (by have := HG3.out.rd.lt; omega) (by simp)).mono ?_
            · intro j hj
              have : j = 0 ∨ j = 1 ∨ j = 2 ∨ j = 3 ∨ j = 4 := by omega
              rcases this with rfl | rfl | rfl | rfl | rfl <;> go_simp
            rintro e w5 ⟨y, rfl, _, hr5, ht5⟩
            have HG5 := Lib.hid (HG4.out.pick hr5 ht5)
            have HN5 := Lib.hid (HN4.out.pick ht5 (by omega))
            have p0 := HN5.out.c0
            have f0 := HN5.out.fz 0
            clear hr5 ht5 HG4 HN4
            go_wp2_with fail
            go_meet
            exact ⟨y, HN5.out.set0 y, HG5.out.poke (Nat.le_refl _) 0 _⟩
        case rest =>
          obtain ⟨q, HN6, HG6⟩ := hcut
          clear HN3 HG3
          have c0 := HN6.out.c0
          go_upto_if 33 with fail
          go_cut [8] from 14 to 64 (fun x wx => ∃ (An : Option Addr) (nn cn : Nat) (ps : List Pt), nn = ps.length ∧ nn ≤ 40 ∧ Hid (NB b8 q (.slice An nn cn) wx) ∧ Hid (OwR (b8 + 1) wx.heap.size 73 5 (.slice An nn cn) nn (ps.flatMap Pt.cells) wx) ∧ Hid (GQ g w.heap.size b8 A n c bs w (P1 + 203) Vg k gs (.slice Af fl cf) fl fr wx))
          case first =>
            cases hq : (q != 0)
            · go_wp2_with fail
              go_meet
              exact ⟨none, 0, 0, [], rfl, by omega, HN6.out, OwR.nil _ _ _ _ _, HG6.out.mono (by omega)⟩
            · by_cases h3 : 3 < fl
              · have h3' : (3 : Int) < (fl : Int) := by omega
                go_wp2_with fail
                refine (pick_any g A n c bs (P1 + 2) 2 _ HG6.out.rd HN.out hby hs (by omega) (by omega)).mono ?_
                rintro e w5 ⟨x5, rfl, _, _, hr5, ht5⟩
                have HG7 := Lib.hid (HG6.out.pick hr5 ht5)
                have HN7 := Lib.hid (HN6.out.pick ht5 (by omega))
                clear hr5 ht5
                cases hx5 : ((x5 : Int) == 0)
                · have z7 := HN7.out.lt
                  go_wp2_with fail
                  refine (goodFormula_any g A n c bs (P1 + 3) Af fl cf fr _ HG7.out.rd HN.out hby hs (by omega) HG7.out.fn (by omega) (HG7.out.fx.ints.more HG7.out.lt) (row_far HG7.out.fx.1 (by omega))).mono ?_
                  rintro e w9 ⟨An, nn, cn, ps, rfl, hpl, hn1, hn40, hrow9, hr9, ht9⟩
                  have HN9 := Lib.hid (HN7.out.pick ht9 (by omega))
                  have HG9 := Lib.hid ((HG7.out.pick hr9 ht9).mono (show _ ≤ P1 + 203 by omega))
                  have z9 := HN9.out.lt
                  have p0 := HN9.out.c0
                  have p1 := HN9.out.c1
                  have f1 := HN9.out.fz 1
                  have HRW := Lib.hid hrow9
                  have HPL := Lib.hid hpl
                  have hz9 : w5.heap.size ≤ w9.heap.size := ht9.size
                  clear hr9 ht9 hrow9 hpl
                  go_wp2_with fail
                  go_meet
                  refine ⟨An, nn, cn, ps, HPL.out, hn40, HN9.out.set1 _, ?_, HG9.out.poke (Nat.le_refl _) 1 _⟩
                  exact (OwR.keep (hi := w9.heap.size) ((OwR.start HRW.out).mono (by omega) (Nat.le_refl _)) fun b x y => Below.heap_setCell _ _ _ _ (by show b ≠ b8; omega)).mono (Nat.le_refl _) (by simp [World.setCell])

                · obtain ⟨j, rfl⟩ : ∃ j, fl = j + 3 := ⟨fl - 3, by omega⟩
                  obtain ⟨go, co, hv⟩ := row_pos HG7.out.fx.1 (by omega)
                  cases hv
                  have z7 := HN7.out.lt
                  have hcj : j + 3 ≤ cf := by
                    rcases HG7.out.fx.1.2 with ⟨h', _⟩ | ⟨g', cap', cur, h', _, _, hnc, _⟩
                    · simp at h'
                    · simp at h'
                      omega
                  have hcj1 : ¬ cf = j := by omega
                  have HCJ := Lib.hid hcj
                  have hcj2 : ¬ cf - j = 0 := by omega
                  have hcj3 : ¬ (cf : Int) = (j : Int) := by omega
                  go_wp2_with fail
                  refine (goodFormula_any g A n c bs (P1 + 3) (some ⟨go, j, none⟩) 3 (cf - j) (fr.drop j) _ HG7.out.rd HN.out hby hs (by omega) (by have := HG7.out.fn; simp; omega) (by omega) ((HG7.out.fx.ints.drop0 j).more HG7.out.lt) (fun b' o' e => by cases e; exact row_far HG7.out.fx.1 (by omega) go 0 rfl)).mono ?_
                  rintro e w9 ⟨An, nn, cn, ps, rfl, hpl, hn1, hn40, hrow9, hr9, ht9⟩
                  have HN9 := Lib.hid (HN7.out.pick ht9 (by omega))
                  have HG9 := Lib.hid ((HG7.out.pick hr9 ht9).mono (show _ ≤ P1 + 203 by omega))
                  have z9 := HN9.out.lt
                  have p0 := HN9.out.c0
                  have p1 := HN9.out.c1
                  have f1 := HN9.out.fz 1
                  have HRW := Lib.hid hrow9
                  have HPL := Lib.hid hpl
                  have hz9 : w5.heap.size ≤ w9.heap.size := ht9.size
                  clear hr9 ht9 hrow9 hpl
                  go_wp2_with fail
                  go_meet
                  refine ⟨An, nn, cn, ps, HPL.out, hn40, HN9.out.set1 _, ?_, HG9.out.poke (Nat.le_refl _) 1 _⟩
                  exact (OwR.keep (hi := w9.heap.size) ((OwR.start HRW.out).mono (by omega) (Nat.le_refl _)) fun b x y => Below.heap_setCell _ _ _ _ (by show b ≠ b8; omega)).mono (Nat.le_refl _) (by simp [World.setCell])
              · have h3' : ¬ (3 : Int) < (fl : Int) := by omega
                have z6 := HN6.out.lt
                go_wp2_with fail
                refine (goodFormula_any g A n c bs (P1 + 2) Af fl cf fr _ HG6.out.rd HN.out hby hs (by omega) HG6.out.fn (by omega) (HG6.out.fx.ints.more HG6.out.lt) (row_far HG6.out.fx.1 (by omega))).mono ?_
                rintro e w9 ⟨An, nn, cn, ps, rfl, hpl, hn1, hn40, hrow9, hr9, ht9⟩
                have HN9 := Lib.hid (HN6.out.pick ht9 (by omega))
                have HG9 := Lib.hid ((HG6.out.pick hr9 ht9).mono (show _ ≤ P1 + 203 by omega))
                have z9 := HN9.out.lt
                have p0 := HN9.out.c0
                have p1 := HN9.out.c1
                have f1 := HN9.out.fz 1
                have HRW := Lib.hid hrow9
                have HPL := Lib.hid hpl
                have hz9 : wc.heap.size ≤ w9.heap.size := ht9.size
                clear hr9 ht9 hrow9 hpl
                go_wp2_with fail
                go_meet
                refine ⟨An, nn, cn, ps, HPL.out, hn40, HN9.out.set1 _, ?_, HG9.out.poke (Nat.le_refl _) 1 _⟩
                exact (OwR.keep (hi := w9.heap.size) ((OwR.start HRW.out).mono (by omega) (Nat.le_refl _)) fun b x y => Below.heap_setCell _ _ _ _ (by show b ≠ b8; omega)).mono (Nat.le_refl _) (by simp [World.setCell])

          case rest =>
            obtain ⟨An, nn, cn, ps, hnn, h40, HN7, HR7, HG7⟩ := hcut
            clear HN6 HG6 c0
            obtain ⟨Ag, cg, rfl⟩ := HG7.out.nd.form
            have g0 := HG7.out.gb
            have c0 := HN7.out.c0
            have c1 := HN7.out.c1
            have z7 := HN7.out.lt
            have HG8 := Lib.hid (HG7.out.alloc (.cells #[.int .i64 q, .slice An nn cn] 49))
            have HN8 := Lib.hid (HN7.out.alloc (.cells #[.int .i64 q, .slice An nn cn] 49))
            have HR8 := Lib.hid (HR7.out.step (below_new _ (.cells #[.int .i64 q, .slice An nn cn] 49)))
            obtain ⟨hk0, xs, hrow, hns⟩ := HG8.out.nd
            have HK0 := Lib.hid hk0
            have HROW := Lib.hid hrow
            have HNS := Lib.hid hns
            have HNN := Lib.hid hnn
            clear HG7 HN7 HR7 hk0 hrow hns hnn
            go_wp2_with (at_builtin; refine wpList_append_own _ rfl _ _ 39 rfl (w.heap.size + 2) 49 i1 _ 2 32 Try.underlying39 hi1 hy0 hy1 hy2 rfl (by decide) _ _ _ rfl HROW.out.1 ⟨_, 0, none⟩ 1 1 [.int .i64 q, .slice An nn cn] rfl rfl (cells_new _ _ _ _ rfl) ?c2 ?c3 ?c4 ?c5 ?_)
            case c2 => intro u hu; simp at hu; rcases hu with rfl | rfl <;> rfl
            case c3 => unfold maxLen; omega
            case c4 => omega
            case c5 => simp; omega
            intro v' w8 hown' hgrow _
            have hz8 : wc.heap.size + 1 ≤ w8.heap.size := by have := hgrow.size; simpa using this
            have HSN : Hid (OwG (w.heap.size + 2) w8.heap.size v' (k + 1) (gs ++ [⟨q, ps⟩]) w8) :=
              OwG.snoc (d := ⟨q, ps⟩) HK0.out HROW.out HNS.out rfl HNN.out ((HR8.out.mono (show w.heap.size + 2 ≤ b8 + 1 by omega) (by simp))) (by simp; omega) hgrow hown'
            obtain ⟨A', c', rfl⟩ := own_form hown'
            obtain ⟨_, _, _, _, g8, gz8⟩ := HG8.out.frame hgrow fun q hq => (HROW.out.1.lt q hq).1
            have HN9 := Lib.hid (HN8.out.keep (w' := w8) (hgrow.block b8 HN8.out.lt fun e => by have := HROW.out.2 b8 e.symm; omega) hgrow.size)
            have HN10 : Hid (NB b8 q (.slice An nn cn) (w8.setCell ⟨w.heap.size + 1, 0, none⟩ (.slice A' (k + 1) c'))) := HN9.out.keep (Below.heap_setCell _ _ _ _ (by show b8 ≠ w.heap.size + 1; omega)) (by simp [World.setCell])
            have HG9 := Lib.hid (HG8.out.noded hgrow HSN.out (small_snoc HG8.out.sm (by show ps.length ≤ 40; have := HNN.out; omega)))
            have z8 : w.heap.size + 1 < w8.heap.size := by omega
            have p0 := HN10.out.c0
            clear hown' hgrow HG8 HN8 HR8 HROW HNS HSN HN9
            cases hq2 : (q != 2)
            · go_wp2
              go_roundw
              case rel => exact ⟨k + 1, fl, _, fr, _, by omega, by go_num, by omega, HG9.out.mono (by have := HP1.out; omega)⟩
              case measure => simp [intOf]; omega
            · have HG10 := Lib.hid (HG9.out.alloc (.cells #[.int .i64 k] 3))
              have hsz8 : (w8.setCell ⟨w.heap.size + 1, 0, none⟩ (.slice A' (k + 1) c')).heap.size = w8.heap.size := by simp [World.setCell]
              have hnw := cell_one_new (w8.setCell ⟨w.heap.size + 1, 0, none⟩ (.slice A' (k + 1) c')) (.int .i64 k) 3
              rw [hsz8] at hnw
              have HNW := Lib.hid hnw
              clear hnw hsz8
              go_wp2_with (at_builtin; refine wpList_append_own _ rfl _ _ 30 rfl (w.heap.size + 2) 3 i0 (.int .i64 0) 1 8 Try.underlying30 hi0 hz0 hz1 hz2 rfl (by decide) _ _ _ rfl HG10.out.fx.1 ⟨_, 0, none⟩ 1 1 [.int .i64 k] rfl rfl HNW.out ?d2 ?d3 ?d4 ?d5 ?_)
              case d2 => first | rfl | (intro u hu; simp at hu; subst hu; rfl)
              case d3 => unfold maxLen; omega
              case d4 => omega
              case d5 => simp; omega
              intro v9 w9 hown9 hgrow9 _
              have HG11 := Lib.hid (HG10.out.freed (fr' := fr ++ [(k : Int)]) hgrow9 (by simpa using hown9) (by rw [List.length_append, ← HG10.out.fn]; rfl))
              clear hown9 hgrow9 HG9 HG10
              go_wp2
              go_roundw
              case rel => exact ⟨k + 1, fl + 1, _, _, _, by omega, by go_num, by omega, HG11.out.mono (by have := HP1.out; omega)⟩
              case measure => simp [intOf]; omega
    · obtain rfl : k = N := by omega
      obtain ⟨Ag, cg, rfl⟩ := HG.out.nd.form
      have g0 := HG.out.gb
      have r0 := HG.out.rb
      have r1 := HG.out.rz
      have z1 : w.heap.size + 1 < wr.heap.size := by have := HG.out.s2; have := HG.out.lt; omega
      have z0 : w.heap.size < wr.heap.size := by omega
      have hsz : (wr.setCell ⟨w.heap.size, 0, none⟩ (.slice Ag k cg)).heap.size = wr.heap.size := by simp [World.setCell]
      have HSZ := Lib.hid hsz
      clear hsz HG1
      go_wp2
      refine bodyPost_ret (v := .agg #[.slice Ag k cg]) (by simp [results, Try.results103, go_sem, r0]) rfl ?_
      refine ⟨_, k, gs, rfl, by omega, by omega, HG.out.sm, ?_, (HG.out.rd.mono (by omega)).set1 hgw 0 _, (HG.out.frd.trans (Frd.of_below ((Below.refl w.heap.size _).setCell (p := ⟨w.heap.size, 0, none⟩) (Nat.le_refl _) _) (Nat.le_refl _))).tch⟩
      rw [HSZ.out]
      exact (OwG.loc _ _ _ _ _ _ _ HG.out.nd fun b x y => Below.heap_setCell _ _ _ _ (by show b ≠ w.heap.size; omega)).mono (by omega) (Nat.le_refl _)
end Go.Proofs.Ytgbijmfmdcphhaa

/- Contracts of the laws' own sizes and comparisons of graphs. -/
namespace Go.Proofs.Ytgbijmfmdcphhaa
set_option linter.unusedSimpArgs false
set_option linter.unusedVariables false
open Go.RowKit

/-- What is left of a size. -/
def leftOf (l : Int) (s : Nat) : Int := if (s : Int) ≤ l then l - s else -1

def eqNd (d e : Nd) : Bool := decide (d = e)
theorem eqNd_iff (d e : Nd) : eqNd d e = true ↔ d = e := by simp [eqNd]

end Go.Proofs.Ytgbijmfmdcphhaa

/- Words for the walks of laws, one for each kind of argument and answer. -/
namespace Go.Proofs.Ytgbijmfmdcphhaa
set_option linter.unusedSimpArgs false
set_option linter.unusedVariables false
open Go.RowKit

/-- Of what was there when the law began nothing has turned. -/
def Bl (W wk : World) : Prop := Below W.heap.size W wk
theorem Bl.step {W wk wl : World} (h : Bl W wk) (hb : Below wk.heap.size wk wl) : Bl W wl := Below.trans h (hb.mono (Below.size h))
theorem Bl.alloc {W wk : World} (h : Bl W wk) (o : Obj) : Bl W (wk.alloc o) := h.step ((Below.refl _ _).alloc (Nat.le_refl _) o)
theorem Bl.turn {a b : Nat} {W wk wl : World} (h : Bl W wk) (ht : Tch a b wk wl) (ha : W.heap.size ≤ a) : Bl W wl := Below.trans h (ht.below ha (Below.size h))
theorem Bl.refl (W : World) : Bl W W := Below.refl _ _
theorem Bl.le {W wk : World} (h : Bl W wk) : W.heap.size ≤ wk.heap.size := Below.size h

theorem OwG.ncap {lo hi n c : Nat} {A : Option Addr} {gs : List Nd} {w : World} (h : OwG lo hi (.slice A n c) n gs w) : n ≤ c := by
  obtain ⟨_, xs, h1, _⟩ := h
  rcases h1.1.2 with ⟨hv, hz⟩ | ⟨g, cap, cur, hv, _, _, h2, _⟩
  · omega
  · simp only [Value.slice.injEq] at hv
    obtain ⟨_, _, rfl⟩ := hv
    exact h2

/-- A graph of the call's own, in blocks lo to hi - 1. -/
theorem graph_start {lo n c : Nat} {A : Option Addr} {gs : List Nd} {w : World} (h : OwG lo w.heap.size (.slice A n c) n gs w) : As lo w.heap.size (OwG lo w.heap.size (.slice A n c) n gs) w := ⟨h, Nat.le_refl _, OwG.loc _ _ _ _ _⟩
theorem As.graph {lo hi n c : Nat} {A : Option Addr} {gs : List Nd} {w : World} (h : As lo hi (OwG lo hi (.slice A n c) n gs) w) : GS w w.heap.size A gs := h.it.nodes.more h.le

/-- A row of numbers of the call's own, in blocks lo to hi - 1. -/
theorem row_start {lo size n : Nat} {e : TypeId} {v : Value} {xs : List Value} {w : World} (h : w.ownsRow lo e size v n xs) : As lo w.heap.size (OwR lo w.heap.size e size v n xs) w := ⟨OwR.start h, Nat.le_refl _, OwR.loc _ _ _ _ _ _ _⟩
theorem As.ints {lo hi n c : Nat} {A : Option Addr} {xs : List Int} {w : World} (h : As lo hi (OwR lo hi 3 1 (.slice A n c) n (xs.map (Value.int .i64))) w) : IS w w.heap.size A xs := h.it.ints.more h.le
theorem As.parts {lo hi n c : Nat} {A : Option Addr} {ps : List Pt} {w : World} (h : As lo hi (OwR lo hi 73 5 (.slice A n c) n (ps.flatMap Pt.cells)) w) : PS w w.heap.size A ps := h.it.parts.more h.le

/-- What a mark of an answer leaves. -/
def MkS (lo hi : Nat) (P : World → Prop) (w : World) (k' : Int) (e : Ending) (w' : World) : Prop := e = .returned (.int .i64 k') ∧ As lo hi P w' ∧ Tch lo hi w w'

theorem leftOf_no {l : Int} {s : Nat} (h : ¬ (s : Int) ≤ l) : leftOf l s = -1 := by unfold leftOf; rw [if_neg h]
theorem leftOf_ok {l : Int} {s : Nat} (h : (s : Int) ≤ l) : leftOf l s = l - s := by unfold leftOf; rw [if_pos h]
theorem gb_of {gs : List Nd} (h : ((gsz gs : Nat) : Int) ≤ 1048576) : GB gs := GB.of_gsz (by omega)
end Go.Proofs.Ytgbijmfmdcphhaa

/- The drawing of graphs: someGraph. -/
namespace Go.Proofs.Ytgbijmfmdcphhaa
set_option linter.unusedSimpArgs false
set_option linter.unusedVariables false
open Go.RowKit

/-- One node is another one. -/
theorem OwG.change {lo hi hi' k j : Nat} {v : Value} {gs : List Nd} {w w' : World} {d : Nd} {x y : Value} {xs xs' : List Value} (h0 : k = gs.length) (hx : OwR lo hi 49 2 v k xs w)
    (hn : ∀ i, i < k → ∃ x y, xs[i * 2]? = some x ∧ xs[i * 2 + 1]? = some y ∧ NdO lo hi (gs.getD i default) x y w) (hg : w.grownBy w' v.ownBlock) (hv : w'.ownsRow lo 49 2 v k xs') (hj : j < k)
    (hx' : xs'[j * 2]? = some x) (hy' : xs'[j * 2 + 1]? = some y) (ho : ∀ i, i ≠ j → xs'[i * 2]? = xs[i * 2]? ∧ xs'[i * 2 + 1]? = xs[i * 2 + 1]?) (hd : NdO lo hi' d x y w') (hle : hi ≤ hi') : OwG lo hi' v k (gs.set j d) w' := by
  refine ⟨by simp [h0], xs', ⟨hv, fun q hq => by have := hx.2 q hq; omega⟩, fun i hi => ?_⟩
  by_cases e : i = j
  · subst e
    have eg : (gs.set i d).getD i default = d := by simp [List.getD, List.getElem?_set, show i < gs.length by omega]
    rw [eg]
    exact ⟨x, y, hx', hy', hd⟩
  · have eg : (gs.set j d).getD i default = gs.getD i default := by simp [List.getD, List.getElem?_set, show ¬ j = i by omega]
    obtain ⟨x1, y1, e1, e2, e3, A', n', c', e4, e5, e6⟩ := hn i hi
    obtain ⟨o1, o2⟩ := ho i e
    rw [eg]
    exact ⟨x1, y1, by rw [o1]; exact e1, by rw [o2]; exact e2, e3, A', n', c', e4, e5, e6.1.kept hg (blocks_ne e6.1 hx.1 node_ne_part.symm), fun q hq => by have := e6.2 q hq; omega⟩

theorem OwG.setKind {lo hi k j gn cg : Nat} {gs : List Nd} {w : World} (h : OwG lo hi (.slice (some ⟨gn, 0, none⟩) k cg) k gs w) (hj : j < k) (z : Int) :
    OwG lo hi (.slice (some ⟨gn, 0, none⟩) k cg) k (gs.set j ⟨z, (gs.getD j default).ps⟩) (w.setCell ⟨gn, j * 2, none⟩ (.int .i64 z)) := by
  obtain ⟨h0, xs, hx, hn⟩ := h
  have hxl : xs.length = k * 2 := hx.1.1
  have hst := hx.1.stored (j * 2) (.int .i64 z)
  obtain ⟨x1, y1, e1, e2, e3, A', n', c', e4, e5, e6⟩ := hn j hj
  refine OwG.change h0 hx hn hst.2 hst.1 hj (x := .int .i64 z) (y := y1) ?_ ?_ (fun i hi => ⟨?_, ?_⟩) ?_ (Nat.le_refl _)
  · rw [List.getElem?_set, if_pos rfl, if_pos (by omega)]
  · rw [List.getElem?_set, if_neg (by omega)]; exact e2
  · rw [List.getElem?_set, if_neg (by omega)]
  · rw [List.getElem?_set, if_neg (by omega)]
  · exact ⟨rfl, A', n', c', e4, e5, e6.1.kept hst.2 (blocks_ne e6.1 hx.1 node_ne_part.symm), e6.2⟩

theorem OwG.setForm {lo hi k j gn cg hi' : Nat} {gs : List Nd} {w : World} (h : OwG lo hi (.slice (some ⟨gn, 0, none⟩) k cg) k gs w) (hj : j < k) {A : Option Addr} {m c : Nat} {ps : List Pt} (hm : m = ps.length)
    (hp : OwR lo hi' 73 5 (.slice A m c) m (ps.flatMap Pt.cells) w) (hle : hi ≤ hi') :
    OwG lo hi' (.slice (some ⟨gn, 0, none⟩) k cg) k (gs.set j ⟨(gs.getD j default).k, ps⟩) (w.setCell ⟨gn, j * 2 + 1, none⟩ (.slice A m c)) := by
  obtain ⟨h0, xs, hx, hn⟩ := h
  have hxl : xs.length = k * 2 := hx.1.1
  have hst := hx.1.stored (j * 2 + 1) (.slice A m c)
  obtain ⟨x1, y1, e1, e2, e3, A', n', c', e4, e5, e6⟩ := hn j hj
  refine OwG.change h0 hx hn hst.2 hst.1 hj (x := x1) (y := .slice A m c) ?_ ?_ (fun i hi => ⟨?_, ?_⟩) ?_ hle
  · rw [List.getElem?_set, if_neg (by omega)]; exact e1
  · rw [List.getElem?_set, if_pos rfl, if_pos (by omega)]
  · rw [List.getElem?_set, if_neg (by omega)]
  · rw [List.getElem?_set, if_neg (by omega)]
  · exact ⟨e3, A, m, c, rfl, hm, hp.1.kept hst.2 (blocks_ne hp.1 hx.1 node_ne_part.symm), hp.2⟩

theorem small_set {gs : List Nd} {j : Nat} {d : Nd} (h : ∀ j, (gs.getD j default).ps.length ≤ 40) (hd : d.ps.length ≤ 40) : ∀ i, ((gs.set j d).getD i default).ps.length ≤ 40 := by
  intro i
  by_cases e : j = i
  · subst e
    by_cases hl : j < gs.length
    · simpa [List.getD, List.getElem?_set, hl] using hd
    · rw [List.set_eq_of_length_le (by omega)]
      exact h j
  · have := h i
    simpa [List.getD, List.getElem?_set, e] using this

theorem OwG.node_cells {lo hi k j gn cg : Nat} {gs : List Nd} {w : World} (h : OwG lo hi (.slice (some ⟨gn, 0, none⟩) k cg) k gs w) (hj : j < k) :
    (∃ x, w.cell? ⟨gn, j * 2, none⟩ = some x) ∧ (∃ x, w.cell? ⟨gn, j * 2 + 1, none⟩ = some x) ∧ w.frozen? ⟨gn, j * 2, none⟩ = false ∧ w.frozen? ⟨gn, j * 2 + 1, none⟩ = false ∧ lo ≤ gn ∧ gn < hi := by
  obtain ⟨h0, xs, hx, hn⟩ := h
  have hxl : xs.length = k * 2 := hx.1.1
  obtain ⟨x1, y1, e1, e2, _⟩ := hn j hj
  exact ⟨⟨x1, (hx.1.cellAt _ (by omega)).trans e1⟩, ⟨y1, (hx.1.cellAt _ (by omega)).trans e2⟩, hx.1.frozenAt _, hx.1.frozenAt _, (hx.1.lt gn rfl).1, hx.2 gn rfl⟩
theorem OwG.pos {lo hi k : Nat} {v : Value} {gs : List Nd} {w : World} (h : OwG lo hi v k gs w) (hk : 0 < k) : ∃ gn cg, v = .slice (some ⟨gn, 0, none⟩) k cg := by
  obtain ⟨h0, xs, hx, _⟩ := h
  exact row_pos hx.1 hk

set_option maxRecDepth 100000 in
set_option maxHeartbeats 40000000 in
theorem someGraph_any (g : Nat) (A : Option Addr) (n c : Nat) (bs : List Int) (P : Nat) (w : World) (h : Rdr g A n c bs P w) (hn : n = bs.length) (hby : BY bs) (hs : n ≤ 2000) (hP : P ≤ 700000) :
    Calls Try.prog 70 #[.pointer (some ⟨g, 0, none⟩)] w fun e w' => GgP g A n c bs (P + 2500) w e w' := by
  have hgw := h.lt
  have HN := Lib.hid hn
  have HR0 := Lib.hid (h.alloc (.cells #[.slice none 0 0] 41))
  clear h hn
  go_enter Try.func70, Try.ntmps70
  go_wp2_with fail
  refine (goodGraph_any g A n c bs P _ HR0.out HN.out hby hs (by omega)).mono ?_
  rintro e w1 ⟨V, k, gs, rfl, hk2, hk10, hsm, hown, hr1, ht1⟩
  have hs1 : w.heap.size + 1 ≤ w1.heap.size := by have := ht1.size; simpa using this
  obtain ⟨gn, cg, rfl⟩ := hown.pos (by omega)
  simp only [World.size_alloc] at hown
  obtain ⟨bG, hbG⟩ : ∃ bG, bG = w1.heap.size := ⟨_, rfl⟩
  have HBG := Lib.hid hbG
  have k0 : w1.cell? ⟨w.heap.size, 0, none⟩ = some (.slice none 0 0) := (World.cell?_of_block (a := ⟨w.heap.size, 0, none⟩) (ht1.block w.heap.size (by simp) (.inr (by omega)))).trans (by go_simp)
  have k1 : w1.frozen? ⟨w.heap.size, 0, none⟩ = false := (World.frozen?_of_block (a := ⟨w.heap.size, 0, none⟩) (ht1.block w.heap.size (by simp) (.inr (by omega)))).trans (by go_simp)
  have HB1 : Hid (As w.heap.size (w.heap.size + 1) (fun w' => w'.cell? ⟨w.heap.size, 0, none⟩ = some (.slice none 0 0) ∧ w'.frozen? ⟨w.heap.size, 0, none⟩ = false) w1) :=
    ⟨⟨k0, k1⟩, hs1, fun w w' h hk => ⟨(World.cell?_of_block (a := ⟨_, 0, none⟩) (hk _ (Nat.le_refl _) (Nat.lt_succ_self _))).trans h.1, (World.frozen?_of_block (a := ⟨_, 0, none⟩) (hk _ (Nat.le_refl _) (Nat.lt_succ_self _))).trans h.2⟩⟩
  have HO1 : Hid (As (w.heap.size + 1) bG (OwG (w.heap.size + 1) bG (.slice (some ⟨gn, 0, none⟩) k cg) k gs) w1) := by rw [hbG]; exact graph_start hown
  have HF1 := Lib.hid ((Frd.of_below (g := g) (s := w.heap.size) ((Below.refl w.heap.size w).alloc (Nat.le_refl _) (.cells #[.slice none 0 0] 41)) (Nat.le_refl _)).trans (Frd.of_tch ht1 (by simp)))
  have HR1 := Lib.hid (hr1.alloc (.cells #[.slice (some ⟨gn, 0, none⟩) k cg] 41))
  have HO2 := Lib.hid (HO1.out.alloc (.cells #[.slice (some ⟨gn, 0, none⟩) k cg] 41))
  have HB2 := Lib.hid (HB1.out.alloc (.cells #[.slice (some ⟨gn, 0, none⟩) k cg] 41))
  have HG2 := box_new w1 (.slice (some ⟨gn, 0, none⟩) k cg) 41
  rw [← hbG] at HG2
  have HG2 := Lib.hid HG2
  have HF2 := Lib.hid (HF1.out.trans (Frd.of_below (w' := w1.alloc (.cells #[.slice (some ⟨gn, 0, none⟩) k cg] 41)) ((Below.refl w1.heap.size w1).alloc (Nat.le_refl _) _) (by omega)))
  have hgG : g < bG := by omega
  have hz2 : bG < (w1.alloc (.cells #[.slice (some ⟨gn, 0, none⟩) k cg] 41)).heap.size := by rw [hbG]; simp
  have hsG : w.heap.size + 1 ≤ bG := by omega
  clear k0 k1 HB1 HO1 HF1 HR0 hown hr1 ht1 hbG
  have q2 := HG2.out.it
  go_wp2_with fail
  generalize w1.alloc (.cells #[.slice (some ⟨gn, 0, none⟩) k cg] 41) = W2 at *
  refine (pick_any g A n c bs (P + 2200) k W2 HR1.out HN.out hby hs (by omega) (by omega)).mono ?_
  rintro e w3 ⟨j, rfl, hj, _, hr3, ht3⟩
  have hjk : j < k := by have := hj (by omega); omega
  have hz3 := ht3.size
  have HR3 := Lib.hid hr3
  have HO3 := Lib.hid (HO2.out.turn ht3 (.inl (by omega)))
  have HB3 := Lib.hid (HB2.out.turn ht3 (.inl (by omega)))
  have HG3 := Lib.hid (HG2.out.turn ht3 (.inl (by omega)))
  have HF3 := Lib.hid (HF2.out.trans (Frd.of_tch ht3 (by omega)))
  clear hj hr3 ht3 HR1 HO2 HB2 HG2 HF2 q2
  have q3 := HG3.out.it
  rw [HBG.out.symm]
  go_wp2_with fail
  refine (pick_any g A n c bs (P + 2201) 24 w3 HR3.out HN.out hby hs (by omega) (by omega)).mono ?_
  rintro e w4 ⟨x, rfl, _, _, hr4, ht4⟩
  have hz4 := ht4.size
  have HR4 := Lib.hid hr4
  have HO4 := Lib.hid (HO3.out.turn ht4 (.inl (by omega)))
  have HB4 := Lib.hid (HB3.out.turn ht4 (.inl (by omega)))
  have HG4 := Lib.hid (HG3.out.turn ht4 (.inl (by omega)))
  have HF4 := Lib.hid (HF3.out.trans (Frd.of_tch ht4 (by omega)))
  clear hr4 ht4 HR3 HO3 HB3 HG3 HF3 q3
  have q4 := HG4.out.it
  obtain ⟨⟨x0, n0⟩, ⟨x1, n1⟩, f0, f1, hlo, hhi⟩ := HO4.out.it.node_cells hjk
  have hzG : bG < w4.heap.size := by omega
  have hwz : w.heap.size < w4.heap.size := by omega
  by_cases hx0 : x = 0
  · subst hx0
    have q5 := (World.cell?_alloc_lt w4 (.cells #[.int .i64 (-1), .int .i64 3, .int .i64 0, .int .i64 2] 3) ⟨bG, 0, none⟩ hzG).trans q4
    go_wp2
    refine wp_region_held_drew (S := fun w' => w'.cell? ⟨bG, 0, none⟩ = some (.slice (some ⟨gn, 0, none⟩) k cg)) (by kernel_rfl) q4 (fun hHeld => ?_)
    refine wpAnyH_take (i := 0) (oi := ⟨some 16, _, _, _, _, _⟩) (v := ?_) rfl (by kernel_rfl) (by kernel_rfl) (by kernel_rfl) (fun _ _ _ h => h) (Or.inl ⟨by rfl, ?_⟩) (by assumption) ?_; rotate_left; (focus (intro w hSw; (try dsimp only at hSw); go_simp; (try with_reducible rfl))); (try simp only [Act.put, List.setIfInBounds_toArray, List.set_cons_zero, List.set_cons_succ])
    refine wpAnyH_take (i := 1) (oi := ⟨some 17, _, _, _, _, _⟩) (v := ?_) rfl (by kernel_rfl) (by kernel_rfl) (by kernel_rfl) (fun _ _ _ h => h) (Or.inl ⟨by rfl, ?_⟩) (by assumption) ?_; rotate_left; (focus (intro w hSw; (try dsimp only at hSw); go_simp; (try with_reducible rfl))); (try simp only [Act.put, List.setIfInBounds_toArray, List.set_cons_zero, List.set_cons_succ])
    refine wpAnyH_take (i := 2) (oi := ⟨some 18, _, _, _, _, _⟩) (v := ?_) rfl (by kernel_rfl) (by kernel_rfl) (by kernel_rfl) (fun _ _ _ h => h) (Or.inl ⟨by rfl, ?_⟩) (by assumption) ?_; rotate_left; (focus (intro w hSw; (try dsimp only at hSw); go_simp; (try with_reducible rfl))); (try simp only [Act.put, List.setIfInBounds_toArray, List.set_cons_zero, List.set_cons_succ])
    refine wpAnyH_take (i := 3) (oi := ⟨some 19, _, _, _, _, _⟩) (v := ?_) rfl (by kernel_rfl) (by kernel_rfl) (by kernel_rfl) (fun _ _ _ h => h) (Or.inl ⟨by rfl, ?_⟩) (by assumption) ?_; rotate_left; (focus (intro w hSw; (try dsimp only at hSw); go_simp; (try with_reducible rfl))); (try simp only [Act.put, List.setIfInBounds_toArray, List.set_cons_zero, List.set_cons_succ])
    refine wpAnyH_ready (rs := [4]) (by kernel_rfl) (by simp) ?_; refine AllReadyH.cons (o := ⟨some 20, _, _, _, _, _⟩) rfl (fun K hK => ?_) AllReadyH.nil; go_simp
    refine hK.out _ _ q5 (fun hHeld => ?_); clear hK K; (try simp only [Act.put, List.setIfInBounds_toArray, List.set_cons_zero, List.set_cons_succ])
    refine wpAnyH_ready (rs := [5]) (by kernel_rfl) (by simp) ?_; refine AllReadyH.cons (o := ⟨some 21, _, _, _, _, _⟩) rfl (fun K hK => ?_) AllReadyH.nil; go_simp
    have HR5 := Lib.hid (HR4.out.alloc (.cells #[.int .i64 (-1), .int .i64 3, .int .i64 0, .int .i64 2] 3))
    have HO5 := Lib.hid (HO4.out.alloc (.cells #[.int .i64 (-1), .int .i64 3, .int .i64 0, .int .i64 2] 3))
    have HB5 := Lib.hid (HB4.out.alloc (.cells #[.int .i64 (-1), .int .i64 3, .int .i64 0, .int .i64 2] 3))
    have HG5 := Lib.hid (HG4.out.alloc (.cells #[.int .i64 (-1), .int .i64 3, .int .i64 0, .int .i64 2] 3))
    have HF5 := Lib.hid (HF4.out.trans (Frd.of_below (w' := w4.alloc (.cells #[.int .i64 (-1), .int .i64 3, .int .i64 0, .int .i64 2] 3)) ((Below.refl w4.heap.size w4).alloc (Nat.le_refl _) _) (by omega)))
    go_at_call 64
    refine (one_any g A n c bs (P + 2202) w4.heap.size 0 4 4 [-1, 3, 0, 2] _ HR5.out.drew HN.out hby hs (by omega) rfl (by omega) (by omega) ?_ (by omega) (by simp)).mono ?_
    · intro j hj
      have : j = 0 ∨ j = 1 ∨ j = 2 ∨ j = 3 := by omega
      rcases this with rfl | rfl | rfl | rfl <;> go_simp
    rintro e w5 ⟨z, rfl, _, hr5, ht5'⟩
    have ht5 : Tch g (g + 1) (w4.alloc (.cells #[.int .i64 (-1), .int .i64 3, .int .i64 0, .int .i64 2] 3)) w5 := ⟨ht5'.os, ht5'.tape, ht5'.output, ht5'.size, ht5'.block⟩
    have hz5 : w4.heap.size + 1 ≤ w5.heap.size := by have := ht5.size; simpa using this
    have HO6 := Lib.hid (HO5.out.turn ht5 (.inl (by omega)))
    have HB6 := Lib.hid (HB5.out.turn ht5 (.inl (by omega)))
    have HG6 := Lib.hid (HG5.out.turn ht5 (.inl (by omega)))
    have HOO := Lib.hid (HO6.out.it.setKind hjk z)
    have q6 := HG6.out.it
    obtain ⟨⟨y0, m0⟩, ⟨y1, m1⟩, e0, e1, _, _⟩ := HO6.out.it.node_cells hjk
    have hne : ∀ q : Nat, (⟨gn, q, none⟩ : Addr) ≠ ⟨bG, 0, none⟩ := fun q e => by have := congrArg Addr.block e; simp at this; omega
    have q7 : (w5.setCell ⟨gn, j * 2, none⟩ (.int .i64 z)).cell? ⟨bG, 0, none⟩ = some (.slice (some ⟨gn, 0, none⟩) k cg) := (World.cell?_setCell_other _ _ _ _ (hne _)).trans q6
    refine hK.out _ _ q6 (fun hHeld => ?_); clear hK K; (try simp only [Act.put, List.setIfInBounds_toArray, List.set_cons_zero, List.set_cons_succ])
    refine wpAnyH_take (i := 6) (oi := ⟨some 22, _, _, _, _, _⟩) (v := ?_) rfl (by kernel_rfl) (by kernel_rfl) (by kernel_rfl) (fun _ _ _ h => h) (Or.inl ⟨by rfl, ?_⟩) (by assumption) ?_; rotate_left; (focus (intro w hSw; (try dsimp only at hSw); go_simp; (try with_reducible rfl))); (try simp only [Act.put, List.setIfInBounds_toArray, List.set_cons_zero, List.set_cons_succ])
    refine wpAnyH_take (i := 7) (oi := ⟨some 23, _, _, _, _, _⟩) (v := ?_) rfl (by kernel_rfl) (by kernel_rfl) (by kernel_rfl) (fun _ _ _ h => h) (Or.inl ⟨by rfl, ?_⟩) (by assumption) ?_; rotate_left; (focus (intro w hSw; (try dsimp only at hSw); go_simp; (try with_reducible rfl))); (try simp only [Act.put, List.setIfInBounds_toArray, List.set_cons_zero, List.set_cons_succ])
    refine wpAnyH_ready (rs := [8]) (by kernel_rfl) (by simp) ?_; refine AllReadyH.cons (o := ⟨none, _, _, _, _, _⟩) rfl (fun K hK => ?_) AllReadyH.nil; go_simp
    refine hK.out _ _ q7 (fun hHeld => ?_); clear hK K; (try simp only [Act.put, List.setIfInBounds_toArray, List.set_cons_zero, List.set_cons_succ])
    refine wpAnyH_done (by kernel_rfl) ?_ _
    have HFF := Lib.hid ((HF5.out.trans (Frd.of_tch ht5 (by simp; omega))).trans (Frd.of_below ((Below.refl w.heap.size w5).setCell (p := ⟨gn, j * 2, none⟩) (by show w.heap.size ≤ gn; omega) (.int .i64 z)) (Nat.le_refl _)))
    have HRR := Lib.hid (hr5.set1 (show g < gn by omega) (j * 2) (.int .i64 z))
    have HBB := Lib.hid (HB6.out.keep (w' := w5.setCell ⟨gn, j * 2, none⟩ (.int .i64 z)) (fun k a b => Below.heap_setCell _ _ _ _ (by show k ≠ gn; omega)) (by simp [World.setCell]))
    have hsz5 : (w5.setCell ⟨gn, j * 2, none⟩ (.int .i64 z)).heap.size = w5.heap.size := by simp [World.setCell]
    have hz6 : w.heap.size < (w5.setCell ⟨gn, j * 2, none⟩ (.int .i64 z)).heap.size := by rw [hsz5]; omega
    obtain ⟨r0, r1⟩ := HBB.out.it
    have HSZ5 := Lib.hid hsz5
    clear hr5 ht5 ht5' hsz5
    go_wp2
    refine bodyPost_ret (v := .agg #[.slice (some ⟨gn, 0, none⟩) k cg]) (by simp [results, Try.results70, go_sem, r0]) rfl ?_
    generalize hW : w5.setCell ⟨gn, j * 2, none⟩ (.int .i64 z) = W6 at *
    have hsz : (W6.setCell ⟨w.heap.size, 0, none⟩ (.slice (some ⟨gn, 0, none⟩) k cg)).heap.size = W6.heap.size := by simp [World.setCell]
    refine ⟨_, k, gs.set j ⟨z, (gs.getD j default).ps⟩, rfl, hk2, hk10, small_set hsm (hsm j), ?_, (HRR.out.mono (by omega)).set1 hgw 0 _, (HFF.out.trans (Frd.of_below ((Below.refl w.heap.size _).setCell (p := ⟨w.heap.size, 0, none⟩) (Nat.le_refl _) _) (Nat.le_refl _))).tch⟩
    rw [hsz]
    exact (OwG.loc _ _ _ _ _ _ _ HOO.out fun b x y => Below.heap_setCell _ _ _ _ (by show b ≠ w.heap.size; omega)).mono (by omega) (by have := HSZ5.out; omega)
  · by_cases hx1 : x = 1
    · subst hx1
      have a8 : IntKind.i64.wrap ((k : Int) - 1) = (k : Int) - 1 := (by rw [IntKind.wrap_i64]; omega)
      have q5 := (World.cell?_alloc_lt w4 (.cells #[.int .i64 j, .int .i64 ((k : Int) - 1)] 3) ⟨bG, 0, none⟩ hzG).trans q4
      go_wp2
      refine wp_region_held_drew (S := fun w' => w'.cell? ⟨bG, 0, none⟩ = some (.slice (some ⟨gn, 0, none⟩) k cg)) (by kernel_rfl) q4 (fun hHeld => ?_)
      refine wpAnyH_take (i := 0) (oi := ⟨some 26, _, _, _, _, _⟩) (v := ?_) rfl (by kernel_rfl) (by kernel_rfl) (by kernel_rfl) (fun _ _ _ h => h) (Or.inl ⟨by rfl, ?_⟩) (by assumption) ?_; rotate_left; (focus (intro w hSw; (try dsimp only at hSw); go_simp; (try with_reducible rfl))); (try simp only [Act.put, List.setIfInBounds_toArray, List.set_cons_zero, List.set_cons_succ])
      refine wpAnyH_take (i := 1) (oi := ⟨some 27, _, _, _, _, _⟩) (v := ?_) rfl (by kernel_rfl) (by kernel_rfl) (by kernel_rfl) (fun _ _ _ h => h) (Or.inl ⟨by rfl, ?_⟩) (by assumption) ?_; rotate_left; (focus (intro w hSw; (try dsimp only at hSw); go_simp; (try with_reducible rfl))); (try simp only [Act.put, List.setIfInBounds_toArray, List.set_cons_zero, List.set_cons_succ])
      refine wpAnyH_take (i := 2) (oi := ⟨some 28, _, _, _, _, _⟩) (v := ?_) rfl (by kernel_rfl) (by kernel_rfl) (by kernel_rfl) (fun _ _ _ h => h) (Or.inl ⟨by rfl, ?_⟩) (by assumption) ?_; rotate_left; (focus (intro w hSw; (try dsimp only at hSw); go_simp; (try with_reducible rfl))); (try simp only [Act.put, List.setIfInBounds_toArray, List.set_cons_zero, List.set_cons_succ])
      refine wpAnyH_take (i := 3) (oi := ⟨some 29, _, _, _, _, _⟩) (v := ?_) rfl (by kernel_rfl) (by kernel_rfl) (by kernel_rfl) (fun _ _ _ h => h) (Or.inl ⟨by rfl, ?_⟩) (by assumption) ?_; rotate_left; (focus (intro w hSw; (try dsimp only at hSw); go_simp; (try with_reducible rfl))); (try simp only [Act.put, List.setIfInBounds_toArray, List.set_cons_zero, List.set_cons_succ])
      refine wpAnyH_take (i := 4) (oi := ⟨some 30, _, _, _, _, _⟩) (v := ?_) rfl (by kernel_rfl) (by kernel_rfl) (by kernel_rfl) (fun _ _ _ h => h) (Or.inl ⟨by rfl, ?_⟩) (by assumption) ?_; rotate_left; (focus (intro w hSw; (try dsimp only at hSw); go_simp; (try with_reducible rfl))); (try simp only [Act.put, List.setIfInBounds_toArray, List.set_cons_zero, List.set_cons_succ])
      refine wpAnyH_take (i := 5) (oi := ⟨some 31, _, _, _, _, _⟩) (v := ?_) rfl (by kernel_rfl) (by kernel_rfl) (by kernel_rfl) (fun _ _ _ h => h) (Or.inl ⟨by rfl, ?_⟩) (by assumption) ?_; rotate_left; (focus (intro w hSw; (try dsimp only at hSw); go_simp; (try with_reducible rfl))); (try simp only [Act.put, List.setIfInBounds_toArray, List.set_cons_zero, List.set_cons_succ])
      refine wpAnyH_take (i := 6) (oi := ⟨some 32, _, _, _, _, _⟩) (v := ?_) rfl (by kernel_rfl) (by kernel_rfl) (by kernel_rfl) (fun _ _ _ h => h) (Or.inl ⟨by rfl, ?_⟩) (by assumption) ?_; rotate_left; (focus (intro w hSw; (try dsimp only at hSw); go_simp; (try with_reducible rfl))); (try simp only [Act.put, List.setIfInBounds_toArray, List.set_cons_zero, List.set_cons_succ])
      refine wpAnyH_take (i := 7) (oi := ⟨some 33, _, _, _, _, _⟩) (v := ?_) rfl (by kernel_rfl) (by kernel_rfl) (by kernel_rfl) (fun _ _ _ h => h) (Or.inl ⟨by rfl, ?_⟩) (by assumption) ?_; rotate_left; (focus (intro w hSw; (try dsimp only at hSw); go_simp; (try with_reducible rfl))); (try simp only [Act.put, List.setIfInBounds_toArray, List.set_cons_zero, List.set_cons_succ])
      refine wpAnyH_take (i := 8) (oi := ⟨some 34, _, _, _, _, _⟩) (v := ?_) rfl (by kernel_rfl) (by kernel_rfl) (by kernel_rfl) (fun _ _ _ h => h) (Or.inl ⟨by rfl, ?_⟩) (by assumption) ?_; rotate_left; (focus (intro w hSw; (try dsimp only at hSw); go_simp; (try with_reducible rfl))); (try simp only [Act.put, List.setIfInBounds_toArray, List.set_cons_zero, List.set_cons_succ])
      refine wpAnyH_ready (rs := [9]) (by kernel_rfl) (by simp) ?_; refine AllReadyH.cons (o := ⟨some 35, _, _, _, _, _⟩) rfl (fun K hK => ?_) AllReadyH.nil; go_simp
      refine hK.out _ _ q5 (fun hHeld => ?_); clear hK K; (try simp only [Act.put, List.setIfInBounds_toArray, List.set_cons_zero, List.set_cons_succ])
      refine wpAnyH_ready (rs := [10]) (by kernel_rfl) (by simp) ?_; refine AllReadyH.cons (o := ⟨some 36, _, _, _, _, _⟩) rfl (fun K hK => ?_) AllReadyH.nil; go_simp
      have HR5 := Lib.hid (HR4.out.alloc (.cells #[.int .i64 j, .int .i64 ((k : Int) - 1)] 3))
      have HO5 := Lib.hid (HO4.out.alloc (.cells #[.int .i64 j, .int .i64 ((k : Int) - 1)] 3))
      have HB5 := Lib.hid (HB4.out.alloc (.cells #[.int .i64 j, .int .i64 ((k : Int) - 1)] 3))
      have HG5 := Lib.hid (HG4.out.alloc (.cells #[.int .i64 j, .int .i64 ((k : Int) - 1)] 3))
      have HF5 := Lib.hid (HF4.out.trans (Frd.of_below (w' := w4.alloc (.cells #[.int .i64 j, .int .i64 ((k : Int) - 1)] 3)) ((Below.refl w4.heap.size w4).alloc (Nat.le_refl _) _) (by omega)))
      go_at_call 93
      refine (goodFormula_any g A n c bs (P + 2202) (some ⟨w4.heap.size, 0, none⟩) 2 2 [(j : Int), (k : Int) - 1] _ HR5.out.drew HN.out hby hs (by omega) rfl (by omega) ?_ ?_).mono ?_
      · intro _
        refine ⟨w4.heap.size, 0, rfl, by simp, fun i hi => ?_⟩
        have : i = 0 ∨ i = 1 := by simp at hi; omega
        rcases this with rfl | rfl <;> go_simp
      · intro b' o' e; cases e; omega
      rintro e w5 ⟨Af, nf, cf, ps, rfl, hpl, hnf1, hnf2, hrow5, hr5, ht5'⟩
      have ht5 : Tch g (g + 1) (w4.alloc (.cells #[.int .i64 j, .int .i64 ((k : Int) - 1)] 3)) w5 := ⟨ht5'.os, ht5'.tape, ht5'.output, ht5'.size, ht5'.block⟩
      have hz5 : w4.heap.size + 1 ≤ w5.heap.size := by have := ht5.size; simpa using this
      have hps40 : ps.length ≤ 40 := by omega
      have HO6 := Lib.hid (HO5.out.turn ht5 (.inl (by omega)))
      have HB6 := Lib.hid (HB5.out.turn ht5 (.inl (by omega)))
      have HG6 := Lib.hid (HG5.out.turn ht5 (.inl (by omega)))
      have HOO := Lib.hid (HO6.out.it.setForm hjk hpl ((OwR.start hrow5).mono (by simp; omega) (Nat.le_refl _)) (show bG ≤ w5.heap.size by omega))
      have q6 := HG6.out.it
      obtain ⟨⟨y0, m0⟩, ⟨y1, m1⟩, e0, e1, _, _⟩ := HO6.out.it.node_cells hjk
      have hne : ∀ q : Nat, (⟨gn, q, none⟩ : Addr) ≠ ⟨bG, 0, none⟩ := fun q e => by have := congrArg Addr.block e; simp at this; omega
      have q7 : (w5.setCell ⟨gn, j * 2 + 1, none⟩ (.slice Af nf cf)).cell? ⟨bG, 0, none⟩ = some (.slice (some ⟨gn, 0, none⟩) k cg) := (World.cell?_setCell_other _ _ _ _ (hne _)).trans q6
      clear hrow5 hpl
      refine hK.out _ _ q6 (fun hHeld => ?_); clear hK K; (try simp only [Act.put, List.setIfInBounds_toArray, List.set_cons_zero, List.set_cons_succ])
      refine wpAnyH_take (i := 11) (oi := ⟨some 37, _, _, _, _, _⟩) (v := ?_) rfl (by kernel_rfl) (by kernel_rfl) (by kernel_rfl) (fun _ _ _ h => h) (Or.inl ⟨by rfl, ?_⟩) (by assumption) ?_; rotate_left; (focus (intro w hSw; (try dsimp only at hSw); go_simp; (try with_reducible rfl))); (try simp only [Act.put, List.setIfInBounds_toArray, List.set_cons_zero, List.set_cons_succ])
      refine wpAnyH_take (i := 12) (oi := ⟨some 38, _, _, _, _, _⟩) (v := ?_) rfl (by kernel_rfl) (by kernel_rfl) (by kernel_rfl) (fun _ _ _ h => h) (Or.inl ⟨by rfl, ?_⟩) (by assumption) ?_; rotate_left; (focus (intro w hSw; (try dsimp only at hSw); go_simp; (try with_reducible rfl))); (try simp only [Act.put, List.setIfInBounds_toArray, List.set_cons_zero, List.set_cons_succ])
      refine wpAnyH_ready (rs := [13]) (by kernel_rfl) (by simp) ?_; refine AllReadyH.cons (o := ⟨none, _, _, _, _, _⟩) rfl (fun K hK => ?_) AllReadyH.nil; go_simp
      refine hK.out _ _ q7 (fun hHeld => ?_); clear hK K; (try simp only [Act.put, List.setIfInBounds_toArray, List.set_cons_zero, List.set_cons_succ])
      refine wpAnyH_done (by kernel_rfl) ?_ _
      have HFF := Lib.hid ((HF5.out.trans (Frd.of_tch ht5 (by simp; omega))).trans (Frd.of_below ((Below.refl w.heap.size w5).setCell (p := ⟨gn, j * 2 + 1, none⟩) (by show w.heap.size ≤ gn; omega) (.slice Af nf cf)) (Nat.le_refl _)))
      have HRR := Lib.hid (hr5.set1 (show g < gn by omega) (j * 2 + 1) (.slice Af nf cf))
      have HBB := Lib.hid (HB6.out.keep (w' := w5.setCell ⟨gn, j * 2 + 1, none⟩ (.slice Af nf cf)) (fun k a b => Below.heap_setCell _ _ _ _ (by show k ≠ gn; omega)) (by simp [World.setCell]))
      have hsz5 : (w5.setCell ⟨gn, j * 2 + 1, none⟩ (.slice Af nf cf)).heap.size = w5.heap.size := by simp [World.setCell]
      have hz6 : w.heap.size < (w5.setCell ⟨gn, j * 2 + 1, none⟩ (.slice Af nf cf)).heap.size := by rw [hsz5]; omega
      obtain ⟨r0, r1⟩ := HBB.out.it
      have HSZ5 := Lib.hid hsz5
      clear hr5 ht5 ht5' hsz5
      go_wp2
      refine bodyPost_ret (v := .agg #[.slice (some ⟨gn, 0, none⟩) k cg]) (by simp [results, Try.results70, go_sem, r0]) rfl ?_
      generalize hW : w5.setCell ⟨gn, j * 2 + 1, none⟩ (.slice Af nf cf) = W6 at *
      have hsz : (W6.setCell ⟨w.heap.size, 0, none⟩ (.slice (some ⟨gn, 0, none⟩) k cg)).heap.size = W6.heap.size := by simp [World.setCell]
      refine ⟨_, k, gs.set j ⟨(gs.getD j default).k, ps⟩, rfl, hk2, hk10, small_set hsm hps40, ?_, (HRR.out.mono (by omega)).set1 hgw 0 _, (HFF.out.trans (Frd.of_below ((Below.refl w.heap.size _).setCell (p := ⟨w.heap.size, 0, none⟩) (Nat.le_refl _) _) (Nat.le_refl _))).tch⟩
      rw [hsz]
      exact (OwG.loc _ _ _ _ _ _ _ HOO.out fun b x y => Below.heap_setCell _ _ _ _ (by show b ≠ w.heap.size; omega)).mono (by omega) (by have := HSZ5.out; omega)
    · obtain ⟨r0, r1⟩ := HB4.out.it
      go_wp2
      refine bodyPost_ret (v := .agg #[.slice (some ⟨gn, 0, none⟩) k cg]) (by simp [results, Try.results70, go_sem, r0]) rfl ?_
      have hsz : (w4.setCell ⟨w.heap.size, 0, none⟩ (.slice (some ⟨gn, 0, none⟩) k cg)).heap.size = w4.heap.size := by simp [World.setCell]
      refine ⟨_, k, gs, rfl, hk2, hk10, hsm, ?_, (HR4.out.mono (by omega)).set1 hgw 0 _, (HF4.out.trans (Frd.of_below ((Below.refl w.heap.size _).setCell (p := ⟨w.heap.size, 0, none⟩) (Nat.le_refl _) _) (Nat.le_refl _))).tch⟩
      rw [hsz]
      exact (OwG.loc _ _ _ _ _ _ _ HO4.out.it fun b x y => Below.heap_setCell _ _ _ _ (by show b ≠ w.heap.size; omega)).mono (by omega) (by omega)
end Go.Proofs.Ytgbijmfmdcphhaa

/- The drawing of cells: goodCells, someCells; a graph and cells: graphOf. -/
namespace Go.Proofs.Ytgbijmfmdcphhaa
set_option linter.unusedSimpArgs false
set_option linter.unusedVariables false
open Go.RowKit

/-- Returns l numbers in a fresh block; the reader has picked Q times at most. -/
def CsP (g : Nat) (A : Option Addr) (n c : Nat) (bs : List Int) (Q : Nat) (l1 l2 : Nat) (w : World) (e : Ending) (w' : World) : Prop :=
  ∃ (v : Value) (xs : List Int), e = .returned v ∧ l1 ≤ xs.length ∧ xs.length ≤ l2 ∧ OwnI w' w.heap.size v xs ∧ Rdr g A n c bs Q w' ∧ Tch g (g + 1) w w'

set_option maxRecDepth 100000 in
set_option maxHeartbeats 3200000 in
theorem goodCells_any (g : Nat) (A : Option Addr) (n c : Nat) (bs : List Int) (P : Nat) (Ag : Option Addr) (k cg lo hi : Nat) (gs : List Nd) (w : World) (h : Rdr g A n c bs P w) (hn : n = bs.length) (hby : BY bs) (hs : n ≤ 2000) (hP : P ≤ 800000)
    (hg : As lo hi (OwG lo hi (.slice Ag k cg) k gs) w) (hlo : g < lo) (hk1 : 1 ≤ k) (hk : k ≤ 10) :
    Calls Try.prog 113 #[.pointer (some ⟨g, 0, none⟩), .agg #[.slice Ag k cg]] w fun e w' => CsP g A n c bs (P + 20) k k w e w' := by
  obtain ⟨i0, hi0, hz0, hz1, hz2⟩ := info_parts info_int
  have hgw := h.lt
  have hhi := hg.le
  have HN := Lib.hid hn
  have HR0 := Lib.hid ((h.alloc (.cells #[.slice Ag k cg] 41)).alloc (.cells #[] 3))
  have HA0 := Lib.hid ((hg.alloc (.cells #[.slice Ag k cg] 41)).alloc (.cells #[] 3))
  have HB0 := Lib.hid ((box_new w (.slice Ag k cg) 41).alloc (.cells #[] 3))
  have hrow0 := World.ownsRow_lit (e := 3) (size := 1) (base := w.heap.size + 1) (w.alloc (.cells #[.slice Ag k cg] 41)) #[] 0 (by simp) (by unfold maxLen; omega) (by simp)
  have HROW := Lib.hid (OwR.start hrow0)
  have hBW : Below w.heap.size w ((w.alloc (.cells #[.slice Ag k cg] 41)).alloc (.cells #[] 3)) := ((Below.refl _ _).alloc (Nat.le_refl _) _).alloc (by simp) _
  have HF0 := Lib.hid (Frd.of_below (g := g) (s := w.heap.size) hBW (Nat.le_refl _))
  clear h hn hg hrow0 hBW
  go_enter Try.func113, Try.ntmps113
  go_wp2
  go_loopw [5, 6] (fun v u wr => ∃ (i : Nat) (xs : List Int), i ≤ k ∧ u = .int .i64 i ∧ xs.length = i ∧ Hid (OwR (w.heap.size + 1) wr.heap.size 3 1 v i (xs.map (Value.int .i64)) wr) ∧ Hid (As lo hi (OwG lo hi (.slice Ag k cg) k gs) wr) ∧ Hid (As w.heap.size (w.heap.size + 1) (fun w' => w'.cell? ⟨w.heap.size, 0, none⟩ = some (.slice Ag k cg)) wr) ∧ Hid (Rdr g A n c bs (P + 2 * i) wr) ∧ Hid (Frd g w.heap.size w wr)) (fun _ u _ => k - (intOf u).toNat)
  case atStart => exact ⟨0, [], Nat.zero_le _, rfl, rfl, by simpa [Hid] using HROW.out, HA0.out, HB0.out, by simpa [Hid] using HR0.out, HF0.out⟩
  case round =>
    obtain ⟨i, xs, hik, rfl, hxl, HO, HA, HB, HR, HF⟩ := hrel
    obtain ⟨Av, cv, rfl⟩ := row_form' HO.out.1
    have hwr : w.heap.size + 1 ≤ wr.heap.size := HB.out.le
    have qb := HB.out.it
    by_cases hlt : i < k
    · obtain ⟨b, off, rfl, hbB, hcc⟩ := HA.out.it.nodes (by have := HA.out.it.1; omega)
      obtain ⟨c0, _⟩ := hcc i (by have := HA.out.it.1; omega)
      have hbw : b < wr.heap.size := by omega
      clear HROW HA0 HB0 HR0 HF0
      generalize gs.getD i default = d at c0
      cases hd : (d.k == 0)
      · have HOa := Lib.hid HO.out
        have HAa := Lib.hid HA.out
        have HBa := Lib.hid HB.out
        have HRa := Lib.hid HR.out
        have HFa := Lib.hid HF.out
        clear HO HA HB HR HF
        have HAb := Lib.hid (HAa.out.alloc (.cells #[.int .i64 0] 3))
        have HBb := Lib.hid (HBa.out.alloc (.cells #[.int .i64 0] 3))
        have HRb := Lib.hid (HRa.out.alloc (.cells #[.int .i64 0] 3))
        have HFb := Lib.hid (HFa.out.trans (Frd.of_below (w' := wr.alloc (.cells #[.int .i64 0] 3)) ((Below.refl wr.heap.size wr).alloc (Nat.le_refl _) _) (by omega)))
        go_wp2_with (at_builtin; refine wpList_append_own _ rfl _ _ 30 rfl (w.heap.size + 1) 3 i0 (.int .i64 0) 1 8 Try.underlying30 hi0 hz0 hz1 hz2 rfl (by decide) _ _ _ rfl (HOa.out.1.alloc _) ⟨_, 0, none⟩ 1 1 [.int .i64 0] rfl rfl (cell_one_new _ _ _) ?c2 ?c3 ?c4 ?c5 ?_)
        case c2 => first | rfl | (intro u hu; simp at hu; subst hu; rfl)
        case c3 => unfold maxLen; omega
        case c4 => omega
        case c5 => first | omega | (simp; omega)
        intro v9 w9 hown9 hgrow9 _
        have hpos := (HOa.out.1.alloc (.cells #[.int .i64 0] 3)).lt
        have hb9 : Below (w.heap.size + 1) (wr.alloc (.cells #[.int .i64 0] 3)) w9 := (Below.refl _ _).grown hgrow9 (by simp; omega) (fun q hq => (hpos q hq).1)
        have ht9 : Tch (w.heap.size + 1) (wr.heap.size + 1) (wr.alloc (.cells #[.int .i64 0] 3)) w9 := Tch.of_grown hgrow9 fun q hq => by have := hpos q hq; simp at this; omega
        have HA9 := Lib.hid (HAb.out.turn ht9 (.inr (by omega)))
        have HB9 := Lib.hid (HBb.out.turn ht9 (.inr (Nat.le_refl _)))
        have HR9 := Lib.hid (HRb.out.turn ht9 (by omega))
        have HF9 := Lib.hid (HFb.out.trans (Frd.of_below hb9 (by omega)))
        have HO9 : Hid (OwR (w.heap.size + 1) w9.heap.size 3 1 v9 (i + 1) ((xs ++ [(0 : Int)]).map (Value.int .i64)) w9) := ⟨by simpa using hown9, fun q hq => (hown9.lt q hq).2⟩
        clear hown9 hgrow9 hpos hb9 ht9
        go_wp2
        go_roundw
        case rel => exact ⟨i + 1, xs ++ [(0 : Int)], by omega, by go_num, by simp [hxl], HO9.out, HA9.out, HB9.out, HR9.out.mono (by omega), HF9.out⟩
        case measure => simp [intOf]; omega
      · go_wp2_with fail
        refine (pick_any g A n c bs (P + 2 * i) 1000 _ HR.out HN.out hby hs (by omega) (by omega)).mono ?_
        rintro e w3 ⟨y, rfl, _, _, hr3, ht3⟩
        have hs3 := ht3.size
        have HR3 := Lib.hid (hr3.alloc (.cells #[.int .i64 0, .int .i64 1, .int .i64 y, .int .i64 2, .int .i64 5] 3))
        have HA3 := Lib.hid ((HA.out.turn ht3 (.inl (by omega))).alloc (.cells #[.int .i64 0, .int .i64 1, .int .i64 y, .int .i64 2, .int .i64 5] 3))
        have HB3 := Lib.hid ((HB.out.turn ht3 (.inl (by omega))).alloc (.cells #[.int .i64 0, .int .i64 1, .int .i64 y, .int .i64 2, .int .i64 5] 3))
        have HF3 := Lib.hid ((HF.out.trans (Frd.of_tch ht3 (by omega))).trans (Frd.of_below (w' := w3.alloc (.cells #[.int .i64 0, .int .i64 1, .int .i64 y, .int .i64 2, .int .i64 5] 3)) ((Below.refl w3.heap.size w3).alloc (Nat.le_refl _) _) (by omega)))
        have HO3 := Lib.hid ((HO.out.keep (w' := w3) fun q hq hq' => ht3.block q hq' (.inr (by omega))).keep (w' := w3.alloc (.cells #[.int .i64 0, .int .i64 1, .int .i64 y, .int .i64 2, .int .i64 5] 3)) fun q hq hq' => Below.heap_alloc _ _ _ (by omega))
        clear hr3 ht3 HO HA HB HR HF
        go_wp2_with fail
        refine (one_any g A n c bs (P + 2 * i + 1) w3.heap.size 0 5 5 [0, 1, y, 2, 5] _ HR3.out HN.out hby hs (by omega) rfl (by omega) (by omega) ?_ (by omega) (by simp)).mono ?_
        · intro j hj
          have : j = 0 ∨ j = 1 ∨ j = 2 ∨ j = 3 ∨ j = 4 := by omega
          rcases this with rfl | rfl | rfl | rfl | rfl <;> go_simp
        rintro e w4 ⟨z, rfl, _, hr4, ht4⟩
        have hs4 : w3.heap.size + 1 ≤ w4.heap.size := by have := ht4.size; simpa using this
        have HRa := Lib.hid hr4
        have HAa := Lib.hid (HA3.out.turn ht4 (.inl (by omega)))
        have HBa := Lib.hid (HB3.out.turn ht4 (.inl (by omega)))
        have HFa := Lib.hid (HF3.out.trans (Frd.of_tch ht4 (by simp; omega)))
        have HOa := Lib.hid ((HO3.out.keep (w' := w4) fun q hq hq' => ht4.block q (by simp; omega) (.inr (by omega))).mono (Nat.le_refl _) (show wr.heap.size ≤ w4.heap.size by omega))
        clear hr4 ht4 HR3 HA3 HB3 HF3 HO3
        have HAb := Lib.hid (HAa.out.alloc (.cells #[.int .i64 z] 3))
        have HBb := Lib.hid (HBa.out.alloc (.cells #[.int .i64 z] 3))
        have HRb := Lib.hid (HRa.out.alloc (.cells #[.int .i64 z] 3))
        have HFb := Lib.hid (HFa.out.trans (Frd.of_below (w' := w4.alloc (.cells #[.int .i64 z] 3)) ((Below.refl w4.heap.size w4).alloc (Nat.le_refl _) _) (by omega)))
        go_wp2_with (at_builtin; refine wpList_append_own _ rfl _ _ 30 rfl (w.heap.size + 1) 3 i0 (.int .i64 0) 1 8 Try.underlying30 hi0 hz0 hz1 hz2 rfl (by decide) _ _ _ rfl (HOa.out.1.alloc _) ⟨_, 0, none⟩ 1 1 [.int .i64 z] rfl rfl (cell_one_new _ _ _) ?c2 ?c3 ?c4 ?c5 ?_)
        case c2 => first | rfl | (intro u hu; simp at hu; subst hu; rfl)
        case c3 => unfold maxLen; omega
        case c4 => omega
        case c5 => first | omega | (simp; omega)
        intro v9 w9 hown9 hgrow9 _
        have hpos := (HOa.out.1.alloc (.cells #[.int .i64 z] 3)).lt
        have hb9 : Below (w.heap.size + 1) (w4.alloc (.cells #[.int .i64 z] 3)) w9 := (Below.refl _ _).grown hgrow9 (by simp; omega) (fun q hq => (hpos q hq).1)
        have ht9 : Tch (w.heap.size + 1) (w4.heap.size + 1) (w4.alloc (.cells #[.int .i64 z] 3)) w9 := Tch.of_grown hgrow9 fun q hq => by have := hpos q hq; simp at this; omega
        have HA9 := Lib.hid (HAb.out.turn ht9 (.inr (by omega)))
        have HB9 := Lib.hid (HBb.out.turn ht9 (.inr (Nat.le_refl _)))
        have HR9 := Lib.hid (HRb.out.turn ht9 (by omega))
        have HF9 := Lib.hid (HFb.out.trans (Frd.of_below hb9 (by omega)))
        have HO9 : Hid (OwR (w.heap.size + 1) w9.heap.size 3 1 v9 (i + 1) ((xs ++ [(z : Int)]).map (Value.int .i64)) w9) := ⟨by simpa using hown9, fun q hq => (hown9.lt q hq).2⟩
        clear hown9 hgrow9 hpos hb9 ht9
        go_wp2
        go_roundw
        case rel => exact ⟨i + 1, xs ++ [(z : Int)], by omega, by go_num, by simp [hxl], HO9.out, HA9.out, HB9.out, HR9.out.mono (by omega), HF9.out⟩
        case measure => simp [intOf]; omega
    · obtain rfl : i = k := by omega
      go_wp2
      go_ret
      exact ⟨_, xs, rfl, by omega, by omega, by unfold OwnI; rw [hxl]; exact own_mono HO.out.1 (by omega), HR.out.mono (by omega), HF.out.tch⟩
end Go.Proofs.Ytgbijmfmdcphhaa

/- The drawing of cells: someCells; a graph and cells: graphOf. -/
namespace Go.Proofs.Ytgbijmfmdcphhaa
set_option linter.unusedSimpArgs false
set_option linter.unusedVariables false
open Go.RowKit

set_option maxRecDepth 100000 in
set_option maxHeartbeats 3200000 in
theorem someCells_any (g : Nat) (A : Option Addr) (n c : Nat) (bs : List Int) (P : Nat) (Ag : Option Addr) (k cg lo hi : Nat) (gs : List Nd) (w : World) (h : Rdr g A n c bs P w) (hn : n = bs.length) (hby : BY bs) (hs : n ≤ 2000) (hP : P ≤ 800000)
    (hg : As lo hi (OwG lo hi (.slice Ag k cg) k gs) w) (hlo : g < lo) (hk1 : 1 ≤ k) (hk : k ≤ 10) :
    Calls Try.prog 106 #[.pointer (some ⟨g, 0, none⟩), .agg #[.slice Ag k cg]] w fun e w' => CsP g A n c bs (P + 30) k (k + 1) w e w' := by
  obtain ⟨i0, hi0, hz0, hz1, hz2⟩ := info_parts info_int
  have hgw := h.lt
  have hhi := hg.le
  have HN := Lib.hid hn
  have HR0 := Lib.hid (h.alloc (.cells #[.slice Ag k cg] 41))
  have HA0 := Lib.hid (hg.alloc (.cells #[.slice Ag k cg] 41))
  have HF0 := Lib.hid (Frd.of_below (g := g) (s := w.heap.size) ((Below.refl w.heap.size w).alloc (Nat.le_refl _) (.cells #[.slice Ag k cg] 41)) (Nat.le_refl _))
  clear h hn hg
  go_enter Try.func106, Try.ntmps106
  go_wp2_with fail
  refine (goodCells_any g A n c bs P Ag k cg lo hi gs _ HR0.out HN.out hby hs (by omega) HA0.out hlo hk1 hk).mono ?_
  rintro e w1 ⟨v1, xs, rfl, hx1, hx2, hown, hr1, ht1⟩
  have hs1 : w.heap.size + 1 ≤ w1.heap.size := by have := ht1.size; simpa using this
  obtain ⟨l, hl⟩ : ∃ l, l = xs.length := ⟨_, rfl⟩
  unfold OwnI at hown
  rw [← hl] at hown hx1 hx2
  have HL := Lib.hid hl
  obtain ⟨go, co, rfl⟩ := row_pos hown (by omega)
  simp only [World.size_alloc] at hown
  have HO1 := Lib.hid (OwR.start hown)
  have HR1 := Lib.hid hr1
  have HF1 := Lib.hid (HF0.out.trans (Frd.of_tch ht1 (by simp)))
  clear hown hr1 ht1 HR0 HA0 HF0 hl
  go_wp2_with fail
  refine (pick_any g A n c bs (P + 20) 24 w1 HR1.out HN.out hby hs (by omega) (by omega)).mono ?_
  rintro e w2 ⟨x, rfl, _, _, hr2, ht2⟩
  have hs2 := ht2.size
  have HR2 := Lib.hid hr2
  have HF2 := Lib.hid (HF1.out.trans (Frd.of_tch ht2 (by omega)))
  have HO2 := Lib.hid (HO1.out.keep (w' := w2) fun q hq hq' => ht2.block q hq' (.inr (by omega)))
  clear hr2 ht2 HR1 HF1 HO1
  by_cases hx0 : x = 0
  · subst hx0
    have HRb := Lib.hid (HR2.out.alloc (.cells #[.int .i64 0] 3))
    have HFb := Lib.hid (HF2.out.trans (Frd.of_below (w' := w2.alloc (.cells #[.int .i64 0] 3)) ((Below.refl w2.heap.size w2).alloc (Nat.le_refl _) _) (by omega)))
    go_wp2_with (at_builtin; refine wpList_append_own _ rfl _ _ 30 rfl (w.heap.size + 1) 3 i0 (.int .i64 0) 1 8 Try.underlying30 hi0 hz0 hz1 hz2 rfl (by decide) _ _ _ rfl (HO2.out.1.alloc _) ⟨_, 0, none⟩ 1 1 [.int .i64 0] rfl rfl (cell_one_new _ _ _) ?c2 ?c3 ?c4 ?c5 ?_)
    case c2 => first | rfl | (intro u hu; simp at hu; subst hu; rfl)
    case c3 => unfold maxLen; omega
    case c4 => omega
    case c5 => first | omega | (simp; omega)
    intro v9 w9 hown9 hgrow9 _
    have hpos := (HO2.out.1.alloc (.cells #[.int .i64 0] 3)).lt
    have hb9 : Below (w.heap.size + 1) (w2.alloc (.cells #[.int .i64 0] 3)) w9 := (Below.refl _ _).grown hgrow9 (by simp; omega) (fun q hq => (hpos q hq).1)
    have ht9 : Tch (w.heap.size + 1) (w2.heap.size + 1) (w2.alloc (.cells #[.int .i64 0] 3)) w9 := Tch.of_grown hgrow9 fun q hq => by have := hpos q hq; simp at this; omega
    have HR9 := Lib.hid (HRb.out.turn ht9 (by omega))
    have HF9 := Lib.hid (HFb.out.trans (Frd.of_below hb9 (by omega)))
    have HO9 := Lib.hid hown9
    clear hown9 hgrow9 hpos hb9 ht9
    go_wp2
    go_ret
    refine ⟨_, xs ++ [0], rfl, by rw [List.length_append, ← HL.out]; simp; omega, by rw [List.length_append, ← HL.out]; simp; omega, ?_, HR9.out.mono (by omega), HF9.out.tch⟩
    unfold OwnI
    rw [List.length_append, ← HL.out]
    exact own_mono (by simpa using HO9.out) (by omega)
  · by_cases hx1 : x = 1
    · subst hx1
      have hlp : ((l : Nat) : Int) ≤ 1000000 := by omega
      go_wp2_with fail
      refine (pick_any g A n c bs (P + 21) l w2 HR2.out HN.out hby hs (by omega) (by omega)).mono ?_
      rintro e w3 ⟨j, rfl, hj, _, hr3, ht3⟩
      have hjl : j < l := by have := hj (by omega); omega
      have hs3 := ht3.size
      have HR3 := Lib.hid (hr3.alloc (.cells #[.int .i64 (-1), .int .i64 1000, .int .i64 7] 3))
      have HF3 := Lib.hid ((HF2.out.trans (Frd.of_tch ht3 (by omega))).trans (Frd.of_below (w' := w3.alloc (.cells #[.int .i64 (-1), .int .i64 1000, .int .i64 7] 3)) ((Below.refl w3.heap.size w3).alloc (Nat.le_refl _) _) (by omega)))
      have HO3 := Lib.hid ((HO2.out.keep (w' := w3) fun q hq hq' => ht3.block q (by omega) (.inr (by omega))).keep (w' := w3.alloc (.cells #[.int .i64 (-1), .int .i64 1000, .int .i64 7] 3)) fun q hq hq' => Below.heap_alloc _ _ _ (by omega))
      clear hj hr3 ht3 HR2 HF2 HO2
      go_wp2_with fail
      refine (one_any g A n c bs (P + 22) w3.heap.size 0 3 3 [-1, 1000, 7] _ HR3.out HN.out hby hs (by omega) rfl (by omega) (by omega) ?_ (by omega) (by simp)).mono ?_
      · intro j hj
        have : j = 0 ∨ j = 1 ∨ j = 2 := by omega
        rcases this with rfl | rfl | rfl <;> go_simp
      rintro e w4 ⟨z, rfl, _, hr4, ht4⟩
      have hs4 : w3.heap.size + 1 ≤ w4.heap.size := by have := ht4.size; simpa using this
      have HR5 := Lib.hid (hr4.turn (w' := w4.setCell ⟨go, j, none⟩ (.int .i64 z)) (Tch.of_grown (grown_setCell0 w4 go j (.int .i64 z)) fun k hk => by cases hk; exact ⟨Nat.le_refl _, Nat.lt_succ_self _⟩) (by have := (HO3.out.1.lt go rfl).1; omega))
      have hol : w.heap.size + 1 ≤ go := (HO3.out.1.lt go rfl).1
      have HF5 := Lib.hid ((HF3.out.trans (Frd.of_tch ht4 (by simp; omega))).trans (Frd.of_below (w' := w4.setCell ⟨go, j, none⟩ (.int .i64 z)) ((Below.refl w.heap.size w4).setCell (by show w.heap.size ≤ go; omega) _) (Nat.le_refl _)))
      have HO5 := Lib.hid (HO3.out.keep (w' := w4) fun q hq hq' => ht4.block q (by simp; omega) (.inr (by omega)))
      have u0 := HO5.out.1.cellAt j (by omega)
      have hxl : xs.length = l := HL.out.symm
      rw [List.getElem?_eq_getElem (by rw [List.length_map]; omega)] at u0
      have f0 := HO5.out.1.frozenAt j
      have hst := (HO5.out.1.stored j (.int .i64 z)).1
      rw [← List.map_set] at hst
      have HST := Lib.hid hst
      generalize (xs.map (Value.int .i64))[j]'_ = vv at u0
      have HXL := Lib.hid hxl
      clear hr4 ht4 hst hxl
      go_wp2
      go_ret
      exact ⟨_, xs.set j z, rfl, by rw [List.length_set, HXL.out]; omega, by rw [List.length_set, HXL.out]; omega, by unfold OwnI; rw [List.length_set, HXL.out]; exact own_mono HST.out (by omega), HR5.out.mono (by omega), HF5.out.tch⟩
    · go_wp2
      go_ret
      exact ⟨_, xs, rfl, by rw [← HL.out]; omega, by rw [← HL.out]; omega, by unfold OwnI; rw [← HL.out]; exact own_mono HO2.out.1 (by omega), HR2.out.mono (by omega), HF2.out.tch⟩

/-- Returns a graph and cells in fresh blocks. -/
def GcP (g : Nat) (A : Option Addr) (n c : Nat) (bs : List Int) (Q : Nat) (w : World) (e : Ending) (w' : World) : Prop :=
  ∃ (V : Value) (k : Nat) (gs : List Nd) (v : Value) (xs : List Int), e = .returned (.tuple #[.agg #[V], v]) ∧ 2 ≤ k ∧ k ≤ 10 ∧ (∀ j, (gs.getD j default).ps.length ≤ 40) ∧ k ≤ xs.length ∧ xs.length ≤ k + 1 ∧ OwG w.heap.size w'.heap.size V k gs w' ∧ OwnI w' w.heap.size v xs ∧ Rdr g A n c bs Q w' ∧ Tch g (g + 1) w w'

set_option maxRecDepth 100000 in
set_option maxHeartbeats 3200000 in
theorem graphOf_any (g : Nat) (A : Option Addr) (n c : Nat) (bs : List Int) (P : Nat) (w : World) (h : Rdr g A n c bs P w) (hn : n = bs.length) (hby : BY bs) (hs : n ≤ 2000) (hP : P ≤ 700000) :
    Calls Try.prog 73 #[.pointer (some ⟨g, 0, none⟩)] w fun e w' => GcP g A n c bs (P + 2600) w e w' := by
  have hgw := h.lt
  have HN := Lib.hid hn
  have HR0 := Lib.hid (h.alloc (.cells #[.slice none 0 0] 41))
  clear h hn
  go_enter Try.func73, Try.ntmps73
  go_wp2_with fail
  refine (someGraph_any g A n c bs P _ HR0.out HN.out hby hs (by omega)).mono ?_
  rintro e w1 ⟨V, k, gs, rfl, hk2, hk10, hsm, hown, hr1, ht1⟩
  have hs1 : w.heap.size + 1 ≤ w1.heap.size := by have := ht1.size; simpa using this
  obtain ⟨gn, cg, rfl⟩ := hown.pos (by omega)
  simp only [World.size_alloc] at hown
  obtain ⟨bG, hbG⟩ : ∃ bG, bG = w1.heap.size := ⟨_, rfl⟩
  have HBG := Lib.hid hbG
  have k0 : w1.cell? ⟨w.heap.size, 0, none⟩ = some (.slice none 0 0) := (World.cell?_of_block (a := ⟨w.heap.size, 0, none⟩) (ht1.block w.heap.size (by simp) (.inr (by omega)))).trans (by go_simp)
  have k1 : w1.frozen? ⟨w.heap.size, 0, none⟩ = false := (World.frozen?_of_block (a := ⟨w.heap.size, 0, none⟩) (ht1.block w.heap.size (by simp) (.inr (by omega)))).trans (by go_simp)
  have HB1 : Hid (As w.heap.size (w.heap.size + 1) (fun w' => w'.cell? ⟨w.heap.size, 0, none⟩ = some (.slice none 0 0) ∧ w'.frozen? ⟨w.heap.size, 0, none⟩ = false) w1) :=
    ⟨⟨k0, k1⟩, hs1, fun w w' h hk => ⟨(World.cell?_of_block (a := ⟨_, 0, none⟩) (hk _ (Nat.le_refl _) (Nat.lt_succ_self _))).trans h.1, (World.frozen?_of_block (a := ⟨_, 0, none⟩) (hk _ (Nat.le_refl _) (Nat.lt_succ_self _))).trans h.2⟩⟩
  have HO1 : Hid (As (w.heap.size + 1) bG (OwG (w.heap.size + 1) bG (.slice (some ⟨gn, 0, none⟩) k cg) k gs) w1) := by rw [hbG]; exact graph_start hown
  have HF1 := Lib.hid ((Frd.of_below (g := g) (s := w.heap.size) ((Below.refl w.heap.size w).alloc (Nat.le_refl _) (.cells #[.slice none 0 0] 41)) (Nat.le_refl _)).trans (Frd.of_tch ht1 (by simp)))
  have HR2 := Lib.hid (hr1.alloc (.cells #[.slice (some ⟨gn, 0, none⟩) k cg] 41))
  have HO2 := Lib.hid (HO1.out.alloc (.cells #[.slice (some ⟨gn, 0, none⟩) k cg] 41))
  have HB2 := Lib.hid (HB1.out.alloc (.cells #[.slice (some ⟨gn, 0, none⟩) k cg] 41))
  have HG2 := box_new w1 (.slice (some ⟨gn, 0, none⟩) k cg) 41
  rw [← hbG] at HG2
  have HG2 := Lib.hid HG2
  have HF2 := Lib.hid (HF1.out.trans (Frd.of_below (w' := w1.alloc (.cells #[.slice (some ⟨gn, 0, none⟩) k cg] 41)) ((Below.refl w1.heap.size w1).alloc (Nat.le_refl _) _) (by omega)))
  have hz2 : bG < (w1.alloc (.cells #[.slice (some ⟨gn, 0, none⟩) k cg] 41)).heap.size := by rw [hbG]; simp
  have hsG : w.heap.size + 1 ≤ bG := by omega
  have hgG : g < bG := by omega
  clear k0 k1 HB1 HO1 HF1 HR0 hown hr1 ht1 hbG
  have q2 := HG2.out.it
  obtain ⟨p0, p1⟩ := HB2.out.it
  have hwz : w.heap.size < (w1.alloc (.cells #[.slice (some ⟨gn, 0, none⟩) k cg] 41)).heap.size := by omega
  go_wp2
  rw [← HBG.out]
  generalize w1.alloc (.cells #[.slice (some ⟨gn, 0, none⟩) k cg] 41) = W2 at *
  refine wp_region_held_drew (S := fun w' => w'.cell? ⟨bG, 0, none⟩ = some (.slice (some ⟨gn, 0, none⟩) k cg)) (by kernel_rfl) q2 (fun hHeld => ?_)
  refine wpAnyH_take (i := 0) (oi := ⟨some 7, _, _, _, _, _⟩) (v := ?_) rfl (by kernel_rfl) (by kernel_rfl) (by kernel_rfl) (fun _ _ _ h => h) (Or.inl ⟨by rfl, ?_⟩) (by assumption) ?_; rotate_left; (focus (intro w hSw; (try dsimp only at hSw); go_simp; (try with_reducible rfl))); (try simp only [Act.put, List.setIfInBounds_toArray, List.set_cons_zero, List.set_cons_succ])
  refine wpAnyH_take (i := 1) (oi := ⟨some 8, _, _, _, _, _⟩) (v := ?_) rfl (by kernel_rfl) (by kernel_rfl) (by kernel_rfl) (fun _ _ _ h => h) (Or.inl ⟨by rfl, ?_⟩) (by assumption) ?_; rotate_left; (focus (intro w hSw; (try dsimp only at hSw); go_simp; (try with_reducible rfl))); (try simp only [Act.put, List.setIfInBounds_toArray, List.set_cons_zero, List.set_cons_succ])
  refine wpAnyH_take (i := 2) (oi := ⟨some 9, _, _, _, _, _⟩) (v := ?_) rfl (by kernel_rfl) (by kernel_rfl) (by kernel_rfl) (fun _ _ _ h => h) (Or.inl ⟨by rfl, ?_⟩) (by assumption) ?_; rotate_left; (focus (intro w hSw; (try dsimp only at hSw); go_simp; (try with_reducible rfl))); (try simp only [Act.put, List.setIfInBounds_toArray, List.set_cons_zero, List.set_cons_succ])
  refine wpAnyH_ready (rs := [3]) (by kernel_rfl) (by simp) ?_; refine AllReadyH.cons (o := ⟨some 10, _, _, _, _, _⟩) rfl (fun K hK => ?_) AllReadyH.nil; go_simp
  go_at_call 106
  refine (someCells_any g A n c bs (P + 2500) (some ⟨gn, 0, none⟩) k cg (w.heap.size + 1) bG gs _ HR2.out.drew HN.out hby hs (by omega) ⟨OwG.loc _ _ _ _ _ _ _ HO2.out.it fun _ _ _ => rfl, HO2.out.le, HO2.out.loc⟩ (by omega) (by omega) hk10).mono ?_
  rintro e w5 ⟨v5, xs, rfl, hx1, hx2, hown5, hr5, ht5'⟩
  have ht5 : Tch g (g + 1) W2 w5 := ⟨ht5'.os, ht5'.tape, ht5'.output, ht5'.size, ht5'.block⟩
  have hz5 := ht5.size
  obtain ⟨A5, c5, rfl, _⟩ := OwnI.form hown5
  unfold OwnI at hown5
  have HO6 := Lib.hid (HO2.out.turn ht5 (.inl (by omega)))
  have HB6 := Lib.hid (HB2.out.turn ht5 (.inl (by omega)))
  have HG6 := Lib.hid (HG2.out.turn ht5 (.inl (by omega)))
  have HF6 := Lib.hid (HF2.out.trans (Frd.of_tch ht5 (by omega)))
  have HR6 := Lib.hid hr5
  have HC6 := Lib.hid (show w5.ownsRow W2.heap.size 3 1 (.slice A5 xs.length c5) xs.length (xs.map (Value.int .i64)) from hown5)
  have q6 := HG6.out.it
  obtain ⟨r0, r1⟩ := HB6.out.it
  have q7 : (w5.setCell ⟨w.heap.size, 0, none⟩ (.slice (some ⟨gn, 0, none⟩) k cg)).cell? ⟨bG, 0, none⟩ = some (.slice (some ⟨gn, 0, none⟩) k cg) := (World.cell?_setCell_other _ _ _ _ (by intro e; have := congrArg Addr.block e; simp at this; omega)).trans q6
  clear hown5 hr5 ht5 ht5' HO2 HB2 HG2 HF2 HR2
  refine hK.out _ _ q6 (fun hHeld => ?_); clear hK K; (try simp only [Act.put, List.setIfInBounds_toArray, List.set_cons_zero, List.set_cons_succ])
  refine wpAnyH_ready (rs := [4]) (by kernel_rfl) (by simp) ?_; refine AllReadyH.cons (o := ⟨none, _, _, _, _, _⟩) rfl (fun K hK => ?_) AllReadyH.nil; go_simp
  refine hK.out _ _ q7 (fun hHeld => ?_); clear hK K; (try simp only [Act.put, List.setIfInBounds_toArray, List.set_cons_zero, List.set_cons_succ])
  refine wpAnyH_take (i := 5) (oi := ⟨some 3, _, _, _, _, _⟩) (v := ?_) rfl (by kernel_rfl) (by kernel_rfl) (by kernel_rfl) (fun _ _ _ h => h) (Or.inl ⟨by rfl, ?_⟩) (by assumption) ?_; rotate_left; (focus (intro w hSw; (try dsimp only at hSw); go_simp; (try with_reducible rfl))); (try simp only [Act.put, List.setIfInBounds_toArray, List.set_cons_zero, List.set_cons_succ])
  refine wpAnyH_done (by kernel_rfl) ?_ _
  have r2 : (w5.setCell ⟨w.heap.size, 0, none⟩ (.slice (some ⟨gn, 0, none⟩) k cg)).cell? ⟨w.heap.size, 0, none⟩ = some (.slice (some ⟨gn, 0, none⟩) k cg) := World.cell?_setCell_same _ _ _ r0
  go_wp2
  refine bodyPost_ret (v := .tuple #[.agg #[.slice (some ⟨gn, 0, none⟩) k cg], .slice A5 xs.length c5]) (by simp [results, Try.results73, go_sem, r2]) rfl ?_
  have hsz : (w5.setCell ⟨w.heap.size, 0, none⟩ (.slice (some ⟨gn, 0, none⟩) k cg)).heap.size = w5.heap.size := by simp [World.setCell]
  refine ⟨_, k, gs, _, xs, rfl, hk2, hk10, hsm, by omega, by omega, ?_, ?_, (HR6.out.mono (by omega)).set1 hgw 0 _, (HF6.out.trans (Frd.of_below ((Below.refl w.heap.size _).setCell (p := ⟨w.heap.size, 0, none⟩) (Nat.le_refl _) _) (Nat.le_refl _))).tch⟩
  · rw [hsz]
    exact (OwG.loc _ _ _ _ _ _ _ HO6.out.it fun b x y => Below.heap_setCell _ _ _ _ (by show b ≠ w.heap.size; omega)).mono (by omega) (by omega)
  · unfold OwnI
    exact own_mono (own_keep HC6.out fun b x y => Below.heap_setCell _ _ _ _ (by show b ≠ w.heap.size; omega)) (by omega)
end Go.Proofs.Ytgbijmfmdcphhaa

/- What the law of RunsOf draws out of its bytes. -/
namespace Go.Proofs.Ytgbijmfmdcphhaa
set_option linter.unusedSimpArgs false
set_option linter.unusedVariables false
open Go.RowKit

/-- Returns a fresh reader that has not picked yet. -/
def RdP (w : World) (e : Ending) (w' : World) : Prop :=
  ∃ (g : Nat) (A : Option Addr) (n c : Nat) (bs : List Int), e = .returned (.pointer (some ⟨g, 0, none⟩)) ∧ n = bs.length ∧ n ≤ 2000 ∧ BY bs ∧ Rdr g A n c bs 0 w' ∧ w.heap.size ≤ g ∧ Below w.heap.size w w'

theorem row_form {w : World} {base n size : Nat} {e : TypeId} {v : Value} {xs : List Value} (h : w.ownsRow base e size v n xs) : ∃ A c, v = .slice A n c := by
  rcases h.2 with ⟨rfl, rfl⟩ | ⟨g, cap, cur, rfl, _⟩
  · exact ⟨none, 0, rfl⟩
  · exact ⟨some ⟨g, 0, none⟩, cap, rfl⟩

theorem BY.take {bs : List Int} (h : BY bs) (k : Nat) : BY (bs.take k) := by
  intro j
  by_cases hj : j < k
  · have : (bs.take k).getD j 0 = bs.getD j 0 := by simp only [List.getD, List.getElem?_take, if_pos hj]
    rw [this]; exact h j
  · have : (bs.take k).getD j 0 = 0 := by simp only [List.getD, List.getElem?_take, if_neg hj]; rfl
    rw [this]; omega
theorem BS.take {w : World} {B : Nat} {A : Option Addr} {bs : List Int} (h : BS w B A bs) (k : Nat) : BS w B A (bs.take k) := by
  intro hn
  rw [List.length_take] at hn
  obtain ⟨b, off, e, hb, hc⟩ := h (by omega)
  refine ⟨b, off, e, hb, fun j hj => ?_⟩
  rw [List.length_take] at hj
  have : (bs.take k).getD j 0 = bs.getD j 0 := by simp only [List.getD, List.getElem?_take, if_pos (show j < k by omega)]
  rw [this]
  exact hc j (by omega)

set_option maxHeartbeats 800000 in
theorem spec_newReader (A : Option Addr) (n c : Nat) (bs : List Int) (w : World) (B : Nat) (hB : B ≤ w.heap.size) (hn : n = bs.length) (hnc : n ≤ c) (h : BS w B A bs) (hy : BY bs) (hs : n ≤ 1048576) :
    Calls Try.prog 50 #[.slice A n c] w fun e w' => RdP w e w' := by
  by_cases h2 : 2000 < n
  · have h3 : 2000 ≤ c := by omega
    obtain ⟨b, off, rfl, hb, hc⟩ := h (by omega)
    have H := Lib.hid (BS.take (w := w) (B := B) (A := some ⟨b, off, none⟩) (bs := bs) (fun _ => ⟨b, off, rfl, hb, hc⟩) 2000)
    have HY := Lib.hid (hy.take 2000)
    have HL : Hid ((bs.take 2000).length = 2000) := by show _ = _; rw [List.length_take]; omega
    generalize bs.take 2000 = ds at *
    clear h hy hn hc
    go_enter Try.func50, Try.ntmps50
    go_wp2
    go_ret
    refine ⟨w.heap.size, some ⟨b, off, none⟩, 2000, c, ds, rfl, HL.out.symm, by omega, HY.out, ⟨by simp, by go_simp, ⟨0, Nat.le_refl _, by go_simp⟩, by go_simp, ?_⟩, ?_, ?_⟩
    · exact (H.out.keep fun p hp => World.cell?_alloc_lt w _ p (by omega)).more hB
    · exact Nat.le_refl _
    · exact (Below.refl _ _).alloc (Nat.le_refl _) _
  · have H := Lib.hid h
    have HN := Lib.hid hn
    clear h hn
    go_enter Try.func50, Try.ntmps50
    go_wp2
    go_ret
    refine ⟨w.heap.size, A, n, c, bs, rfl, HN.out, by omega, hy, ⟨by simp, by go_simp, ⟨0, Nat.le_refl _, by go_simp⟩, by go_simp, ?_⟩, ?_, ?_⟩
    · exact (H.out.keep fun p hp => World.cell?_alloc_lt w _ p (by omega)).more hB
    · exact Nat.le_refl _
    · exact (Below.refl _ _).alloc (Nat.le_refl _) _

/-- Returns a list of at most nine numbers in a fresh block, and a number. -/
def DrR (w : World) (e : Ending) (w' : World) : Prop :=
  ∃ (A : Option Addr) (c : Nat) (xs : List Int) (x : Int), e = .returned (.tuple #[.slice A xs.length c, .int .i64 x]) ∧ xs.length ≤ 9 ∧ IS w' w'.heap.size A xs ∧ Below w.heap.size w w'

end Go.Proofs.Ytgbijmfmdcphhaa

/- What the laws of promises on graphs draw: a graph, a graph and cells. -/
namespace Go.Proofs.Ytgbijmfmdcphhaa
set_option linter.unusedSimpArgs false
set_option linter.unusedVariables false
open Go.RowKit

/-- Returns a graph that lies in memory. -/
def DrG (w : World) (e : Ending) (w' : World) : Prop :=
  ∃ (A : Option Addr) (n c : Nat) (gs : List Nd), e = .returned (.agg #[.slice A n c]) ∧ n = gs.length ∧ 2 ≤ n ∧ n ≤ 10 ∧ n ≤ c ∧ (∀ j, (gs.getD j default).ps.length ≤ 40) ∧ GS w' w'.heap.size A gs ∧ Below w.heap.size w w'
/-- Returns a graph and cells that lie in memory. -/
def DrGC (w : World) (e : Ending) (w' : World) : Prop :=
  ∃ (A : Option Addr) (n c : Nat) (gs : List Nd) (E : Option Addr) (m d : Nat) (xs : List Int), e = .returned (.tuple #[.agg #[.slice A n c], .slice E m d]) ∧ n = gs.length ∧ 2 ≤ n ∧ n ≤ 10 ∧ n ≤ c ∧ (∀ j, (gs.getD j default).ps.length ≤ 40) ∧ m = xs.length ∧ n ≤ m ∧ m ≤ n + 1 ∧ m ≤ d ∧ GS w' w'.heap.size A gs ∧ IS w' w'.heap.size E xs ∧ Below w.heap.size w w'
theorem GB.of_drawn {gs : List Nd} (h : gs.length ≤ 10) (h' : ∀ j, (gs.getD j default).ps.length ≤ 40) : GB gs := ⟨by omega, fun j => by have := h' j; omega⟩
theorem own_ncap {w : World} {lo e size n c : Nat} {A : Option Addr} {xs : List Value} (h : w.ownsRow lo e size (.slice A n c) n xs) : n ≤ c := by
  rcases h.2 with ⟨hv, hz⟩ | ⟨g, cap, cur, hv, _, _, h2, _⟩
  · omega
  · simp only [Value.slice.injEq] at hv
    omega
theorem below_set0 {w w' : World} (h : Below w.heap.size w w') (v : Value) : Below w.heap.size w (w'.setCell ⟨w.heap.size, 0, none⟩ v) := h.setCell (Nat.le_refl _) _

set_option maxHeartbeats 1600000 in
theorem spec_DrawValidGraph (A : Option Addr) (n c : Nat) (bs : List Int) (w : World) (hn : n = bs.length) (hnc : n ≤ c) (h : BS w w.heap.size A bs) (hy : BY bs) (hs : n ≤ 1048576) :
    Calls Try.prog 23 #[.slice A n c] w fun e w' => DrG w e w' := by
  have h1 : BS (w.alloc (.cells #[.slice none 0 0] 41)) w.heap.size A bs := h.keep fun p hp => World.cell?_alloc_lt w _ p (by omega)
  have HC := Lib.hid (spec_newReader A n c bs _ w.heap.size (by simp) hn hnc h1 hy hs)
  clear hn hnc h h1 hy hs
  go_enter Try.func23, Try.ntmps23
  go_wp2_with fail
  refine HC.out.mono ?_
  rintro e w1 ⟨g, A1, n1, c1, ds, rfl, hn1, hn2, hy1, hr, hg, hb⟩
  have q0 : w1.cell? ⟨w.heap.size, 0, none⟩ = some (.slice none 0 0) := (hb.cell (p := ⟨w.heap.size, 0, none⟩) (by simp)).trans (by go_simp)
  have f0 : w1.frozen? ⟨w.heap.size, 0, none⟩ = false := (hb.frozen (p := ⟨w.heap.size, 0, none⟩) (by simp)).trans (by go_simp)
  have hl1 : w.heap.size < w1.heap.size := by have := hb.size; simp at this; omega
  have hgw : w.heap.size < g := by simp at hg; omega
  have HB1 := Lib.hid (((Below.refl w.heap.size w).alloc (Nat.le_refl _) (.cells #[.slice none 0 0] 41)).trans (hb.mono (by simp)))
  have HS := Lib.hid (someGraph_any g A1 n1 c1 ds 0 w1 hr hn1 hy1 hn2 (by omega))
  clear hn1 hr hb HC hy1
  go_wp2_with fail
  refine HS.out.mono ?_
  rintro e w2 ⟨V, k, gs, rfl, hk2, hk10, hsm, ho, _, ht⟩
  obtain ⟨A2, c2, rfl⟩ := ho.form
  have q1 := (World.cell?_of_block (a := ⟨w.heap.size, 0, none⟩) (ht.block w.heap.size hl1 (.inl hgw))).trans q0
  have f1 := (World.frozen?_of_block (a := ⟨w.heap.size, 0, none⟩) (ht.block w.heap.size hl1 (.inl hgw))).trans f0
  have hl2 : w.heap.size < w2.heap.size := Nat.lt_of_lt_of_le hl1 ht.size
  have HB2 := Lib.hid (HB1.out.trans (ht.below (B := w.heap.size) (by omega) (by omega)))
  have HO := Lib.hid ho
  clear ho ht q0 f0
  go_wp2
  refine bodyPost_ret (v := .agg #[.slice A2 k c2]) (by simp [results, Try.results23, go_sem, q1]) rfl ?_
  have h3 : OwG w1.heap.size w2.heap.size (.slice A2 k c2) k gs (w2.setCell ⟨w.heap.size, 0, none⟩ (.slice A2 k c2)) := OwG.loc _ _ _ _ _ _ _ HO.out fun b x y => Below.heap_setCell _ _ _ _ (by show b ≠ w.heap.size; omega)
  exact ⟨A2, k, c2, gs, rfl, h3.1, hk2, hk10, h3.ncap, hsm, h3.nodes.more (by simp [World.setCell]), below_set0 HB2.out _⟩

set_option maxHeartbeats 1600000 in
theorem spec_DrawHeightsOf (A : Option Addr) (n c : Nat) (bs : List Int) (w : World) (hn : n = bs.length) (hnc : n ≤ c) (h : BS w w.heap.size A bs) (hy : BY bs) (hs : n ≤ 1048576) :
    Calls Try.prog 32 #[.slice A n c] w fun e w' => DrG w e w' := by
  have h1 : BS (w.alloc (.cells #[.slice none 0 0] 41)) w.heap.size A bs := h.keep fun p hp => World.cell?_alloc_lt w _ p (by omega)
  have HC := Lib.hid (spec_newReader A n c bs _ w.heap.size (by simp) hn hnc h1 hy hs)
  clear hn hnc h h1 hy hs
  go_enter Try.func32, Try.ntmps32
  go_wp2_with fail
  refine HC.out.mono ?_
  rintro e w1 ⟨g, A1, n1, c1, ds, rfl, hn1, hn2, hy1, hr, hg, hb⟩
  have q0 : w1.cell? ⟨w.heap.size, 0, none⟩ = some (.slice none 0 0) := (hb.cell (p := ⟨w.heap.size, 0, none⟩) (by simp)).trans (by go_simp)
  have f0 : w1.frozen? ⟨w.heap.size, 0, none⟩ = false := (hb.frozen (p := ⟨w.heap.size, 0, none⟩) (by simp)).trans (by go_simp)
  have hl1 : w.heap.size < w1.heap.size := by have := hb.size; simp at this; omega
  have hgw : w.heap.size < g := by simp at hg; omega
  have HB1 := Lib.hid (((Below.refl w.heap.size w).alloc (Nat.le_refl _) (.cells #[.slice none 0 0] 41)).trans (hb.mono (by simp)))
  have HS := Lib.hid (someGraph_any g A1 n1 c1 ds 0 w1 hr hn1 hy1 hn2 (by omega))
  clear hn1 hr hb HC hy1
  go_wp2_with fail
  refine HS.out.mono ?_
  rintro e w2 ⟨V, k, gs, rfl, hk2, hk10, hsm, ho, _, ht⟩
  obtain ⟨A2, c2, rfl⟩ := ho.form
  have q1 := (World.cell?_of_block (a := ⟨w.heap.size, 0, none⟩) (ht.block w.heap.size hl1 (.inl hgw))).trans q0
  have f1 := (World.frozen?_of_block (a := ⟨w.heap.size, 0, none⟩) (ht.block w.heap.size hl1 (.inl hgw))).trans f0
  have hl2 : w.heap.size < w2.heap.size := Nat.lt_of_lt_of_le hl1 ht.size
  have HB2 := Lib.hid (HB1.out.trans (ht.below (B := w.heap.size) (by omega) (by omega)))
  have HO := Lib.hid ho
  clear ho ht q0 f0
  go_wp2
  refine bodyPost_ret (v := .agg #[.slice A2 k c2]) (by simp [results, Try.results32, go_sem, q1]) rfl ?_
  have h3 : OwG w1.heap.size w2.heap.size (.slice A2 k c2) k gs (w2.setCell ⟨w.heap.size, 0, none⟩ (.slice A2 k c2)) := OwG.loc _ _ _ _ _ _ _ HO.out fun b x y => Below.heap_setCell _ _ _ _ (by show b ≠ w.heap.size; omega)
  exact ⟨A2, k, c2, gs, rfl, h3.1, hk2, hk10, h3.ncap, hsm, h3.nodes.more (by simp [World.setCell]), below_set0 HB2.out _⟩

set_option maxHeartbeats 1600000 in
theorem spec_DrawValidCells (A : Option Addr) (n c : Nat) (bs : List Int) (w : World) (hn : n = bs.length) (hnc : n ≤ c) (h : BS w w.heap.size A bs) (hy : BY bs) (hs : n ≤ 1048576) :
    Calls Try.prog 26 #[.slice A n c] w fun e w' => DrGC w e w' := by
  have h1 : BS (w.alloc (.cells #[.slice none 0 0] 41)) w.heap.size A bs := h.keep fun p hp => World.cell?_alloc_lt w _ p (by omega)
  have HC := Lib.hid (spec_newReader A n c bs _ w.heap.size (by simp) hn hnc h1 hy hs)
  clear hn hnc h h1 hy hs
  go_enter Try.func26, Try.ntmps26
  go_wp2_with fail
  refine HC.out.mono ?_
  rintro e w1 ⟨g, A1, n1, c1, ds, rfl, hn1, hn2, hy1, hr, hg, hb⟩
  have q0 : w1.cell? ⟨w.heap.size, 0, none⟩ = some (.slice none 0 0) := (hb.cell (p := ⟨w.heap.size, 0, none⟩) (by simp)).trans (by go_simp)
  have f0 : w1.frozen? ⟨w.heap.size, 0, none⟩ = false := (hb.frozen (p := ⟨w.heap.size, 0, none⟩) (by simp)).trans (by go_simp)
  have hl1 : w.heap.size < w1.heap.size := by have := hb.size; simp at this; omega
  have hgw : w.heap.size < g := by simp at hg; omega
  have HB1 := Lib.hid (((Below.refl w.heap.size w).alloc (Nat.le_refl _) (.cells #[.slice none 0 0] 41)).trans (hb.mono (by simp)))
  have HS := Lib.hid (graphOf_any g A1 n1 c1 ds 0 w1 hr hn1 hy1 hn2 (by omega))
  clear hn1 hr hb HC hy1
  go_wp2_with fail
  refine HS.out.mono ?_
  rintro e w2 ⟨V, k, gs, v3, xs, rfl, hk2, hk10, hsm, hx1, hx2, ho, ho3, _, ht⟩
  obtain ⟨A2, c2, rfl⟩ := ho.form
  obtain ⟨A3, c3, rfl, _⟩ := OwnI.form ho3
  unfold OwnI at ho3
  have q1 := (World.cell?_of_block (a := ⟨w.heap.size, 0, none⟩) (ht.block w.heap.size hl1 (.inl hgw))).trans q0
  have f1 := (World.frozen?_of_block (a := ⟨w.heap.size, 0, none⟩) (ht.block w.heap.size hl1 (.inl hgw))).trans f0
  have hl2 : w.heap.size < w2.heap.size := Nat.lt_of_lt_of_le hl1 ht.size
  have HB2 := Lib.hid (HB1.out.trans (ht.below (B := w.heap.size) (by omega) (by omega)))
  have HO := Lib.hid ho
  have HO3 := Lib.hid ho3
  clear ho ht q0 f0 ho3
  go_wp2
  refine bodyPost_ret (v := .tuple #[.agg #[.slice A2 k c2], .slice A3 xs.length c3]) (by simp [results, Try.results26, go_sem, q1]) rfl ?_
  have h3 : OwG w1.heap.size w2.heap.size (.slice A2 k c2) k gs (w2.setCell ⟨w.heap.size, 0, none⟩ (.slice A2 k c2)) := OwG.loc _ _ _ _ _ _ _ HO.out fun b x y => Below.heap_setCell _ _ _ _ (by show b ≠ w.heap.size; omega)
  have h4 : (w2.setCell ⟨w.heap.size, 0, none⟩ (.slice A2 k c2)).ownsRow w1.heap.size 3 1 (.slice A3 xs.length c3) xs.length (xs.map (Value.int .i64)) := own_keep HO3.out fun b x y => Below.heap_setCell _ _ _ _ (by show b ≠ w.heap.size; omega)
  exact ⟨A2, k, c2, gs, A3, xs.length, c3, xs, rfl, h3.1, hk2, hk10, h3.ncap, hsm, rfl, hx1, hx2, own_ncap h4, h3.nodes.more (by simp [World.setCell]), IS.of_own h4, below_set0 HB2.out _⟩

set_option maxHeartbeats 1600000 in
theorem spec_DrawMeaningOf (A : Option Addr) (n c : Nat) (bs : List Int) (w : World) (hn : n = bs.length) (hnc : n ≤ c) (h : BS w w.heap.size A bs) (hy : BY bs) (hs : n ≤ 1048576) :
    Calls Try.prog 29 #[.slice A n c] w fun e w' => DrGC w e w' := by
  have h1 : BS (w.alloc (.cells #[.slice none 0 0] 41)) w.heap.size A bs := h.keep fun p hp => World.cell?_alloc_lt w _ p (by omega)
  have HC := Lib.hid (spec_newReader A n c bs _ w.heap.size (by simp) hn hnc h1 hy hs)
  clear hn hnc h h1 hy hs
  go_enter Try.func29, Try.ntmps29
  go_wp2_with fail
  refine HC.out.mono ?_
  rintro e w1 ⟨g, A1, n1, c1, ds, rfl, hn1, hn2, hy1, hr, hg, hb⟩
  have q0 : w1.cell? ⟨w.heap.size, 0, none⟩ = some (.slice none 0 0) := (hb.cell (p := ⟨w.heap.size, 0, none⟩) (by simp)).trans (by go_simp)
  have f0 : w1.frozen? ⟨w.heap.size, 0, none⟩ = false := (hb.frozen (p := ⟨w.heap.size, 0, none⟩) (by simp)).trans (by go_simp)
  have hl1 : w.heap.size < w1.heap.size := by have := hb.size; simp at this; omega
  have hgw : w.heap.size < g := by simp at hg; omega
  have HB1 := Lib.hid (((Below.refl w.heap.size w).alloc (Nat.le_refl _) (.cells #[.slice none 0 0] 41)).trans (hb.mono (by simp)))
  have HS := Lib.hid (graphOf_any g A1 n1 c1 ds 0 w1 hr hn1 hy1 hn2 (by omega))
  clear hn1 hr hb HC hy1
  go_wp2_with fail
  refine HS.out.mono ?_
  rintro e w2 ⟨V, k, gs, v3, xs, rfl, hk2, hk10, hsm, hx1, hx2, ho, ho3, _, ht⟩
  obtain ⟨A2, c2, rfl⟩ := ho.form
  obtain ⟨A3, c3, rfl, _⟩ := OwnI.form ho3
  unfold OwnI at ho3
  have q1 := (World.cell?_of_block (a := ⟨w.heap.size, 0, none⟩) (ht.block w.heap.size hl1 (.inl hgw))).trans q0
  have f1 := (World.frozen?_of_block (a := ⟨w.heap.size, 0, none⟩) (ht.block w.heap.size hl1 (.inl hgw))).trans f0
  have hl2 : w.heap.size < w2.heap.size := Nat.lt_of_lt_of_le hl1 ht.size
  have HB2 := Lib.hid (HB1.out.trans (ht.below (B := w.heap.size) (by omega) (by omega)))
  have HO := Lib.hid ho
  have HO3 := Lib.hid ho3
  clear ho ht q0 f0 ho3
  go_wp2
  refine bodyPost_ret (v := .tuple #[.agg #[.slice A2 k c2], .slice A3 xs.length c3]) (by simp [results, Try.results29, go_sem, q1]) rfl ?_
  have h3 : OwG w1.heap.size w2.heap.size (.slice A2 k c2) k gs (w2.setCell ⟨w.heap.size, 0, none⟩ (.slice A2 k c2)) := OwG.loc _ _ _ _ _ _ _ HO.out fun b x y => Below.heap_setCell _ _ _ _ (by show b ≠ w.heap.size; omega)
  have h4 : (w2.setCell ⟨w.heap.size, 0, none⟩ (.slice A2 k c2)).ownsRow w1.heap.size 3 1 (.slice A3 xs.length c3) xs.length (xs.map (Value.int .i64)) := own_keep HO3.out fun b x y => Below.heap_setCell _ _ _ _ (by show b ≠ w.heap.size; omega)
  exact ⟨A2, k, c2, gs, A3, xs.length, c3, xs, rfl, h3.1, hk2, hk10, h3.ncap, hsm, rfl, hx1, hx2, own_ncap h4, h3.nodes.more (by simp [World.setCell]), IS.of_own h4, below_set0 HB2.out _⟩

set_option maxHeartbeats 1600000 in
theorem spec_DrawDepsOf (A : Option Addr) (n c : Nat) (bs : List Int) (w : World) (hn : n = bs.length) (hnc : n ≤ c) (h : BS w w.heap.size A bs) (hy : BY bs) (hs : n ≤ 1048576) :
    Calls Try.prog 37 #[.slice A n c] w fun e w' => DrGC w e w' := by
  have h1 : BS (w.alloc (.cells #[.slice none 0 0] 41)) w.heap.size A bs := h.keep fun p hp => World.cell?_alloc_lt w _ p (by omega)
  have HC := Lib.hid (spec_newReader A n c bs _ w.heap.size (by simp) hn hnc h1 hy hs)
  clear hn hnc h h1 hy hs
  go_enter Try.func37, Try.ntmps37
  go_wp2_with fail
  refine HC.out.mono ?_
  rintro e w1 ⟨g, A1, n1, c1, ds, rfl, hn1, hn2, hy1, hr, hg, hb⟩
  have q0 : w1.cell? ⟨w.heap.size, 0, none⟩ = some (.slice none 0 0) := (hb.cell (p := ⟨w.heap.size, 0, none⟩) (by simp)).trans (by go_simp)
  have f0 : w1.frozen? ⟨w.heap.size, 0, none⟩ = false := (hb.frozen (p := ⟨w.heap.size, 0, none⟩) (by simp)).trans (by go_simp)
  have hl1 : w.heap.size < w1.heap.size := by have := hb.size; simp at this; omega
  have hgw : w.heap.size < g := by simp at hg; omega
  have HB1 := Lib.hid (((Below.refl w.heap.size w).alloc (Nat.le_refl _) (.cells #[.slice none 0 0] 41)).trans (hb.mono (by simp)))
  have HS := Lib.hid (graphOf_any g A1 n1 c1 ds 0 w1 hr hn1 hy1 hn2 (by omega))
  clear hn1 hr hb HC hy1
  go_wp2_with fail
  refine HS.out.mono ?_
  rintro e w2 ⟨V, k, gs, v3, xs, rfl, hk2, hk10, hsm, hx1, hx2, ho, ho3, _, ht⟩
  obtain ⟨A2, c2, rfl⟩ := ho.form
  obtain ⟨A3, c3, rfl, _⟩ := OwnI.form ho3
  unfold OwnI at ho3
  have q1 := (World.cell?_of_block (a := ⟨w.heap.size, 0, none⟩) (ht.block w.heap.size hl1 (.inl hgw))).trans q0
  have f1 := (World.frozen?_of_block (a := ⟨w.heap.size, 0, none⟩) (ht.block w.heap.size hl1 (.inl hgw))).trans f0
  have hl2 : w.heap.size < w2.heap.size := Nat.lt_of_lt_of_le hl1 ht.size
  have HB2 := Lib.hid (HB1.out.trans (ht.below (B := w.heap.size) (by omega) (by omega)))
  have HO := Lib.hid ho
  have HO3 := Lib.hid ho3
  clear ho ht q0 f0 ho3
  go_wp2
  refine bodyPost_ret (v := .tuple #[.agg #[.slice A2 k c2], .slice A3 xs.length c3]) (by simp [results, Try.results37, go_sem, q1]) rfl ?_
  have h3 : OwG w1.heap.size w2.heap.size (.slice A2 k c2) k gs (w2.setCell ⟨w.heap.size, 0, none⟩ (.slice A2 k c2)) := OwG.loc _ _ _ _ _ _ _ HO.out fun b x y => Below.heap_setCell _ _ _ _ (by show b ≠ w.heap.size; omega)
  have h4 : (w2.setCell ⟨w.heap.size, 0, none⟩ (.slice A2 k c2)).ownsRow w1.heap.size 3 1 (.slice A3 xs.length c3) xs.length (xs.map (Value.int .i64)) := own_keep HO3.out fun b x y => Below.heap_setCell _ _ _ _ (by show b ≠ w.heap.size; omega)
  exact ⟨A2, k, c2, gs, A3, xs.length, c3, xs, rfl, h3.1, hk2, hk10, h3.ncap, hsm, rfl, hx1, hx2, own_ncap h4, h3.nodes.more (by simp [World.setCell]), IS.of_own h4, below_set0 HB2.out _⟩

end Go.Proofs.Ytgbijmfmdcphhaa

/- The standing contracts of RunsOf. -/
namespace Go.Proofs.Ytgbijmfmdcphhaa
set_option linter.unusedSimpArgs false
set_option linter.unusedVariables false
open Go.RowKit

/-- How often a number is in a list. -/
def cnt (xs : List Int) (y : Int) : Nat := xs.countP (fun x => x == y)
def runsF (xs : List Int) (y : Int) : Int := (cnt xs y : Int)

theorem cnt_le (xs : List Int) (y : Int) : cnt xs y ≤ xs.length := List.countP_le_length
theorem cnt_take_yes (xs : List Int) (y : Int) (k : Nat) (h : k < xs.length) (hy : (xs.getD k 0 == y) = true) : cnt (xs.take (k + 1)) y = cnt (xs.take k) y + 1 := by
  have hg : xs[k] = xs.getD k 0 := by simp [List.getD, h]
  unfold cnt
  rw [List.take_succ_eq_append_getElem h, List.countP_append, hg]
  simp only [List.countP_cons, List.countP_nil, hy]
  simp
theorem cnt_take_no (xs : List Int) (y : Int) (k : Nat) (h : k < xs.length) (hy : (xs.getD k 0 == y) = false) : cnt (xs.take (k + 1)) y = cnt (xs.take k) y := by
  have hg : xs[k] = xs.getD k 0 := by simp [List.getD, h]
  unfold cnt
  rw [List.take_succ_eq_append_getElem h, List.countP_append, hg]
  simp only [List.countP_cons, List.countP_nil, hy]
  simp

end Go.Proofs.Ytgbijmfmdcphhaa

/- Plain facts: runs of all numbers together are as many as the list is long. -/
namespace Go.Proofs.Ytgbijmfmdcphhaa
set_option linter.unusedSimpArgs false
set_option linter.unusedVariables false

/-- The runs of the numbers that come first among the first i. -/
def sumF (xs : List Int) : Nat → Nat
  | 0 => 0
  | i + 1 => if plc xs (xs.getD i 0) == (i : Int) then sumF xs i + cnt xs (xs.getD i 0) else sumF xs i

theorem countP_lt_succ (f : Nat → Nat) (i : Nat) (l : List Nat) : l.countP (fun t => decide (f t < i + 1)) = l.countP (fun t => decide (f t < i)) + l.countP (fun t => f t == i) := by
  induction l with
  | nil => rfl
  | cons t l ih =>
    simp only [List.countP_cons, ih]
    rcases Nat.lt_trichotomy (f t) i with h | h | h
    · have h1 : decide (f t < i + 1) = true := by simp; omega
      have h2 : decide (f t < i) = true := by simp; omega
      have h3 : (f t == i) = false := by simp; omega
      simp only [h1, h2, h3]; simp; omega
    · have h1 : decide (f t < i + 1) = true := by simp; omega
      have h2 : decide (f t < i) = false := by simp; omega
      have h3 : (f t == i) = true := by simp; omega
      simp only [h1, h2, h3]; simp; omega
    · have h1 : decide (f t < i + 1) = false := by simp; omega
      have h2 : decide (f t < i) = false := by simp; omega
      have h3 : (f t == i) = false := by simp; omega
      simp only [h1, h2, h3]; simp

theorem cnt_range (xs : List Int) (y : Int) : (List.range xs.length).countP (fun t => xs.getD t 0 == y) = cnt xs y := by
  have h : xs = (List.range xs.length).map fun t => xs.getD t 0 := by
    apply List.ext_getElem (by simp)
    intro i h1 h2
    simp [List.getD, h1]
  unfold cnt
  rw [show xs.countP (fun x => x == y) = ((List.range xs.length).map fun t => xs.getD t 0).countP (fun x => x == y) from congrArg _ h, List.countP_map]
  rfl

theorem idx_le (xs : List Int) (t : Nat) (h : t < xs.length) : xs.idxOf (xs.getD t 0) < xs.length := List.idxOf_lt_length_of_mem (by simp [List.getD, h])
theorem idx_get (xs : List Int) (y : Int) (h : xs.idxOf y < xs.length) : xs.getD (xs.idxOf y) 0 = y := by
  simp [List.getD, h]

theorem sumF_eq (xs : List Int) : ∀ i, i ≤ xs.length → sumF xs i = (List.range xs.length).countP (fun t => decide (xs.idxOf (xs.getD t 0) < i)) := by
  intro i
  induction i with
  | zero => intro _; simp [sumF]
  | succ i ih =>
    intro hi
    have hm : xs.getD i 0 ∈ xs := by simp [List.getD, show i < xs.length by omega]
    have hp : plc xs (xs.getD i 0) = (xs.idxOf (xs.getD i 0) : Int) := by unfold plc; rw [if_pos hm]
    rw [countP_lt_succ (fun t => xs.idxOf (xs.getD t 0)) i, ← ih (by omega)]
    show (if plc xs (xs.getD i 0) == (i : Int) then sumF xs i + cnt xs (xs.getD i 0) else sumF xs i) = _
    by_cases h : xs.idxOf (xs.getD i 0) = i
    · have h1 : (plc xs (xs.getD i 0) == (i : Int)) = true := by rw [hp, h]; exact beq_self_eq_true _
      rw [if_pos h1, ← cnt_range]
      congr 1
      apply List.countP_congr
      intro t ht
      have ht' := List.mem_range.1 ht
      simp only [beq_iff_eq]
      constructor
      · intro e; rw [e]; exact h
      · intro e
        have := idx_get xs (xs.getD t 0) (idx_le xs t ht')
        rw [e] at this
        exact this.symm
    · have h1 : ¬ (plc xs (xs.getD i 0) == (i : Int)) = true := by rw [hp, beq_iff_eq]; omega
      rw [if_neg h1]
      have h0 : (List.range xs.length).countP (fun t => xs.idxOf (xs.getD t 0) == i) = 0 := by
        rw [List.countP_eq_zero]
        intro t ht
        have ht' := List.mem_range.1 ht
        simp only [beq_iff_eq]
        intro e
        apply h
        have := idx_get xs (xs.getD t 0) (idx_le xs t ht')
        rw [e] at this
        rw [this]; exact e
      omega

theorem sumF_all (xs : List Int) : sumF xs xs.length = xs.length := by
  rw [sumF_eq xs _ (Nat.le_refl _)]
  have : (List.range xs.length).countP (fun t => decide (xs.idxOf (xs.getD t 0) < xs.length)) = (List.range xs.length).length := by
    rw [List.countP_eq_length]
    intro t ht
    have ht' := List.mem_range.1 ht
    exact decide_eq_true (idx_le xs t ht')
  rw [this]; simp

theorem sumF_le (xs : List Int) (i : Nat) (h : i ≤ xs.length) : sumF xs i ≤ xs.length := by
  rw [sumF_eq xs i h]
  have := List.countP_le_length (p := fun t => decide (xs.idxOf (xs.getD t 0) < i)) (l := List.range xs.length)
  simpa using this

theorem runs_pos (xs : List Int) (y : Int) : decide (runsF xs y > 0) = decide (y ∈ xs) := by
  unfold runsF cnt
  have : 0 < xs.countP (fun x => x == y) ↔ y ∈ xs := by
    rw [List.countP_pos_iff]
    constructor
    · rintro ⟨a, ha, he⟩; simp at he; rw [← he]; exact ha
    · intro h; exact ⟨y, h, by simp⟩
  by_cases h : y ∈ xs
  · have := this.2 h
    rw [decide_eq_true h, decide_eq_true (by omega)]
  · have h2 : ¬ 0 < xs.countP (fun x => x == y) := fun e => h (this.1 e)
    rw [decide_eq_false h, decide_eq_false (by omega)]
end Go.Proofs.Ytgbijmfmdcphhaa

/- laws.FnRunsOf returns true for all bytes, and writes nothing that was there. -/
namespace Go.Proofs.Ytgbijmfmdcphhaa
set_option linter.unusedSimpArgs false
set_option linter.unusedVariables false
open Go.RowKit

set_option maxHeartbeats 800000 in
theorem laws_isIn (A : Option Addr) (n c : Nat) (xs : List Int) (x : Int) (w : World) (B : Nat) (hB : B ≤ w.heap.size) (hn : n = xs.length) (h : IS w B A xs) (hs : n ≤ 2000000) :
    Calls Try.prog 41 #[.slice A n c, .int .i64 x] w fun e w' => e = .returned (.bool (decide (x ∈ xs))) ∧ w = w' := by
  have H := Lib.hid h
  have HN := Lib.hid hn
  clear hn h
  go_enter Try.func41, Try.ntmps41
  go_wp2
  go_loop [5] (fun i => ∃ k : Nat, k ≤ n ∧ i = .int .i64 k ∧ Hid (∀ j, j < k → xs.getD j 0 ≠ x)) (fun i => n - (intOf i).toNat)
  case atStart => exact ⟨0, Nat.zero_le _, rfl, fun j hj => by omega⟩
  case round =>
    obtain ⟨k, hk, rfl, HA⟩ := hrel
    by_cases hlt : k < n
    · obtain ⟨b, off, rfl, hbB, hc⟩ := H.out (by have := HN.out; omega)
      have c0 := hc k (by have := HN.out; omega)
      clear hc H
      generalize hp : xs.getD k 0 = p at *
      have HP := Lib.hid hp
      clear hp
      cases hr : (p == x)
      · have HR := Lib.hid hr
        go_wp2
        go_round
        case rel => exact ⟨k + 1, by omega, by go_num, fun j hj => by
          rcases Nat.lt_or_ge j k with h1 | h1
          · exact HA.out j h1
          · obtain rfl : j = k := by omega
            rw [HP.out]; simpa using HR.out⟩
        case measure => simp [intOf]; omega
      · have HR := Lib.hid hr
        go_wp2
        go_ret
        refine ⟨ret_b ?_, rfl⟩
        symm
        apply decide_eq_true
        have h1 : k < xs.length := by have := HN.out; omega
        have h2 := HP.out
        have h3 : p = x := by simpa using HR.out
        rw [← h3, ← h2]
        simp [List.getD, h1]
    · go_wp2
      go_ret
      refine ⟨ret_b ?_, rfl⟩
      symm
      apply decide_eq_false
      intro hm
      obtain ⟨j, hj, he⟩ := List.mem_iff_getElem.1 hm
      exact HA.out j (by have := HN.out; omega) (by simp [List.getD, hj, he])

end Go.Proofs.Ytgbijmfmdcphhaa

/- What the laws of promises draw: a formula, a formula and values; and the laws' own helpers on lists. -/
namespace Go.Proofs.Ytgbijmfmdcphhaa
set_option linter.unusedSimpArgs false
set_option linter.unusedVariables false
open Go.RowKit

/-- Returns a formula of some parts that lies in memory. -/
def DrF (w : World) (e : Ending) (w' : World) : Prop :=
  ∃ (A : Option Addr) (n c : Nat) (ps : List Pt), e = .returned (.agg #[.slice A n c]) ∧ n = ps.length ∧ 1 ≤ n ∧ n ≤ 41 ∧ PS w' w'.heap.size A ps ∧ Below w.heap.size w w'
/-- Not in a block that was there. -/
def FA (w : World) (A : Option Addr) : Prop := ∀ b off, A = some ⟨b, off, none⟩ → w.heap.size ≤ b
/-- Returns a formula and values that lie in memory. -/
def DrFV (w : World) (e : Ending) (w' : World) : Prop :=
  ∃ (A : Option Addr) (n c : Nat) (ps : List Pt) (E : Option Addr) (m d : Nat) (xs : List Int), e = .returned (.tuple #[.agg #[.slice A n c], .slice E m d]) ∧ n = ps.length ∧ 1 ≤ n ∧ n ≤ 41 ∧ m = xs.length ∧ 3 ≤ m ∧ m ≤ 10 ∧ PS w' w'.heap.size A ps ∧ IS w' w'.heap.size E xs ∧ FA w A ∧ FA w E ∧ Below w.heap.size w w'

theorem PS.set0 {w : World} {B g : Nat} {A : Option Addr} {ps : List Pt} (h : PS w B A ps) (hne : ∀ b off, A = some ⟨b, off, none⟩ → b ≠ g) (j : Nat) (x : Value) : PS (w.setCell ⟨g, j, none⟩ x) B A ps := by
  intro hn
  obtain ⟨b, off, e, hb, hc⟩ := h hn
  have hbg := hne b off e
  have k : ∀ i : Nat, (w.setCell ⟨g, j, none⟩ x).cell? ⟨b, i, none⟩ = w.cell? ⟨b, i, none⟩ := fun i => World.cell?_setCell_other _ _ _ _ (by intro e; cases e; exact hbg rfl)
  refine ⟨b, off, e, hb, fun i hi => ?_⟩
  obtain ⟨a0, a1, a2, a3, a4⟩ := hc i hi
  exact ⟨(k _).trans a0, (k _).trans a1, (k _).trans a2, (k _).trans a3, (k _).trans a4⟩
theorem IS.set0 {w : World} {B g : Nat} {A : Option Addr} {xs : List Int} (h : IS w B A xs) (hne : ∀ b off, A = some ⟨b, off, none⟩ → b ≠ g) (j : Nat) (x : Value) : IS (w.setCell ⟨g, j, none⟩ x) B A xs := by
  intro hn
  obtain ⟨b, off, e, hb, hc⟩ := h hn
  have hbg := hne b off e
  exact ⟨b, off, e, hb, fun i hi => (World.cell?_setCell_other _ _ _ _ (by intro e; cases e; exact hbg rfl)).trans (hc i hi)⟩
theorem own_far {w : World} {base e size n c g : Nat} {A : Option Addr} {xs : List Value} (h : w.ownsRow base e size (.slice A n c) n xs) (hg : g < base) : ∀ b off, A = some ⟨b, off, none⟩ → b ≠ g := by
  rintro b off rfl
  have := (h.lt b rfl).1
  omega

theorem own_far' {w : World} {base e size n c : Nat} {A : Option Addr} {xs : List Value} (h : w.ownsRow base e size (.slice A n c) n xs) : ∀ b off, A = some ⟨b, off, none⟩ → base ≤ b := by
  rintro b off rfl
  exact (h.lt b rfl).1

end Go.Proofs.Ytgbijmfmdcphhaa
