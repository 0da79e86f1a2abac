/- The standing contracts of NewHistory. -/
import Derived.Test.YtlliomnfbgdpfaaJ4
import Derived.Test.YtlliomnfbgdpfaaS3

namespace Go.Proofs.Ytlliomnfbgdpfaa
set_option linter.unusedSimpArgs false
set_option linter.unusedVariables false
open Go.RowKit

def newH (gs : List Nd) (xs : List Int) : Hi := if okC gs xs then ⟨[xs], 0⟩ else ⟨[], 0⟩
theorem newH_HB (gs : List Nd) (xs : List Int) : HiB (newH gs xs) := by
  unfold newH
  cases h : okC gs xs
  · exact HiB.of_hsz (by simp [hsz])
  · have h1 := (okC_parts gs xs h)
    have h2 := (validC_parts gs xs h1.2).1
    have h3 := (validG_parts gs h1.1).1
    exact HiB.of_hsz (by simp [hsz]; omega)

theorem SSk.one {lo hi g m c : Nat} {D : List Int} {w : World} (hd : w.ownsRow lo 3 1 (.slice (some ⟨g, 0, none⟩) m c) m (D.map (Value.int .i64))) (hm : m = D.length) (hg : g < hi) : SSk lo hi [.slice (some ⟨g, 0, none⟩) m c] (lenOf [D]) (rowOf [D]) w := by
  refine ⟨fun j hj => ?_, fun i j v u k hij h1 h2 _ => ?_⟩
  · obtain rfl : j = 0 := by simp at hj; omega
    exact ⟨_, m, c, rfl, by simp [lenOf, List.getD]; exact hm, by simpa [rowOf, List.getD] using hd, fun k hk => by cases hk; exact hg⟩
  · have a1 : i = 0 := by
      rcases i with _ | i
      · rfl
      · simp at h1
    have a2 : j = 0 := by
      rcases j with _ | j
      · rfl
      · simp at h2
    omega

/-- A row of one list that the call has just made. -/
theorem OwSS.one {lo g m c : Nat} {D : List Int} {w : World} (hd : w.ownsRow lo 3 1 (.slice (some ⟨g, 0, none⟩) m c) m (D.map (Value.int .i64))) (hm : m = D.length) (hlo : lo ≤ w.heap.size) : OwSS lo (w.heap.size + 1) (.slice (some ⟨w.heap.size, 0, none⟩) 1 1) 1 [D] (w.alloc (.cells #[.slice (some ⟨g, 0, none⟩) m c] 40)) := by
  have hl := (hd.lt g rfl).2
  refine ⟨by simp, [.slice (some ⟨g, 0, none⟩) m c], ?_, SSk.one (World.ownsRow.alloc hd _) hm (by omega)⟩
  have := OwR.start (World.ownsRow_lit (e := 40) (size := 1) (base := lo) w #[.slice (some ⟨g, 0, none⟩) m c] 1 hlo (by unfold maxLen; omega) rfl)
  simpa using this

set_option maxRecDepth 100000 in
set_option maxHeartbeats 1600000 in
theorem top_spec_NewHistory (gs : List Nd) (xs : List Int) (hG : GB gs) (hL : xs.length ≤ 1048576) : ∀ (A : Option Addr) (n c : Nat) (A' : Option Addr) (m c' : Nat) (w : World), n = gs.length → n ≤ c → GS w w.heap.size A gs → m = xs.length → IS w w.heap.size A' xs →
    Calls Try.prog 16 #[.agg #[.slice A n c], .slice A' m c'] w fun e w' => RetH w (newH gs xs) e w' := by
  intro A n c A' m c' w hn hnc h hm h'
  have hm1 : m ≤ 2000000 := by omega
  have H := Lib.hid h
  have HX := Lib.hid h'
  have HM := Lib.hid hm
  have HC := Lib.hid fun (w' : World) (hB : w.heap.size ≤ w'.heap.size) (h : GS w' w.heap.size A gs) => spec_validGraph A n c gs w' w.heap.size hB hn h hG
  have HD := Lib.hid fun (w' : World) (hB : w.heap.size ≤ w'.heap.size) (h : GS w' w.heap.size A gs) (h' : IS w' w.heap.size A' xs) => spec_validCells A A' n c m c' gs xs w' w.heap.size hB hn hm h h' (by have := hG.1; omega) hm1
  have HCP := Lib.hid fun (w' : World) (hB : w.heap.size ≤ w'.heap.size) (h : IS w' w.heap.size A' xs) => spec_copyIntsA A' m c' xs w' w.heap.size hB hm h hm1
  have hf : newH gs xs = if validG gs && validC gs xs then ⟨[xs], 0⟩ else ⟨[], 0⟩ := rfl
  rw [hf]
  generalize validG gs = r at *
  generalize validC gs xs = s at *
  clear hf h h' hn hm hG
  obtain ⟨W2, hW2⟩ : ∃ W, W = (w.alloc (.cells #[.slice A n c] 33)).alloc (.cells #[.slice none 0 0, .int .i64 0] 35) := ⟨_, rfl⟩
  have hb2 : Below w.heap.size w W2 := by rw [hW2]; exact ((Below.refl _ _).alloc (Nat.le_refl _) _).alloc (by simp) _
  have hs2 : W2.heap.size = w.heap.size + 2 := by rw [hW2]; simp
  have q0 : W2.cell? ⟨w.heap.size, 0, none⟩ = some (.slice A n c) := by rw [hW2]; go_simp
  have q1 : W2.cell? ⟨w.heap.size + 1, 0, none⟩ = some (.slice none 0 0) := by rw [hW2]; go_simp
  have q2 : W2.cell? ⟨w.heap.size + 1, 1, none⟩ = some (.int .i64 0) := by rw [hW2]; go_simp
  have f1 : W2.frozen? ⟨w.heap.size + 1, 0, none⟩ = false := by rw [hW2]; go_simp
  have f2 : W2.frozen? ⟨w.heap.size + 1, 1, none⟩ = false := by rw [hW2]; go_simp
  have HB2 := Lib.hid hb2
  have HG2 := Lib.hid (H.out.below hb2 (Nat.le_refl _))
  have HX2 := Lib.hid (HX.out.below hb2 (Nat.le_refl _))
  have HQ := Lib.hid (And.intro q0 (And.intro q1 (And.intro q2 (And.intro f1 f2))))
  have HC2 := Lib.hid (HC.out W2 (by omega) HG2.out)
  have hs3 : w.heap.size + 2 ≤ W2.heap.size := by omega
  rw [hW2] at HC2
  have HW2 := Lib.hid hW2
  clear hW2 hb2 hs2 q0 q1 q2 f1 f2 HC
  cases r
  · go_enter Try.func16, Try.ntmps16
    go_wp2_with fail
    refine HC2.out.mono ?_
    rw [← HW2.out]
    rintro e w1 ⟨rfl, hb⟩
    have r1 := (hb.cell (p := ⟨w.heap.size + 1, 0, none⟩) (by simp; omega)).trans HQ.out.2.1
    have r2 := (hb.cell (p := ⟨w.heap.size + 1, 1, none⟩) (by simp; omega)).trans HQ.out.2.2.1
    have g1 := (hb.frozen (p := ⟨w.heap.size + 1, 0, none⟩) (by simp; omega)).trans HQ.out.2.2.2.1
    have g2 := (hb.frozen (p := ⟨w.heap.size + 1, 1, none⟩) (by simp; omega)).trans HQ.out.2.2.2.2
    have hs1 := hb.size
    have HB1 := Lib.hid (HB2.out.trans (hb.mono (by omega)))
    clear hb
    go_wp2
    refine bodyPost_ret (v := .agg #[.slice none 0 0, .int .i64 0]) (by simp [results, Try.results16, go_sem, r1, r2]) rfl ?_
    exact RetH.nil ((HB1.out.setCell (by simp) _).setCell (by simp) _)
  · cases s
    · go_enter Try.func16, Try.ntmps16
      go_wp2_with fail
      refine HC2.out.mono ?_
      rw [← HW2.out]
      rintro e w0 ⟨rfl, hb0⟩
      have p0 := (hb0.cell (p := ⟨w.heap.size, 0, none⟩) (by simp; omega)).trans HQ.out.1
      have HG1 := Lib.hid (HG2.out.below hb0 (by omega))
      have HX1 := Lib.hid (HX2.out.below hb0 (by omega))
      have hs0 := hb0.size
      have HB0 := Lib.hid hb0
      clear hb0
      go_wp2_with fail
      refine (HD.out _ (by omega) HG1.out HX1.out).mono ?_
      rintro e w1 ⟨rfl, hb1⟩
      have hb := HB0.out.trans (hb1.mono hs0)
      have r1 := (hb.cell (p := ⟨w.heap.size + 1, 0, none⟩) (by simp; omega)).trans HQ.out.2.1
      have r2 := (hb.cell (p := ⟨w.heap.size + 1, 1, none⟩) (by simp; omega)).trans HQ.out.2.2.1
      have g1 := (hb.frozen (p := ⟨w.heap.size + 1, 0, none⟩) (by simp; omega)).trans HQ.out.2.2.2.1
      have g2 := (hb.frozen (p := ⟨w.heap.size + 1, 1, none⟩) (by simp; omega)).trans HQ.out.2.2.2.2
      have hs1 := hb.size
      have HB1 := Lib.hid (HB2.out.trans (hb.mono (by omega)))
      clear hb hb1 p0
      go_wp2
      refine bodyPost_ret (v := .agg #[.slice none 0 0, .int .i64 0]) (by simp [results, Try.results16, go_sem, r1, r2]) rfl ?_
      exact RetH.nil ((HB1.out.setCell (by simp) _).setCell (by simp) _)
    · go_enter Try.func16, Try.ntmps16
      go_wp2_with fail
      refine HC2.out.mono ?_
      rw [← HW2.out]
      rintro e w0 ⟨rfl, hb0⟩
      have p0 := (hb0.cell (p := ⟨w.heap.size, 0, none⟩) (by simp; omega)).trans HQ.out.1
      have HG1 := Lib.hid (HG2.out.below hb0 (by omega))
      have HX1 := Lib.hid (HX2.out.below hb0 (by omega))
      have hs0 := hb0.size
      have HB0 := Lib.hid hb0
      clear hb0
      go_wp2_with fail
      refine (HD.out _ (by omega) HG1.out HX1.out).mono ?_
      rintro e w1 ⟨rfl, hb1⟩
      have HX3 := Lib.hid (HX1.out.below hb1 (by omega))
      have hs1 := hb1.size
      have HB1 := Lib.hid (HB0.out.trans (hb1.mono hs0))
      clear hb1 p0
      go_wp2_with fail
      refine (HCP.out _ (by omega) HX3.out).mono ?_
      rintro e w3 ⟨g, cap, rfl, ho, hb3⟩
      have hb := HB1.out.trans (hb3.mono (by omega))
      have r1 := (hb.cell (p := ⟨w.heap.size + 1, 0, none⟩) (by simp; omega)).trans HQ.out.2.1
      have r2 := (hb.cell (p := ⟨w.heap.size + 1, 1, none⟩) (by simp; omega)).trans HQ.out.2.2.1
      have g1 := (hb.frozen (p := ⟨w.heap.size + 1, 0, none⟩) (by simp; omega)).trans HQ.out.2.2.2.1
      have g2 := (hb.frozen (p := ⟨w.heap.size + 1, 1, none⟩) (by simp; omega)).trans HQ.out.2.2.2.2
      have hs3' := hb.size
      have HB3 := Lib.hid (HB2.out.trans (hb.mono (by omega)))
      have hgl := (ho.lt g rfl).2
      have HO := Lib.hid (own_mono ho (base' := w.heap.size + 2) (by omega))
      have hz : w.heap.size + 1 < w3.heap.size := by omega
      clear hb hb3 ho
      go_wp2
      obtain ⟨w4, hw4⟩ : ∃ x, x = (w3.setCell ⟨w.heap.size + 1, 0, none⟩ (.slice (some ⟨w3.heap.size, 0, none⟩) 1 1)).setCell ⟨w.heap.size + 1, 1, none⟩ (.int .i64 0) := ⟨_, rfl⟩
      have hs4 : w4.heap.size = w3.heap.size := by rw [hw4]; simp [World.setCell]
      have e1 : w4.cell? ⟨w.heap.size + 1, 0, none⟩ = some (.slice (some ⟨w3.heap.size, 0, none⟩) 1 1) := by rw [hw4, World.cell?_setCell_other _ _ _ _ (by simp)]; exact World.cell?_setCell_same _ _ _ r1
      have e2 : w4.cell? ⟨w.heap.size + 1, 1, none⟩ = some (.int .i64 0) := by rw [hw4]; exact World.cell?_setCell_same _ _ _ ((World.cell?_setCell_other _ _ _ _ (by simp)).trans r2)
      have ho4 := ownsRow_setCell_below (ownsRow_setCell_below HO.out (a := ⟨w.heap.size + 1, 0, none⟩) (by simp) (.slice (some ⟨w3.heap.size, 0, none⟩) 1 1)) (a := ⟨w.heap.size + 1, 1, none⟩) (by simp) (.int .i64 0)
      have hb4 : Below w.heap.size w w4 := by rw [hw4]; exact (HB3.out.setCell (by simp) _).setCell (by simp) _
      rw [← hw4] at ho4 ⊢
      have o1 := OwSS.one ho4 HM.out (by omega)
      rw [hs4] at o1
      have a1 := (World.cell?_alloc_lt w4 (.cells #[.slice (some ⟨g, 0, none⟩) m cap] 40) ⟨w.heap.size + 1, 0, none⟩ (by simp; omega)).trans e1
      have a2 := (World.cell?_alloc_lt w4 (.cells #[.slice (some ⟨g, 0, none⟩) m cap] 40) ⟨w.heap.size + 1, 1, none⟩ (by simp; omega)).trans e2
      refine bodyPost_ret (v := .agg #[.slice (some ⟨w3.heap.size, 0, none⟩) 1 1, .int .i64 0]) (by simp [results, Try.results16, go_sem, a1, a2]) rfl ?_
      refine ⟨_, _, _, rfl, ?_, hb4.alloc (by omega) _⟩
      have o5 := o1.mono (lo' := w.heap.size) (hi' := w3.heap.size + 1) (by omega) (Nat.le_refl _)
      simpa [World.size_alloc, hs4, OwH] using o5

/-- A row of one list that was there before. -/
theorem SS.one {w : World} {B m c : Nat} {A : Option Addr} {xs : List Int} (h : IS w B A xs) (hB : B ≤ w.heap.size) (hm : m = xs.length) (t : TypeId) : SS (w.alloc (.cells #[.slice A m c] t)) (w.heap.size + 1) (some ⟨w.heap.size, 0, none⟩) [xs] := by
  intro _
  refine ⟨_, 0, rfl, Nat.lt_succ_self _, fun j hj => ?_⟩
  obtain rfl : j = 0 := by simp at hj; omega
  exact ⟨A, m, c, by go_simp, by simpa [List.getD] using hm, by simpa [List.getD] using (h.alloc hB (.cells #[.slice A m c] t)).more (B' := w.heap.size + 1) (by omega)⟩

set_option maxRecDepth 100000 in
set_option maxHeartbeats 1600000 in
theorem top_impl_NewHistory (gs : List Nd) (xs : List Int) (hG : GB gs) (hL : xs.length ≤ 1048576) : ∀ (A : Option Addr) (n c : Nat) (A' : Option Addr) (m c' : Nat) (w : World), n = gs.length → n ≤ c → GS w w.heap.size A gs → m = xs.length → IS w w.heap.size A' xs →
    Calls Try.prog 18 #[.agg #[.slice A n c], .slice A' m c'] w fun e w' => RetH w (newH gs xs) e w' := by
  intro A n c A' m c' w hn hnc h hm h'
  have hm1 : m ≤ 2000000 := by omega
  have H := Lib.hid h
  have HX := Lib.hid h'
  have HM := Lib.hid hm
  have HC := Lib.hid fun (w' : World) (hB : w.heap.size ≤ w'.heap.size) (h : GS w' w.heap.size A gs) (h' : IS w' w.heap.size A' xs) => impl_ValidCells A A' n c m c' gs xs w' w.heap.size hB hn hnc hm h h' hG hm1
  have hSB : SB [xs] := ⟨by simp, fun j => by rcases j with _ | j <;> simp [List.getD]; omega⟩
  have HCP := Lib.hid fun (g : Nat) (w' : World) (h : SS w' w'.heap.size (some ⟨g, 0, none⟩) [xs]) => impl_copyStates (some ⟨g, 0, none⟩) 1 1 [xs] w' w'.heap.size (Nat.le_refl _) rfl h hSB
  have hf : newH gs xs = if okC gs xs then ⟨[xs], 0⟩ else ⟨[], 0⟩ := rfl
  rw [hf]
  generalize okC gs xs = r at *
  clear hf h h' hn hm hG hSB
  obtain ⟨W2, hW2⟩ : ∃ W, W = (w.alloc (.cells #[.slice A n c] 33)).alloc (.cells #[.slice none 0 0, .int .i64 0] 35) := ⟨_, rfl⟩
  have hb2 : Below w.heap.size w W2 := by rw [hW2]; exact ((Below.refl _ _).alloc (Nat.le_refl _) _).alloc (by simp) _
  have hs2 : W2.heap.size = w.heap.size + 2 := by rw [hW2]; simp
  have q0 : W2.cell? ⟨w.heap.size, 0, none⟩ = some (.slice A n c) := by rw [hW2]; go_simp
  have q1 : W2.cell? ⟨w.heap.size + 1, 0, none⟩ = some (.slice none 0 0) := by rw [hW2]; go_simp
  have q2 : W2.cell? ⟨w.heap.size + 1, 1, none⟩ = some (.int .i64 0) := by rw [hW2]; go_simp
  have f1 : W2.frozen? ⟨w.heap.size + 1, 0, none⟩ = false := by rw [hW2]; go_simp
  have f2 : W2.frozen? ⟨w.heap.size + 1, 1, none⟩ = false := by rw [hW2]; go_simp
  have HB2 := Lib.hid hb2
  have HG2 := Lib.hid (H.out.below hb2 (Nat.le_refl _))
  have HX2 := Lib.hid (HX.out.below hb2 (Nat.le_refl _))
  have HQ := Lib.hid (And.intro q0 (And.intro q1 (And.intro q2 (And.intro f1 f2))))
  have HC2 := Lib.hid (HC.out W2 (by omega) HG2.out HX2.out)
  have hs3 : w.heap.size + 2 ≤ W2.heap.size := by omega
  rw [hW2] at HC2
  have HW2 := Lib.hid hW2
  clear hW2 hb2 hs2 q0 q1 q2 f1 f2 HC
  cases r
  · go_enter Try.func18, Try.ntmps18
    go_wp2_with fail
    refine HC2.out.mono ?_
    rw [← HW2.out]
    rintro e w1 ⟨rfl, hb⟩
    have r1 := (hb.cell (p := ⟨w.heap.size + 1, 0, none⟩) (by simp; omega)).trans HQ.out.2.1
    have r2 := (hb.cell (p := ⟨w.heap.size + 1, 1, none⟩) (by simp; omega)).trans HQ.out.2.2.1
    have g1 := (hb.frozen (p := ⟨w.heap.size + 1, 0, none⟩) (by simp; omega)).trans HQ.out.2.2.2.1
    have g2 := (hb.frozen (p := ⟨w.heap.size + 1, 1, none⟩) (by simp; omega)).trans HQ.out.2.2.2.2
    have hs1 := hb.size
    have HB1 := Lib.hid (HB2.out.trans (hb.mono (by omega)))
    clear hb
    go_wp2
    refine bodyPost_ret (v := .agg #[.slice none 0 0, .int .i64 0]) (by simp [results, Try.results18, go_sem, r1, r2]) rfl ?_
    exact RetH.nil ((HB1.out.setCell (by simp) _).setCell (by simp) _)
  · go_enter Try.func18, Try.ntmps18
    go_wp2_with fail
    refine HC2.out.mono ?_
    rw [← HW2.out]
    rintro e w1 ⟨rfl, hb1⟩
    have HX3 := Lib.hid (HX2.out.below hb1 (by omega))
    have hs1 := hb1.size
    have HB1 := Lib.hid hb1
    have HSS := Lib.hid (SS.one (c := c') HX3.out (by omega) HM.out 40)
    clear hb1
    go_wp2_with fail
    refine (HCP.out _ _ (by simpa using HSS.out)).mono ?_
    rintro e w3 ⟨v3, rfl, ho, hb3⟩
    have hb := HB1.out.trans (((Below.refl _ _).alloc (Nat.le_refl _) (.cells #[.slice A' m c'] 40)).trans (hb3.mono (by simp)) |>.mono (by omega))
    have r1 := (hb.cell (p := ⟨w.heap.size + 1, 0, none⟩) (by simp; omega)).trans HQ.out.2.1
    have r2 := (hb.cell (p := ⟨w.heap.size + 1, 1, none⟩) (by simp; omega)).trans HQ.out.2.2.1
    have g1 := (hb.frozen (p := ⟨w.heap.size + 1, 0, none⟩) (by simp; omega)).trans HQ.out.2.2.2.1
    have g2 := (hb.frozen (p := ⟨w.heap.size + 1, 1, none⟩) (by simp; omega)).trans HQ.out.2.2.2.2
    have hs3' := hb.size
    have HB3 := Lib.hid (HB2.out.trans (hb.mono (by omega)))
    obtain ⟨A3, c3, rfl⟩ := ho.form
    have HO := Lib.hid (ho.mono (lo' := w.heap.size + 2) (hi' := w3.heap.size) (by simp; omega) (Nat.le_refl _))
    clear hb hb3 ho
    go_wp2
    refine bodyPost_ret (v := .agg #[.slice A3 1 c3, .int .i64 0]) (by simp [results, Try.results18, go_sem, r1, r2]) rfl ?_
    have o1 := HO.out.setCell (a := ⟨w.heap.size + 1, 0, none⟩) (by simp) (.slice A3 1 c3)
    have o2 := o1.setCell (a := ⟨w.heap.size + 1, 1, none⟩) (by simp) (.int .i64 0)
    refine ⟨_, _, _, rfl, ?_, (HB3.out.setCell (by simp) _).setCell (by simp) _⟩
    have o5 := o2.mono (lo' := w.heap.size) (hi' := w3.heap.size) (by omega) (Nat.le_refl _)
    simpa [World.setCell, OwH] using o5
end Go.Proofs.Ytlliomnfbgdpfaa
