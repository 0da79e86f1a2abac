/- The standing contracts of MeaningOf. -/
import Derived.Test.YtnbpngafboijnaaG10
namespace Go.Proofs.Ytnbpngafboijnaa
set_option linter.unusedSimpArgs false
set_option linter.unusedVariables false
open Go.RowKit

theorem meanF_len (gs : List Nd) (xs : List Int) : (meanF gs xs).length ≤ 10 := by
  unfold meanF
  cases h : okC gs xs
  · simp
  · simp only [if_true]
    unfold mean
    rw [meanTo_len]
    exact (validG_parts gs (okC_parts gs xs h).1).1

theorem mean_len (gs : List Nd) (xs : List Int) : (mean gs xs).length = gs.length := meanTo_len _ _ _

theorem RetI.mono {w w0 w' : World} {xs : List Int} {e : Ending} (h : RetI w xs e w') (hb : Below w0.heap.size w0 w) : RetI w0 xs e w' := by
  obtain ⟨v, he, ho, hb'⟩ := h
  exact ⟨v, he, own_mono ho hb.size, hb.trans (hb'.mono hb.size)⟩
theorem RetI.nil {w w' : World} (hb : Below w.heap.size w w') : RetI w [] (.returned (.slice none 0 0)) w' := ⟨_, rfl, World.ownsRow_nil _ _ _ _, hb⟩

set_option maxHeartbeats 1600000 in
theorem top_spec_MeaningOf (gs : List Nd) (xs : List Int) (hG : GB gs) (hL : xs.length ≤ 1048576) : ∀ (A : Option Addr) (n c : Nat) (A' : Option Addr) (m c' : Nat) (w : World), n = gs.length → n ≤ c → GS w w.heap.size A gs → m = xs.length → IS w w.heap.size A' xs →
    Calls Try.prog 31 #[.agg #[.slice A n c], .slice A' m c'] w fun e w' => RetI w (meanF gs xs) e w' := by
  intro A n c A' m c' w hn _ h hm h'
  have H := Lib.hid h
  have HI := Lib.hid h'
  have HC := Lib.hid fun (w' : World) (hB : w.heap.size ≤ w'.heap.size) (h : GS w' w.heap.size A gs) => spec_validGraph A n c gs w' w.heap.size hB hn h hG
  have HD := Lib.hid fun (w' : World) (hB : w.heap.size ≤ w'.heap.size) (h : GS w' w.heap.size A gs) (h' : IS w' w.heap.size A' xs) => spec_validCells A A' n c m c' gs xs w' w.heap.size hB hn hm h h' (by have := hG.1; omega) (by omega)
  have HE := Lib.hid fun (w' : World) (hB : w.heap.size ≤ w'.heap.size) (h : GS w' w.heap.size A gs) (h' : IS w' w.heap.size A' xs) (hok : okC gs xs = true) => spec_meaning A A' n c m c' gs xs w' w.heap.size hB hn hm h h' hok
  have hf : meanF gs xs = if okC gs xs then mean gs xs else [] := rfl
  have hok : okC gs xs = (validG gs && validC gs xs) := rfl
  rw [hf]
  clear hf
  generalize okC gs xs = o at *
  generalize validG gs = r at *
  generalize validC gs xs = s at *
  generalize mean gs xs = M at *
  subst hok
  clear h h' hn hm hG
  cases r
  · go_enter Try.func31, Try.ntmps31
    go_wp2_with fail
    refine (HC.out _ (by simp) (H.out.alloc (Nat.le_refl _) _)).mono ?_
    rintro e w1 ⟨rfl, hb⟩
    go_wp2
    go_ret
    exact RetI.nil (((Below.refl _ _).alloc (Nat.le_refl _) _).trans (hb.mono (by simp)))
  · cases s
    · go_enter Try.func31, Try.ntmps31
      go_wp2_with fail
      refine (HC.out _ (by simp) (H.out.alloc (Nat.le_refl _) _)).mono ?_
      rintro e w1 ⟨rfl, hb⟩
      have q : w1.cell? ⟨w.heap.size, 0, none⟩ = some (.slice A n c) := (hb.cell (p := ⟨w.heap.size, 0, none⟩) (by simp)).trans (by go_simp)
      have HG1 := Lib.hid ((H.out.alloc (Nat.le_refl _) (.cells #[.slice A n c] 41)).below hb (by simp))
      have HI1 := Lib.hid ((HI.out.alloc (Nat.le_refl _) (.cells #[.slice A n c] 41)).below hb (by simp))
      have hB1 : Below w.heap.size w w1 := ((Below.refl _ _).alloc (Nat.le_refl _) _).trans (hb.mono (by simp))
      go_wp2_with fail
      refine (HD.out _ hB1.size HG1.out HI1.out).mono ?_
      rintro e w2 ⟨rfl, hb2⟩
      go_wp2
      go_ret
      exact RetI.nil (hB1.trans (hb2.mono hB1.size))
    · go_enter Try.func31, Try.ntmps31
      go_wp2_with fail
      refine (HC.out _ (by simp) (H.out.alloc (Nat.le_refl _) _)).mono ?_
      rintro e w1 ⟨rfl, hb⟩
      have q : w1.cell? ⟨w.heap.size, 0, none⟩ = some (.slice A n c) := (hb.cell (p := ⟨w.heap.size, 0, none⟩) (by simp)).trans (by go_simp)
      have HG1 := Lib.hid ((H.out.alloc (Nat.le_refl _) (.cells #[.slice A n c] 41)).below hb (by simp))
      have HI1 := Lib.hid ((HI.out.alloc (Nat.le_refl _) (.cells #[.slice A n c] 41)).below hb (by simp))
      have hB1 : Below w.heap.size w w1 := ((Below.refl _ _).alloc (Nat.le_refl _) _).trans (hb.mono (by simp))
      have hlt : w.heap.size < w1.heap.size := by have := hb.size; simp at this; omega
      go_wp2_with fail
      refine (HD.out _ hB1.size HG1.out HI1.out).mono ?_
      rintro e w2 ⟨rfl, hb2⟩
      have q2 := (hb2.cell (p := ⟨w.heap.size, 0, none⟩) hlt).trans q
      have HG2 := Lib.hid (HG1.out.below hb2 hB1.size)
      have HI2 := Lib.hid (HI1.out.below hb2 hB1.size)
      have hB2 := hB1.trans (hb2.mono hB1.size)
      go_wp2_with fail
      refine (HE.out _ hB2.size HG2.out HI2.out rfl).mono ?_
      rintro e w3 ⟨v, rfl, ho, hb3⟩
      go_wp2
      go_ret
      exact ⟨v, by simp, own_mono ho hB2.size, hB2.trans (hb3.mono hB2.size)⟩

theorem top_impl_MeaningOf (gs : List Nd) (xs : List Int) (hG : GB gs) (hL : xs.length ≤ 1048576) : ∀ (A : Option Addr) (n c : Nat) (A' : Option Addr) (m c' : Nat) (w : World), n = gs.length → n ≤ c → GS w w.heap.size A gs → m = xs.length → IS w w.heap.size A' xs →
    Calls Try.prog 32 #[.agg #[.slice A n c], .slice A' m c'] w fun e w' => RetI w (meanF gs xs) e w' :=
  fun A n c A' m c' w hn hc h hm h' => impl_MeaningOf A A' n c m c' gs xs w w.heap.size (Nat.le_refl _) hn hc hm h h' hG (by omega)
end Go.Proofs.Ytnbpngafboijnaa
