/- The answer of a written machine as one family, with its bounds. -/
import Derived.Test.YtgakgmkonmgblaaGreatZ2
import Derived.Test.YtgakgmkonmgblaaGreatW4
import Derived.Test.YtgakgmkonmgblaaGreatT44

namespace Go.Proofs.YtgakgmkonmgblaaGreat
set_option linter.unusedSimpArgs false
set_option linter.unusedVariables false
open Go.RowKit

theorem writeF_small (gs : List Nd) (st : Eg) (xs ys : List Int) : (writeF gs st xs ys).vs.length ≤ 1000 ∧ (writeF gs st xs ys).rs.length ≤ 1000 ∧ ((writeF gs st xs ys).rs.map List.length).sum ≤ 1000 := by
  unfold writeF
  cases h : wrtB gs st xs ys
  · exact ⟨by simp, by simp, by simp⟩
  · unfold wrtB at h
    rw [Bool.and_eq_true] at h
    obtain ⟨h1, h2, h3, h4, h5⟩ := validE_parts gs st h.1
    have hw := wB_ok h1 (wS_ok h.1 h.2) gs.length (Nat.le_refl _)
    have hg10 := (validG_parts gs h1).1
    have hs : ((wB gs (wS gs st xs ys) gs.length).rs.map List.length).sum ≤ (wB gs (wS gs st xs ys) gs.length).rs.length * 10 := sum_le_mul _ 10 fun x hx => by
      obtain ⟨j, hj, e⟩ := List.getElem_of_mem hx
      have := hw.rb j
      rw [show (wB gs (wS gs st xs ys) gs.length).rs.getD j [] = x by rw [← e]; simp [List.getD, hj]] at this
      exact this
    rw [hw.rl] at hs
    refine ⟨?_, ?_, ?_⟩
    · show (wB gs (wS gs st xs ys) gs.length).vs.length ≤ 1000
      rw [hw.vl]; omega
    · show (wB gs (wS gs st xs ys) gs.length).rs.length ≤ 1000
      rw [hw.rl]; omega
    · show ((wB gs (wS gs st xs ys) gs.length).rs.map List.length).sum ≤ 1000
      omega
theorem writeEJ (gs : List Nd) (st : Eg) (xs ys : List Int) : EJ (writeF gs st xs ys) (writeR gs st xs ys) := by
  obtain ⟨h1, h2, h3⟩ := writeF_small gs st xs ys
  have h4 := writeR_len gs st xs ys
  have h5 : ((rowsJ (writeF gs st xs ys) (writeR gs st xs ys)).map List.length).sum ≤ 1048576 := by unfold rowsJ rowsE; simp; omega
  exact ⟨by omega, by omega, SB2.of_sum (by rw [rowsJ_len]; omega) h5, h5⟩
/-- The answer as one family in new blocks. -/
theorem RetEW.joined {w w' : World} {F : Eg} {L : List Int} {e : Ending} (h : RetEW w F L e w') : ∃ A n c E ec R r d, e = .returned (.tuple #[.agg #[.slice A n c, .slice E n ec], .slice R r d]) ∧ As w.heap.size w'.heap.size (FJ w.heap.size w'.heap.size A n c E ec R r d F L 1 0) w' ∧ Below w.heap.size w w' := by
  obtain ⟨A, n, c, E, ec, R, r, d, U, ch, he, hn, hF, h0, h2, hb⟩ := h
  exact ⟨A, n, c, E, ec, R, r, d, he, ⟨FJ.of_wf hF hn h0 h2 1, Nat.le_refl _, FJ.loc _ _ _ _ _ _ _ _ _ _ _ _ _ _⟩, hb⟩
section
variable {lo hi n c ec r d : Nat} {A E R : Option Addr} {st : Eg} {rn : List Int} {k : Int} {w w' : World}
theorem As.fje (h : As lo hi (FJ lo hi A n c E ec R r d st rn k 0) w) : ES w w.heap.size A E st := h.it.reads.1.more h.le
theorem As.fji (h : As lo hi (FJ lo hi A n c E ec R r d st rn k 0) w) : IS w w.heap.size R rn := h.it.reads.2.more h.le
end
end Go.Proofs.YtgakgmkonmgblaaGreat
