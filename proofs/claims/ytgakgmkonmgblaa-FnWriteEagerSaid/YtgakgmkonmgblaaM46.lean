/- Writing the same again changes nothing. -/
import Derived.Test.YtgakgmkonmgblaaAb
import Derived.Test.YtgakgmkonmgblaaM45

namespace Go.Proofs.Ytgakgmkonmgblaa
set_option linter.unusedSimpArgs false
set_option linter.unusedVariables false
open Go.RowKit

theorem wA_same {vs xs ys : List Int} (h : ∀ k, k < xs.length → vs.getD (xs.getD k 0).toNat 0 = ys.getD k 0) : ∀ k, k ≤ xs.length → wA vs xs ys k = (vs, []) := by
  intro k
  induction k with
  | zero => intro _; rfl
  | succ k ih =>
    intro hk
    rw [wA, ih (by omega)]
    rw [if_pos (h k (by omega))]
theorem wB_same {gs : List Nd} {s : Ew} (h : s.ch = []) : ∀ i, wB gs s i = s := by
  intro i
  induction i with
  | zero => rfl
  | succ i ih =>
    rw [wB_succ, ih]
    have : wGo gs s i = false := by
      unfold wGo meetB
      rw [h]
      simp
    rw [this]
    rfl
theorem wrC_at {a xs ys : List Int} (hn : xs.Nodup) (hx : ∀ k, k < xs.length → ∃ q : Nat, xs.getD k 0 = q ∧ q < a.length) : ∀ j, j ≤ xs.length → ∀ k, k < j → (wrC a xs ys j).getD (xs.getD k 0).toNat 0 = ys.getD k 0 := by
  intro j
  induction j with
  | zero => intro _ k hk; omega
  | succ j ih =>
    intro hj k hk
    obtain ⟨p, hp, hpa⟩ := hx j (by omega)
    obtain ⟨q, hq, hqa⟩ := hx k (by omega)
    rw [wrC, ws_getD _ _ _ _ (by rw [wrC_len, hp, Int.toNat_natCast]; exact hpa)]
    by_cases e : k = j
    · subst e; rw [if_pos rfl]
    · rw [if_neg, ih (by omega) k (by omega)]
      rw [hp, hq, Int.toNat_natCast, Int.toNat_natCast]
      rintro rfl
      apply e
      have h1 : xs.getD k 0 = xs.getD j 0 := by rw [hp, hq]
      rw [List.getD_eq_getElem?_getD, List.getD_eq_getElem?_getD, List.getElem?_eq_getElem (by omega), List.getElem?_eq_getElem (by omega)] at h1
      exact (List.getElem_inj hn).1 (by simpa using h1)
theorem twice_facts {gs : List Nd} {st : Eg} {xs ys : List Int} (h : wrtB gs st xs ys = true) (hvs : validE gs (writeF gs st xs ys) = true) : wrtB gs (writeF gs st xs ys) xs ys = true ∧ writeF gs (writeF gs st xs ys) xs ys = writeF gs st xs ys ∧ writeR gs (writeF gs st xs ys) xs ys = [] := by
  obtain ⟨f1, f2, f3, f4, f5⟩ := write_facts h
  have hw : gwB gs xs ys = true := by unfold wrtB at h; rw [Bool.and_eq_true] at h; exact h.2
  obtain ⟨g1, g2, g3, g4, g5⟩ := gw_parts hw
  have h1 : wrtB gs (writeF gs st xs ys) xs ys = true := by unfold wrtB; rw [hvs, hw]; rfl
  have hcl : (cellsF gs st).length = gs.length := ((validC_iff gs _).1 (by have := f2; unfold okC at this; rw [Bool.and_eq_true] at this; exact this.2)).1
  have hv : (writeF gs st xs ys).vs = mean gs (wrC (cellsF gs st) xs ys xs.length) := by
    rw [f4]; unfold startF; rw [f3]; rfl
  have heq : ∀ k, k < xs.length → (writeF gs st xs ys).vs.getD (xs.getD k 0).toNat 0 = ys.getD k 0 := fun k hk => by
    obtain ⟨q, e, hq, hqk⟩ := isC_at (g5 k hk)
    have h2 := wrC_at (a := cellsF gs st) (ys := ys) g4 (fun k hk => by obtain ⟨q, e, hq, -⟩ := isC_at (g5 k hk); exact ⟨q, e, by omega⟩) xs.length (Nat.le_refl _) k hk
    rw [e, Int.toNat_natCast] at h2 ⊢
    rw [hv, mean_cell gs _ q hq hqk]
    exact h2
  generalize writeF gs st xs ys = s2 at *
  have hS : wS gs s2 xs ys = ⟨s2.vs, s2.rs, [], []⟩ := by
    unfold wS
    rw [wA_same heq xs.length (Nat.le_refl _)]
  refine ⟨h1, ?_, ?_⟩
  · unfold writeF
    rw [h1]
    simp only [if_true]
    unfold wrtE
    rw [hS, wB_same rfl]
  · unfold writeR
    rw [h1]
    simp only [if_true]
    unfold wrtR
    rw [hS, wB_same rfl]
end Go.Proofs.Ytgakgmkonmgblaa
