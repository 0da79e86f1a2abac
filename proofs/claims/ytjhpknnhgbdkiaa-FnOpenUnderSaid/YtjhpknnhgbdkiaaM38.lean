/- Facts on kids, on those above, on live owners, on what is looked up. -/
import Derived.Test.YtjhpknnhgbdkiaaM37
import Derived.Test.YtjhpknnhgbdkiaaP8a

namespace Go.Proofs.Ytjhpknnhgbdkiaa
set_option linter.unusedSimpArgs false
set_option linter.unusedVariables false
open Go.RowKit

theorem hasO_nat {ds : List On} (hv : validO ds = true) (k : Nat) (hk : k < ds.length) : hasO ds (k : Int) = true := by
  unfold hasO rng
  rw [hv]
  simp
  omega
theorem kids_facts {ds : List On} (hv : validO ds = true) (k : Nat) (hk : k < ds.length) :
    (∀ i, i < ds.length → decide ((i : Int) ∈ kidsF ds k) = ((ds.getD i default).o && (ds.getD i default).p == (k : Int))) ∧
    (∀ j, j + 1 < (kidsF ds k).length → (kidsF ds k).getD j 0 < (kidsF ds k).getD (j + 1) 0) ∧ ((ds.getD k default).o = false → kidsF ds k = []) := by
  have e : kidsF ds k = nwTo (kidB ds k) ds.length := by unfold kidsF; rw [hasO_nat hv k hk]; simp
  obtain ⟨_, _, hp, hvo, _⟩ := (validO_iff ds).1 hv
  rw [e]
  refine ⟨fun i hi => ?_, fun j hj => nwTo_asc _ _ j hj, fun ho => ?_⟩
  · have := nwTo_mem (kidB ds k) ds.length i
    show _ = kidB ds k i
    cases hb : kidB ds k i
    · rw [decide_eq_false_iff_not, this, hb]; simp
    · rw [decide_eq_true_eq, this]; exact ⟨hi, hb⟩
  · apply List.eq_nil_iff_forall_not_mem.2
    intro x hx
    unfold nwTo at hx
    rw [List.mem_map] at hx
    obtain ⟨i, hi, rfl⟩ := hx
    rw [List.mem_filter, List.mem_range] at hi
    have hm := (kid_mem hp k i hk).1 ((nwTo_mem _ _ _).2 hi)
    have := hvo.up i hm.1 hm.2.1 hm.2.2.2
    rw [hm.2.2.1] at this
    unfold isO at this
    rw [ho] at this
    exact absurd this (by simp)
theorem up_facts {ds : List On} (h : PO ds) : ∀ (f k : Nat), k < f → k < ds.length → 1 ≤ (upF ds f k).length ∧ (upF ds f k).getD 0 0 = (k : Int) ∧ (upF ds f k).getD ((upF ds f k).length - 1) 0 = 0 ∧
    ∀ j, j + 1 < (upF ds f k).length → ∃ q : Nat, (upF ds f k).getD j 0 = (q : Int) ∧ q < ds.length ∧ (upF ds f k).getD (j + 1) 0 = (ds.getD q default).p := by
  intro f
  induction f with
  | zero => intro k hk; omega
  | succ f ih =>
    intro k hkf hk
    rw [upF_step]
    by_cases h0 : k = 0
    · subst h0
      rw [(h 0 hk).1 rfl, upF_neg _ _ _ (by omega)]
      refine ⟨by simp, by simp, by simp, fun j hj => ?_⟩
      simp at hj
    · have hp := (h k hk).2 (by omega)
      obtain ⟨q, hq⟩ : ∃ q : Nat, (ds.getD k default).p = (q : Int) := ⟨(ds.getD k default).p.toNat, by omega⟩
      obtain ⟨i1, i2, i3, i4⟩ := ih q (by omega) (by omega)
      rw [hq]
      generalize upF ds f (q : Int) = R at *
      refine ⟨by simp, by simp, ?_, fun j hj => ?_⟩
      · rw [List.length_cons, show R.length + 1 - 1 = (R.length - 1) + 1 by omega, List.getD_cons_succ]
        exact i3
      · rw [List.length_cons] at hj
        cases j with
        | zero => exact ⟨k, by simp, hk, by rw [List.getD_cons_succ, i2, hq]⟩
        | succ j =>
          obtain ⟨r, r1, r2, r3⟩ := i4 j (by omega)
          exact ⟨r, by rw [List.getD_cons_succ]; exact r1, r2, by rw [List.getD_cons_succ]; exact r3⟩
theorem aboveF_nat {ds : List On} (hv : validO ds = true) (k : Nat) (hk : k < ds.length) : aboveF ds k = upF ds ds.length k := by
  unfold aboveF; rw [hasO_nat hv k hk]; rfl
theorem above_facts {ds : List On} (hv : validO ds = true) (k : Nat) (hk : k < ds.length) : 1 ≤ (aboveF ds k).length ∧ (aboveF ds k).getD 0 0 = (k : Int) ∧ (aboveF ds k).getD ((aboveF ds k).length - 1) 0 = 0 ∧
    ∀ j, j + 1 < (aboveF ds k).length → ∃ q : Nat, (aboveF ds k).getD j 0 = (q : Int) ∧ q < ds.length ∧ (aboveF ds k).getD (j + 1) 0 = (ds.getD q default).p := by
  rw [aboveF_nat hv k hk]
  exact up_facts ((validO_iff ds).1 hv).2.2.1 ds.length k hk hk
theorem above_none {ds : List On} {o : Int} (h : hasO ds o = false) : aboveF ds o = [] := by unfold aboveF; rw [h]; rfl
theorem up_open {ds : List On} (h : PO ds) (v : VO ds) : ∀ (f k : Nat), k < ds.length → isO ds k = true → ∀ y ∈ upF ds f k, ∃ r : Nat, y = r ∧ r < ds.length ∧ isO ds r = true := by
  intro f
  induction f with
  | zero => intro k _ _ y hy; simp [upF] at hy
  | succ f ih =>
    intro k hk ho y hy
    rw [upF_step] at hy
    rcases List.mem_cons.1 hy with rfl | hy
    · exact ⟨k, rfl, hk, ho⟩
    · by_cases h0 : k = 0
      · subst h0
        rw [(h 0 hk).1 rfl, upF_neg _ _ _ (by omega)] at hy
        cases hy
      · have hp := (h k hk).2 (by omega)
        have hu := v.up k hk (by omega) ho
        have e : (ds.getD k default).p = ((parN ds k : Nat) : Int) := by unfold parN; omega
        rw [e] at hy
        exact ih (parN ds k) (by unfold parN; omega) hu y hy
theorem live_mem {ds : List On} (hv : validO ds = true) (x : Int) : x ∈ liveF ds ↔ ∃ r : Nat, x = r ∧ r < ds.length ∧ isO ds r = true := by
  unfold liveF
  rw [hv]
  simp only [if_true]
  unfold nwTo liveB isO
  rw [List.mem_map]
  constructor
  · rintro ⟨i, hi, rfl⟩
    rw [List.mem_filter, List.mem_range] at hi
    exact ⟨i, rfl, hi.1, hi.2⟩
  · rintro ⟨r, rfl, hr, ho⟩
    exact ⟨r, by rw [List.mem_filter, List.mem_range]; exact ⟨hr, ho⟩, rfl⟩
theorem live_facts {ds : List On} (hv : validO ds = true) : (∀ j, j + 1 < (liveF ds).length → (liveF ds).getD j 0 < (liveF ds).getD (j + 1) 0) ∧
    ∀ j, j < (liveF ds).length → ∃ q : Nat, (liveF ds).getD j 0 = (q : Int) ∧ q < ds.length ∧ (ds.getD q default).o = true ∧ ∀ y ∈ aboveF ds (q : Int), y ∈ liveF ds := by
  refine ⟨?_, fun j hj => ?_⟩
  · unfold liveF
    rw [hv]
    exact fun j hj => nwTo_asc _ _ j hj
  · have hm : (liveF ds).getD j 0 ∈ liveF ds := by
      rw [List.getD_eq_getElem?_getD, List.getElem?_eq_getElem hj]
      exact List.getElem_mem hj
    obtain ⟨q, h1, h2, h3⟩ := (live_mem hv _).1 hm
    refine ⟨q, h1, h2, h3, fun y hy => ?_⟩
    rw [aboveF_nat hv q h2] at hy
    obtain ⟨_, _, hp, hvo, _⟩ := (validO_iff ds).1 hv
    exact (live_mem hv y).2 (up_open hp hvo ds.length q h2 h3 y hy)
theorem look_step (ds : List On) (q : Nat) (R : List Int) (j : Nat) (hj : j < R.length) (hl : ctxV ds q (R.getD j 0) < 0) : lookG ds q (R.drop j) = lookG ds q (R.drop (j + 1)) := by
  have e : R.getD j 0 = R[j] := by simp [List.getD, hj]
  rw [e] at hl
  rw [List.drop_eq_getElem_cons hj]
  rw [lookG, if_neg (by omega)]
theorem look_found (ds : List On) (q : Nat) (R : List Int) (j : Nat) (hj : j < R.length) (hl : 0 ≤ ctxV ds q (R.getD j 0)) : lookG ds q (R.drop j) = some (ctxV ds q (R.getD j 0)) := by
  have e : R.getD j 0 = R[j] := by simp [List.getD, hj]
  rw [e] at hl ⊢
  rw [List.drop_eq_getElem_cons hj]
  rw [lookG, if_pos hl]
theorem look_facts {ds : List On} (hv : validO ds = true) (k q : Nat) (hk : k < ds.length) (hq : q < 3) : lookO ds k q = lookG ds q (aboveF ds k) := by
  unfold lookO
  rw [if_pos (by unfold rng; simp; omega)]
  simp
theorem above_ctx {ds : List On} (hv : validO ds = true) (k : Nat) (hk : k < ds.length) (j : Nat) (hj : j < (aboveF ds k).length) : ∃ q : Nat, (aboveF ds k).getD j 0 = (q : Int) ∧ q < ds.length ∧ (ds.getD q default).cx.length = 3 := by
  have hm : (aboveF ds k).getD j 0 ∈ aboveF ds k := by
    rw [List.getD_eq_getElem?_getD, List.getElem?_eq_getElem hj]
    exact List.getElem_mem hj
  obtain ⟨q, h1, h2, _⟩ := aboveF_mem ds k _ hm
  exact ⟨q, h1, h2, (okO_ctx hv q h2).1⟩
end Go.Proofs.Ytjhpknnhgbdkiaa
