/- A state and what ran: the marks are held; the family of an answer. -/
import Derived.Test.YtgakgmkonmgblaaGreatZ1
import Derived.Test.YtgakgmkonmgblaaGreatW3
import Derived.Test.YtgakgmkonmgblaaGreatT41

namespace Go.Proofs.YtgakgmkonmgblaaGreat
set_option linter.unusedSimpArgs false
set_option linter.unusedVariables false
open Go.RowKit

theorem mkTo_lt {yss : List (List Int)} {k : Int} {J j : Nat} (h : j < J) : mkTo yss k J j = mks (k + offOf yss j) (lenOf yss j) := by unfold mkTo; rw [if_pos h]

set_option maxRecDepth 100000 in
set_option maxHeartbeats 800000 in
theorem heldJ_eager (lo hi : Nat) (A : Option Addr) (n c : Nat) (E : Option Addr) (ec : Nat) (R : Option Addr) (r d : Nat) (st : Eg) (rn : List Int) (k : Int) (w : World) (h : As lo hi (FJ lo hi A n c E ec R r d st rn k (2 + n)) w) (hb : EJ st rn) (hk : 0 ≤ k) (hk' : k ≤ 562949953421312) :
    Calls Tryz.prog 28 #[.agg #[.slice A n c, .slice E n ec], .int .i64 k] w fun e w' => e = .returned (.int .i64 (k + (((rowsE st).map List.length).sum : Nat))) ∧ Below w.heap.size w w' := by
  have h2 := h.alloc (.cells #[.slice A n c, .slice E n ec] 29)
  have hfi := h2.it.first
  obtain ⟨hn, hen, hrn, us, hr, hss0⟩ := h2.it
  have hul : us.length = n := by have := hr.1.1; omega
  have hss : SSk lo hi (.slice A n c :: (us ++ [.slice R r d])) (lenOf (rowsJ st rn)) (fun j => mks (k + offOf (rowsJ st rn) j) (lenOf (rowsJ st rn) j)) _ := hss0.congr fun j hj => mkTo_lt (by simp at hj; omega)
  have hn1 : n ≤ 2000000 := by have := hb.1; omega
  have hoff1 : offOf (rowsJ st rn) 1 = n := by unfold offOf rowsJ rowsE; simp [hn]
  have hr0 : OwR lo hi 3 1 (.slice A n c) n (mks k n) (w.alloc (.cells #[.slice A n c, .slice E n ec] 29)) := by
    rw [mkTo_lt (by omega), rowsJ_zero.1, ← hn] at hfi
    simpa [offOf] using hfi
  have HM0 := Lib.hid (laws_heldIntS lo n _ k _ hr0.1 hk (by omega) hn1)
  have hsum : ((rowsE st).map List.length).sum = offOf (rowsJ st rn) (1 + n) := by rw [hen, offJ_state]
  have HSS := Lib.hid hss
  have HR := Lib.hid hr
  have HSUM := Lib.hid hsum
  have HOFF := Lib.hid hoff1
  have HEN := Lib.hid hen
  have HEB := Lib.hid hb
  have HUL := Lib.hid hul
  have hoffb : (offOf (rowsJ st rn) (1 + n) : Int) ≤ 1048576 := by have := hb.2.2.2; have := offOf_le (rowsJ st rn) (1 + n); omega
  clear h hr hss hss0 hsum hoff1 hn hen hrn hb hul hr0 h2 hfi
  go_enter Tryz.func28, Tryz.ntmps28
  go_wp2_with fail
  refine HM0.out.mono ?_
  rintro e w1 ⟨rfl, hb⟩
  have q1 : w1.cell? ⟨w.heap.size, 1, none⟩ = some (.slice E n ec) := (hb.cell (p := ⟨w.heap.size, 1, none⟩) (by simp)).trans (by go_simp)
  have hnn : ¬ k + (n : Int) < 0 := by omega
  have HR1 : Hid (OwR lo hi 26 1 (.slice E n ec) n us w1) := ⟨own_below HR.out.1 hb, HR.out.2⟩
  have HS1 : Hid (SSk lo hi (.slice A n c :: (us ++ [.slice R r d])) (lenOf (rowsJ st rn)) (fun j => mks (k + offOf (rowsJ st rn) j) (lenOf (rowsJ st rn) j)) w1) :=
    ⟨fun j hj => by obtain ⟨A', m, c', r1, r2, r3⟩ := HSS.out.row j hj; exact ⟨A', m, c', r1, r2, r3.step hb⟩, HSS.out.apart⟩
  have HC := Lib.hid (laws_heldRows lo hi n 1 (.slice E n ec) us (.slice A n c :: (us ++ [.slice R r d])) (rowsJ st rn) k (k + n) w1 (by rw [HOFF.out]) HR1.out (fun j hj => by rw [Nat.add_comm, List.getElem?_cons_succ, List.getElem?_append_left (by have := HUL.out; omega)]) (by rw [rowsJ_len]; simp [HUL.out, HEN.out]) (by rw [rowsJ_len]; have := HEN.out; omega) HS1.out HEB.out.2.2.1 HEB.out.2.2.2 hk hk')
  have HB1 := Lib.hid (((Below.refl w.heap.size w).alloc (Nat.le_refl _) (.cells #[.slice A n c, .slice E n ec] 29)).trans (hb.mono (by simp)))
  clear hb HM0 HSS HR HR1 HS1
  go_wp2_with fail
  refine HC.out.mono ?_
  rintro e w2 ⟨he, hb2⟩
  subst he
  obtain ⟨o, ho⟩ : ∃ o : Nat, o = offOf (rowsJ st rn) (1 + n) := ⟨_, rfl⟩
  have HO := Lib.hid ho
  rw [← ho]
  have ho' : ¬ k + (o : Int) < 0 := by omega
  clear ho
  go_wp2
  go_ret
  exact ⟨ret_i (by rw [HSUM.out, HO.out]), HB1.out.trans (hb2.mono HB1.out.size)⟩

theorem heldJ_ints (lo hi : Nat) (A : Option Addr) (n c : Nat) (E : Option Addr) (ec : Nat) (R : Option Addr) (r d : Nat) (st : Eg) (rn : List Int) (k k' : Int) (w : World) (h : As lo hi (FJ lo hi A n c E ec R r d st rn k (2 + n)) w) (hkk : k' = k + (((rowsE st).map List.length).sum : Nat)) (hb : EJ st rn) (hk : 0 ≤ k) (hk' : k ≤ 562949953421312) :
    Calls Tryz.prog 29 #[.slice R r d, .int .i64 k'] w fun e w' => e = .returned (.int .i64 (k' + r)) ∧ Below w.heap.size w w' := by
  have hla := h.it.last
  obtain ⟨hn, hen, hrn, -⟩ := h.it
  have hoff : offOf (rowsJ st rn) (1 + n) = ((rowsE st).map List.length).sum := by rw [hen, offJ_state]
  have hof := offOf_le (rowsJ st rn) (1 + n)
  have hb4 := hb.2.2.2
  rw [mkTo_lt (by omega), hoff, ← hkk] at hla
  have hl : lenOf (rowsJ st rn) (1 + n) = r := by rw [hen, rowsJ_last.1, hrn]
  rw [hl] at hla
  exact laws_heldIntS lo r _ k' w hla.1 (by omega) (by omega) (by have := hb.2.1; omega)

section
variable {lo hi n c ec r d : Nat} {A E R : Option Addr} {st : Eg} {ch rn : List Int} {k : Int} {w w' : World} {U : List Value}
/-- The family of an answer. -/
theorem FJ.of_wf (h : WF lo E ec n U st.vs ch rn st.rs w) (hn : n = st.vs.length) (h0 : U[0]? = some (.slice A n c)) (h2 : U[2]? = some (.slice R r d)) (k : Int) : FJ lo w.heap.size A n c E ec R r d st rn k 0 w := by
  have hul := h.ul
  have hrl := h.rl
  have hdl : (U.drop 3).length = n := by rw [List.length_drop]; omega
  have hr : r = rn.length := by
    obtain ⟨A', m, c', e1, e2, -⟩ := h.at_ 2 (by omega)
    rw [h2] at e1
    cases e1
    simpa [lenOf] using e2
  have key : ∀ j, j < n + 2 → ∃ i, i < n + 3 ∧ (i = if j = 0 then 0 else if j ≤ n then j + 2 else 2) ∧ (Value.slice A n c :: (U.drop 3 ++ [.slice R r d]))[j]? = U[i]? ∧ (rowsJ st rn).getD j [] = (st.vs :: ch :: rn :: st.rs).getD i [] := by
    intro j hj
    cases j with
    | zero => exact ⟨0, by omega, by simp, by rw [h0]; rfl, by simp [rowsJ, rowsE]⟩
    | succ j =>
      rcases Nat.lt_or_ge j n with h1 | h1
      · refine ⟨j + 3, by omega, by rw [if_neg (by omega), if_pos (by omega)], ?_, ?_⟩
        · rw [List.getElem?_cons_succ, List.getElem?_append_left (by omega), List.getElem?_drop, Nat.add_comm]
        · simp only [rowsJ, rowsE, List.cons_append, List.getD_cons_succ]
          rw [List.getD_eq_getElem?_getD, List.getElem?_append_left (by omega), ← List.getD_eq_getElem?_getD]
      · obtain rfl : j = n := by omega
        refine ⟨2, by omega, by rw [if_neg (by omega), if_neg (by omega)], ?_, ?_⟩
        · rw [List.getElem?_cons_succ, List.getElem?_append_right (by omega), hdl, Nat.sub_self, h2]; rfl
        · simp only [rowsJ, rowsE, List.cons_append, List.getD_cons_succ]
          rw [List.getD_eq_getElem?_getD, List.getElem?_append_right (by omega), ← hrl, Nat.sub_self]
          rfl
  refine ⟨hn, hrl, hr, U.drop 3, ⟨h.top, fun q hq => (h.top.lt q hq).2⟩, ⟨fun j hj => ?_, fun i j v u b hij hi hj hv hu => ?_⟩⟩
  · have hj' : j < n + 2 := by simp at hj; omega
    obtain ⟨i, i1, -, i3, i4⟩ := key j hj'
    obtain ⟨A', m, c', e1, e2, e3⟩ := h.fam.row i (by omega)
    refine ⟨A', m, c', i3.trans e1, ?_, ?_⟩
    · rw [e2]; unfold lenOf; rw [i4]
    · rw [mkTo_zero]
      unfold rowOf at e3 ⊢
      rw [i4]
      exact e3
  · have li : i < n + 2 := by
      have := (List.getElem?_eq_some_iff.1 hi).1
      simp at this; omega
    have lj : j < n + 2 := by
      have := (List.getElem?_eq_some_iff.1 hj).1
      simp at this; omega
    obtain ⟨i', i1, i2, i3, -⟩ := key i li
    obtain ⟨j', j1, j2, j3, -⟩ := key j lj
    refine h.fam.apart i' j' v u b ?_ (i3.symm.trans hi) (j3.symm.trans hj) hv hu
    rw [i2, j2]
    repeat' split
    all_goals omega
/-- What is read of it. -/
theorem FJ.reads (h : FJ lo hi A n c E ec R r d st rn k 0 w) : ES w hi A E st ∧ IS w hi R rn := by
  have hla := h.last
  have hfi := h.first
  obtain ⟨hn, hen, hrn, us, h1, h2⟩ := h
  have hul : us.length = n := by have := h1.1.1; omega
  rw [mkTo_zero] at hla hfi h2
  rw [hen, rowsJ_last.2] at hla
  rw [rowsJ_zero.2] at hfi
  refine ⟨⟨hfi.ints, OwSS.lists (n := n) (c := ec) ⟨hen, us, h1, fun j hj => ?_, fun i j v u b hij hi hj hv hu => ?_⟩⟩, ?_⟩
  · obtain ⟨A', m, c', e1, e2, e3⟩ := h2.row (j + 1) (by simp; omega)
    rw [List.getElem?_cons_succ, List.getElem?_append_left hj] at e1
    have e : (rowsJ st rn).getD (j + 1) [] = st.rs.getD j [] := by
      simp only [rowsJ, rowsE, List.cons_append, List.getD_cons_succ]
      rw [List.getD_eq_getElem?_getD, List.getElem?_append_left (by omega), ← List.getD_eq_getElem?_getD]
    refine ⟨A', m, c', e1, ?_, ?_⟩
    · rw [e2]; unfold lenOf; rw [e]
    · unfold rowOf at e3 ⊢; rw [← e]; exact e3
  · have li := (List.getElem?_eq_some_iff.1 hi).1
    have lj := (List.getElem?_eq_some_iff.1 hj).1
    exact h2.apart (i + 1) (j + 1) v u b (by omega) (by rw [List.getElem?_cons_succ, List.getElem?_append_left li]; exact hi) (by rw [List.getElem?_cons_succ, List.getElem?_append_left lj]; exact hj) hv hu
  · exact hla.ints
end
end Go.Proofs.YtgakgmkonmgblaaGreat
