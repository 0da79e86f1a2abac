/- A state and what ran in one family of rows: the marks of both. -/
import Derived.Test.YtgakgmkonmgblaaGreatZ0

namespace Go.Proofs.YtgakgmkonmgblaaGreat
set_option linter.unusedSimpArgs false
set_option linter.unusedVariables false
open Go.RowKit

/-- The rows of a state, and behind them what ran. -/
def rowsJ (st : Eg) (rn : List Int) : List (List Int) := rowsE st ++ [rn]
/-- A state and what ran, in blocks from lo to hi; the first J rows are marked from k on. -/
def FJ (lo hi : Nat) (A : Option Addr) (n c : Nat) (E : Option Addr) (ec : Nat) (R : Option Addr) (r d : Nat) (st : Eg) (rn : List Int) (k : Int) (J : Nat) (w : World) : Prop :=
  n = st.vs.length ∧ n = st.rs.length ∧ r = rn.length ∧ ∃ us, OwR lo hi 26 1 (.slice E n ec) n us w ∧ SSk lo hi (.slice A n c :: (us ++ [.slice R r d])) (lenOf (rowsJ st rn)) (mkTo (rowsJ st rn) k J) w
/-- Bounds of both. -/
def EJ (st : Eg) (rn : List Int) : Prop := st.vs.length ≤ 2000000 ∧ rn.length ≤ 2000000 ∧ SB2 (rowsJ st rn) ∧ ((rowsJ st rn).map List.length).sum ≤ 1048576
section
variable {lo hi n c ec r d J : Nat} {A E R : Option Addr} {st : Eg} {rn : List Int} {k : Int} {w w' : World}
theorem FJ.loc (lo hi : Nat) (A : Option Addr) (n c : Nat) (E : Option Addr) (ec : Nat) (R : Option Addr) (r d : Nat) (st : Eg) (rn : List Int) (k : Int) (J : Nat) : Loc lo hi (FJ lo hi A n c E ec R r d st rn k J) := by
  rintro w w' ⟨h0, h0', h0'', us, h1, h2⟩ hk
  exact ⟨h0, h0', h0'', us, h1.keep hk, h2.keep hk⟩
theorem rowsJ_len : (rowsJ st rn).length = st.rs.length + 2 := by simp [rowsJ, rowsE]
theorem rowsJ_zero : lenOf (rowsJ st rn) 0 = st.vs.length ∧ rowOf (rowsJ st rn) 0 = st.vs.map (Value.int .i64) := by simp [rowsJ, rowsE, lenOf, rowOf]
theorem rowsJ_last : lenOf (rowsJ st rn) (1 + st.rs.length) = rn.length ∧ rowOf (rowsJ st rn) (1 + st.rs.length) = rn.map (Value.int .i64) := by
  have : (rowsJ st rn).getD (1 + st.rs.length) [] = rn := by
    unfold rowsJ rowsE
    rw [List.getD_eq_getElem?_getD, List.getElem?_append_right (by simp; omega)]
    simp [Nat.add_comm]
  unfold lenOf rowOf
  rw [this]
  exact ⟨rfl, rfl⟩
theorem offJ_state : offOf (rowsJ st rn) (1 + st.rs.length) = ((rowsE st).map List.length).sum := by
  unfold offOf rowsJ
  rw [List.take_append_of_le_length (by simp [rowsE]; omega), List.take_of_length_le (by simp [rowsE]; omega)]
/-- The last row: what ran. -/
theorem FJ.last (h : FJ lo hi A n c E ec R r d st rn k J w) : OwR lo hi 3 1 (.slice R r d) r (mkTo (rowsJ st rn) k J (1 + n)) w := by
  obtain ⟨h0, h0', h0'', us, h1, h2⟩ := h
  have hul : us.length = n := by have := h1.1.1; omega
  obtain ⟨A', m, c', e1, e2, e3⟩ := h2.row (1 + n) (by simp; omega)
  rw [Nat.add_comm 1 n, List.getElem?_cons_succ, List.getElem?_append_right (by omega), hul, Nat.sub_self] at e1
  simp only [List.getElem?_cons_zero, Option.some.injEq, Value.slice.injEq] at e1
  obtain ⟨rfl, rfl, rfl⟩ := e1
  exact e3
/-- The first row: the values. -/
theorem FJ.first (h : FJ lo hi A n c E ec R r d st rn k J w) : OwR lo hi 3 1 (.slice A n c) n (mkTo (rowsJ st rn) k J 0) w := by
  obtain ⟨h0, h0', h0'', us, h1, h2⟩ := h
  obtain ⟨A', m, c', e1, e2, e3⟩ := h2.row 0 (by simp)
  simp only [List.getElem?_cons_zero, Option.some.injEq, Value.slice.injEq] at e1
  obtain ⟨rfl, rfl, rfl⟩ := e1
  exact e3
end

set_option maxRecDepth 100000 in
set_option maxHeartbeats 800000 in
theorem markJ_eager (lo hi : Nat) (A : Option Addr) (n c : Nat) (E : Option Addr) (ec : Nat) (R : Option Addr) (r d : Nat) (st : Eg) (rn : List Int) (k : Int) (w : World) (h : As lo hi (FJ lo hi A n c E ec R r d st rn k 0) w) (hb : EJ st rn) (hk : 0 ≤ k) (hk' : k ≤ 562949953421312) :
    Calls Tryz.prog 26 #[.agg #[.slice A n c, .slice E n ec], .int .i64 k] w fun e w' => MkS lo hi (FJ lo hi A n c E ec R r d st rn k (1 + n)) w (k + (((rowsE st).map List.length).sum : Nat)) e w' := by
  have h2 := h.alloc (.cells #[.slice A n c, .slice E n ec] 29)
  have hle0 := h.le
  have hfi := h2.it.first
  obtain ⟨hn, hen, hrn, us, hr, hss⟩ := h2.it
  have HH := h2.le
  have hul : us.length = n := by have := hr.1.1; omega
  have hn1 : n ≤ 2000000 := by have := hb.1; omega
  have HM0 := Lib.hid (laws_markIntS lo n _ _ k _ hfi.1 hk (by omega) hn1)
  have hsum : ((rowsE st).map List.length).sum = offOf (rowsJ st rn) (1 + n) := by rw [hen, offJ_state]
  have hoff1 : offOf (rowsJ st rn) 1 = n := by unfold offOf rowsJ rowsE; simp [hn]
  have HIN0 := Lib.hid hss
  have HR := Lib.hid hr
  have HSUM := Lib.hid hsum
  have HOFF := Lib.hid hoff1
  have HN := Lib.hid hn
  have HEN := Lib.hid hen
  have HRN := Lib.hid hrn
  have HEB := Lib.hid hb
  have HUL := Lib.hid hul
  have hoffb : (offOf (rowsJ st rn) (1 + n) : Int) ≤ 1048576 := by have := hb.2.2.2; have := offOf_le (rowsJ st rn) (1 + n); omega
  clear h hr hss hsum hoff1 hn hen hrn hb hul h2 hfi
  go_enter Tryz.func26, Tryz.ntmps26
  go_wp2_with fail
  refine HM0.out.mono ?_
  rintro e w1 hm
  have he := hm.1
  have HS1 := Lib.hid (SSk.mark (J := 0) (A := A) (m := n) (c := c) HIN0.out rfl (by rw [rowsJ_zero.1]; exact HN.out) (by simpa [offOf] using hm))
  have HR1 : Hid (OwR lo hi 26 1 (.slice E n ec) n us w1) := by
    obtain ⟨A0, m0, c0, r1, _, r3⟩ := HIN0.out.row 0 (by simp)
    simp only [List.getElem?_cons_zero, Option.some.injEq, Value.slice.injEq] at r1
    obtain ⟨rfl, rfl, rfl⟩ := r1
    exact ⟨HR.out.1.kept hm.2.2 (blocks_ne HR.out.1 r3.1 ints_ne_int.symm), HR.out.2⟩
  have HT1 : Hid (Tch lo hi w w1) := (Tch.of_below ((Below.refl _ _).alloc (Nat.le_refl _) _)).trans (Tch.of_grown hm.2.2 fun q hq => HIN0.out.lt 0 _ q rfl hq)
  have q1 : w1.cell? ⟨w.heap.size, 1, none⟩ = some (.slice E n ec) := by
    refine (World.cell?_of_block (a := ⟨w.heap.size, 1, none⟩) (hm.2.2.block w.heap.size (by simp) ?_)).trans (by go_simp)
    intro hq
    have hx := HIN0.out.lt 0 _ w.heap.size rfl hq.symm
    omega
  rw [Nat.mul_one] at he
  subst he
  clear hm HM0 HIN0 HR
  have HC := Lib.hid (laws_markRows lo hi n 1 (.slice E n ec) us (.slice A n c :: (us ++ [.slice R r d])) (rowsJ st rn) k (k + n) w1 (by rw [HOFF.out]) HR1.out (fun j hj => by rw [Nat.add_comm, List.getElem?_cons_succ, List.getElem?_append_left (by have := HUL.out; omega)]) (by rw [rowsJ_len]; simp [HUL.out, HEN.out]) (by rw [rowsJ_len]; have := HEN.out; omega) HS1.out HEB.out.2.2.1 HEB.out.2.2.2 hk hk')
  go_wp2_with fail
  refine HC.out.mono ?_
  rintro e w2 ⟨he, hr2, hs2, ht2⟩
  subst he
  have HR2 := Lib.hid hr2
  have HS2 := Lib.hid hs2
  have HT2 := Lib.hid ht2
  clear hr2 hs2 ht2 HC
  obtain ⟨o, ho⟩ : ∃ o : Nat, o = offOf (rowsJ st rn) (1 + n) := ⟨_, rfl⟩
  have HO := Lib.hid ho
  rw [← ho]
  clear ho
  go_wp2
  go_ret
  refine ⟨ret_i (by rw [HSUM.out, HO.out]), ⟨⟨HN.out, HEN.out, HRN.out, us, HR2.out, HS2.out⟩, ?_, FJ.loc _ _ _ _ _ _ _ _ _ _ _ _ _ _⟩, HT1.out.trans HT2.out⟩
  have := HT1.out.size
  have := HT2.out.size
  omega

theorem markJ_ints (lo hi : Nat) (A : Option Addr) (n c : Nat) (E : Option Addr) (ec : Nat) (R : Option Addr) (r d : Nat) (st : Eg) (rn : List Int) (k k' : Int) (w : World) (h : As lo hi (FJ lo hi A n c E ec R r d st rn k (1 + n)) w) (hkk : k' = k + (((rowsE st).map List.length).sum : Nat)) (hb : EJ st rn) (hk : 0 ≤ k) (hk' : k ≤ 562949953421312) :
    Calls Tryz.prog 27 #[.slice R r d, .int .i64 k'] w fun e w' => MkS lo hi (FJ lo hi A n c E ec R r d st rn k (2 + n)) w (k' + r) e w' := by
  have hla := h.it.last
  obtain ⟨hn, hen, hrn, us, hr, hss⟩ := h.it
  have hul : us.length = n := by have := hr.1.1; omega
  have hoff : offOf (rowsJ st rn) (1 + n) = ((rowsE st).map List.length).sum := by rw [hen, offJ_state]
  have hJ : (Value.slice A n c :: (us ++ [.slice R r d]))[1 + n]? = some (.slice R r d) := by
    rw [Nat.add_comm 1 n, List.getElem?_cons_succ, List.getElem?_append_right (by omega), hul, Nat.sub_self]; rfl
  have hb4 := hb.2.2.2
  have hof := offOf_le (rowsJ st rn) (1 + n)
  refine (laws_markIntS lo r _ _ k' w hla.1 (by omega) (by omega) (by have := hb.2.1; omega)).mono ?_
  rintro e w1 hm
  have he := hm.1
  rw [Nat.mul_one] at he
  have hs1 := SSk.mark (J := 1 + n) (A := R) (m := r) (c := d) hss hJ (by rw [hen, rowsJ_last.1]; exact hrn) (by rw [hoff, ← hkk]; exact hm)
  have ht : Tch lo hi w w1 := Tch.of_grown hm.2.2 fun q hq => hss.lt (1 + n) _ q hJ hq
  refine ⟨he, ⟨⟨hn, hen, hrn, us, ⟨hr.1.kept hm.2.2 (blocks_ne hr.1 hla.1 ints_ne_int.symm), hr.2⟩, ?_⟩, Nat.le_trans h.le ht.size, FJ.loc _ _ _ _ _ _ _ _ _ _ _ _ _ _⟩, ht⟩
  rw [show 2 + n = 1 + n + 1 by omega]
  exact hs1
end Go.Proofs.YtgakgmkonmgblaaGreat
